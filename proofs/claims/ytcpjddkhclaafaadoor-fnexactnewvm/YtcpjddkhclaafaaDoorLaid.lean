/-
  From the listed variable to what the walks ask: the program's table of instructions.
-/
import Derived.Test.YtcpjddkhclaafaaDoorRows
import Derived.Test.YtcpjddkhclaafaaDoorIns1
import Derived.Lib.LaidTab
import Derived.ProofKit
import Derived.LaidMore
import Derived.Stop.LaidErr
import Derived.Stop.Joined
namespace Go.Proofs.YtcpjddkhclaafaaDoor
open Go.ChangeShapes Go.WideShapes Go.RowKit Exs

def kD {H : Type} (j : Nat) : DataW H := .agg [.lit (.string (kW j)), .lit (.int .i64 (kT j)), .lit (.int .i64 (kP j)), .lit (.int .i64 (kL j)), .lit (.int .i64 (kM j))]
theorem laid_eq {H : Type} : (Rows.laid_loop_example_g00745_impl_insKinds : DataW H) = .agg ((List.range 19).map kD) := by rfl

theorem Tryd.fields116 : ∃ f0 f1 f2 f3 f4 : Field, Tryd.prog.underlying 116 = some (.struct #[f0, f1, f2, f3, f4]) ∧ (f0.offset = 0 ∧ f1.offset = 1 ∧ f2.offset = 2 ∧ f3.offset = 3 ∧ f4.offset = 4) ∧ f0.type = 9 ∧ f1.type = 3 ∧ f2.type = 3 ∧ f3.type = 3 ∧ f4.type = 3 :=
  ⟨_, _, _, _, _, Tryd.underlying116, ⟨rfl, rfl, rfl, rfl, rfl⟩, rfl, rfl, rfl, rfl, rfl⟩

theorem kinds_of_cells {H : Type} {enc : TypeId × Value → H} {w : World} {base : Nat} {sp : Nat → Bool} {held : Bool} {fuel : Nat} {cs : List Value} {p : List MemPlace}
    (h : DataW.trod enc Tryd.prog w base sp held fuel 117 cs = some (.agg ((List.range 19).map kD), p)) : ∀ i, i < 19 → cs[i * 5]? = some (.string (strK (kW i))) ∧ cs[i * 5 + 1]? = some (.int .i64 (kT i)) ∧ cs[i * 5 + 2]? = some (.int .i64 (kP i)) ∧ cs[i * 5 + 3]? = some (.int .i64 (kL i)) ∧ cs[i * 5 + 4]? = some (.int .i64 (kM i)) := by
  have hce : Tryd.prog.cellsOf 116 = 5 := by kernel_rfl
  have hct : Tryd.prog.cellsOf 117 = 95 := by kernel_rfl
  have c9 : Tryd.prog.cellsOf 9 = 1 := by kernel_rfl
  have c3 : Tryd.prog.cellsOf 3 = 1 := by kernel_rfl
  obtain ⟨f0, f1, f2, f3, f4, he, ⟨o0, o1, o2, o3, o4⟩, t0, t1, t2, t3, t4⟩ := Tryd.fields116
  cases fuel with
  | zero => simp [DataW.trod] at h
  | succ fuel =>
    simp only [DataW.trod, Tryd.underlying117, hce, hct] at h
    split at h
    · obtain ⟨xs, hm, hx⟩ := Option.map_eq_some_iff.1 h
      have hxs : xs.map (·.1) = (List.range 19).map fun j => (kD j : DataW H) := by
        have := congrArg Prod.fst hx
        simpa using this
      intro i hi
      obtain ⟨b, hb, hf⟩ := Lib.mapM_at hm i i (by simp [hi])
      obtain ⟨ys, n, _, rfl, hl, hlen, hff⟩ := DataW.trod_struct he hf
      have h2 : (xs.map (·.1))[i]? = some (DataW.agg (ys.map (·.1)) : DataW H) := by simp [hb]
      rw [hxs] at h2
      simp [hi, kD] at h2
      match ys, hlen with
      | [y0, y1, y2, y3, y4], _ =>
        simp at h2
        obtain ⟨e0, e1, e2, e3, e4⟩ := h2
        have g0 := hff 0 f0 rfl
        have g1 := hff 1 f1 rfl
        have g2 := hff 2 f2 rfl
        have g3 := hff 3 f3 rfl
        have g4 := hff 4 f4 rfl
        rw [t0, o0, c9] at g0
        rw [t1, o1, c3] at g1
        rw [t2, o2, c3] at g2
        rw [t3, o3, c3] at g3
        rw [t4, o4, c3] at g4
        obtain ⟨s, q0, hy0, _⟩ := DataW.trod_string Tryd.underlying9 (show _ = some y0 from g0)
        obtain ⟨z1, q1, hy1, _⟩ := DataW.trod_int Tryd.underlying3 (show _ = some y1 from g1)
        obtain ⟨z2, q2, hy2, _⟩ := DataW.trod_int Tryd.underlying3 (show _ = some y2 from g2)
        obtain ⟨z3, q3, hy3, _⟩ := DataW.trod_int Tryd.underlying3 (show _ = some y3 from g3)
        obtain ⟨z4, q4, hy4, _⟩ := DataW.trod_int Tryd.underlying3 (show _ = some y4 from g4)
        subst hy0 hy1 hy2 hy3 hy4
        simp at e0 e1 e2 e3 e4
        have at_ : ∀ (j : Nat) (v : Value), j < 5 → (List.take 1 (List.drop j (List.take 5 (List.drop (i * 5) cs)))) = [v] → cs[i * 5 + j]? = some v := fun j v hj hv => by
          have := congrArg (·[0]?) hv
          simpa [List.getElem?_take, List.getElem?_drop, hj] using this
        refine ⟨?_, ?_, ?_, ?_, ?_⟩
        · have := at_ 0 _ (by omega) q0
          rw [Nat.add_zero] at this
          rw [this, e0]
          rfl
        · rw [at_ 1 _ (by omega) q1, e1]
        · rw [at_ 2 _ (by omega) q2, e2]
        · rw [at_ 3 _ (by omega) q3, e3]
        · rw [at_ 4 _ (by omega) q4, e4]
    · cases h

theorem gKinds : Tryd.prog.globalNamed "loop.example/g00745/impl.insKinds" = some 0 := by kernel_rfl
theorem tKinds : (Tryd.prog.globals[0]?).map (·.type) = some 117 := by kernel_rfl

/-- The table, where it is the first of the list. -/
theorem kinds_of_laid {W : World} {rest : List (String × DataW Unit)} (h : laidMet Tryd.prog (("loop.example/g00745/impl.insKinds", Rows.laid_loop_example_g00745_impl_insKinds) :: rest) W) : Kinds W := by
  obtain ⟨ps, ⟨g', t', cs, fuel, p, q, hg', ht', hvar, hd, _, _⟩, _⟩ := h
  obtain rfl := Option.some.inj (gKinds.symm.trans hg')
  obtain rfl := Option.some.inj (tKinds.symm.trans ht')
  rw [laid_eq] at hd
  have hcs := kinds_of_cells hd
  intro j hj
  obtain ⟨a, b, c, d, e⟩ := hcs j hj
  have h1 := fun i => World.var?_cell gKinds hvar i
  refine ⟨?_, ?_, ?_, ?_, ?_⟩
  · rw [h1, ← Array.getElem?_toList, a]
  · rw [h1, ← Array.getElem?_toList, b]
  · rw [h1, ← Array.getElem?_toList, c]
  · rw [h1, ← Array.getElem?_toList, d]
  · rw [h1, ← Array.getElem?_toList, e]

end Go.Proofs.YtcpjddkhclaafaaDoor

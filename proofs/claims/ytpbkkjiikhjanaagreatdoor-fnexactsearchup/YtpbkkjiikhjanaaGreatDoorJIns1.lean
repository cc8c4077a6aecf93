/-
  Texts joined: Ins1 Laid.
-/
import Derived.Test.YtpbkkjiikhjanaaGreatDoorJPut
import Derived.Deep.RegionLaw
import Derived.Test.YtpbkkjiikhjanaaGreatDoorRows
import Derived.Lib.LaidTab
import Derived.ProofKit
import Derived.LaidMore
import Derived.Stop.LaidErr
import Derived.Stop.Joined
/-
  Instructions: whether one is good, where it goes on. Both sides' contracts, against one plain answer.
-/
namespace Go.Proofs.YtpbkkjiikhjanaaGreatDoor
open Go.RowKit Exs

def hasN (op : Int) : Bool := op == 1 || op == 2 || op == 3 || op == 4 || op == 7 || op == 10 || op == 11 || op == 12 || op == 17
/-- Whether it is an instruction. -/
def insB (op n : Int) : Bool := if op = 1 then bound n else if op = 4 then within n 3 8 else if hasN op then within n 0 1000000 else within op 1 18 && n == 0
/-- Where it goes on. -/
def nxL (op n at_ : Int) : List Int := if op = 10 then [n] else if op = 11 then putL [at_ + 1] n else if op = 13 ∨ op = 14 ∨ op = 16 ∨ op = 18 then [] else [at_ + 1]

theorem hasN_iff (op : Int) : hasN op = true ↔ op = 1 ∨ op = 2 ∨ op = 3 ∨ op = 4 ∨ op = 7 ∨ op = 10 ∨ op = 11 ∨ op = 12 ∨ op = 17 := by
  simp [hasN, or_assoc]

set_option maxHeartbeats 400000 in
theorem l5HasN_any (op : Int) (w : World) : Calls Tryz.prog 125 #[.int .i64 op] w fun e w' => e = .returned (.bool (hasN op)) ∧ w = w' := by
  by_cases h : hasN op = true
  · rcases (hasN_iff op).1 h with rfl | rfl | rfl | rfl | rfl | rfl | rfl | rfl | rfl
    all_goals
      clear h
      go_enter Tryz.func125, Tryz.ntmps125
      go_wp2
      go_ret
      exact ⟨rfl, rfl⟩
  · have h0 : hasN op = false := by simpa using h
    rw [h0]
    have hn := fun hh => h ((hasN_iff op).2 hh)
    have a1 : (op == 1) = false := beq_of fun e => hn (by omega)
    have a2 : (op == 2) = false := beq_of fun e => hn (by omega)
    have a3 : (op == 3) = false := beq_of fun e => hn (by omega)
    have a4 : (op == 4) = false := beq_of fun e => hn (by omega)
    have a5 : (op == 7) = false := beq_of fun e => hn (by omega)
    have a6 : (op == 10) = false := beq_of fun e => hn (by omega)
    have a7 : (op == 11) = false := beq_of fun e => hn (by omega)
    have a8 : (op == 12) = false := beq_of fun e => hn (by omega)
    have a9 : (op == 17) = false := beq_of fun e => hn (by omega)
    clear hn h h0
    go_enter Tryz.func125, Tryz.ntmps125
    go_wp2
    go_ret
    exact ⟨rfl, rfl⟩

set_option maxHeartbeats 400000 in
theorem l5Ins_any (op n : Int) (w : World) : Calls Tryz.prog 102 #[.agg #[.int .i64 op, .int .i64 n]] w fun e w' => e = .returned (.bool (insB op n)) ∧ Below w.heap.size w w' := by
  have hb := (Below.refl w.heap.size w).alloc (Nat.le_refl _) (Obj.cells #[.int .i64 op, .int .i64 n] 129)
  by_cases h1 : op = 1
  · subst h1
    have hi : insB 1 n = bound n := rfl
    rw [hi]
    go_enter Tryz.func102, Tryz.ntmps102
    go_wp2_with fail
    refine (l2Bound_any n _).mono ?_
    rintro e w1 ⟨rfl, rfl⟩
    go_wp2
    go_ret
    exact ⟨rfl, hb⟩
  by_cases h4 : op = 4
  · subst h4
    have hi : insB 4 n = within n 3 8 := rfl
    rw [hi]
    go_enter Tryz.func102, Tryz.ntmps102
    go_wp2_with fail
    refine (l1In_any n 3 8 _).mono ?_
    rintro e w1 ⟨rfl, rfl⟩
    go_wp2
    go_ret
    exact ⟨rfl, hb⟩
  have b1 := beq_of h1
  have b4 := beq_of h4
  have hi : insB op n = if hasN op then within n 0 1000000 else within op 1 18 && n == 0 := by unfold insB; rw [if_neg h1, if_neg h4]
  rw [hi]
  clear hi h1 h4
  cases hN : hasN op
  · have HN := put hN
    clear hN
    cases hw : within op 1 18
    · have HW := put hw
      clear hw
      go_enter Tryz.func102, Tryz.ntmps102
      go_wp2_with fail
      refine (l5HasN_any op _).mono ?_
      rintro e w1 ⟨rfl, rfl⟩
      rw [HN.out]
      go_wp2_with fail
      refine (l1In_any op 1 18 _).mono ?_
      rintro e w1 ⟨rfl, rfl⟩
      rw [HW.out]
      go_wp2
      go_ret
      exact ⟨by simp, hb⟩
    · have HW := put hw
      clear hw
      go_enter Tryz.func102, Tryz.ntmps102
      go_wp2_with fail
      refine (l5HasN_any op _).mono ?_
      rintro e w1 ⟨rfl, rfl⟩
      rw [HN.out]
      go_wp2_with fail
      refine (l1In_any op 1 18 _).mono ?_
      rintro e w1 ⟨rfl, rfl⟩
      rw [HW.out]
      go_wp2
      go_ret
      exact ⟨by simp, hb⟩
  · have HN := put hN
    clear hN
    go_enter Tryz.func102, Tryz.ntmps102
    go_wp2_with fail
    refine (l5HasN_any op _).mono ?_
    rintro e w1 ⟨rfl, rfl⟩
    rw [HN.out]
    go_wp2_with fail
    refine (l1In_any n 0 1000000 _).mono ?_
    rintro e w1 ⟨rfl, rfl⟩
    go_wp2
    go_ret
    exact ⟨by simp, hb⟩

/-! The program's table. -/
def kT (op : Int) : Int := if op = 3 ∨ op = 8 ∨ op = 9 ∨ op = 11 ∨ op = 13 ∨ op = 15 then 1 else if op = 4 then 2 else 0
def kP (op : Int) : Int := if op = 1 ∨ op = 2 ∨ op = 4 ∨ op = 5 ∨ op = 6 ∨ op = 7 then 1 else 0
def kL (op : Int) : Int := if op = 1 then -2147483648 else if op = 4 then 3 else 0
def kM (op : Int) : Int := if op = 1 then 2147483647 else if op = 4 then 8 else if op = 2 ∨ op = 3 ∨ op = 7 ∨ op = 10 ∨ op = 11 ∨ op = 12 ∨ op = 17 then 1000000 else 0
def kW (j : Nat) : List UInt8 := ([[], [110, 117, 109], [118, 97, 114], [115, 101, 116], [114, 101, 99, 107, 111, 110], [105, 110, 112, 117, 116], [114, 101, 99, 111, 118, 101, 114], [99, 97, 108, 108], [112, 114, 105, 110, 116], [100, 114, 111, 112], [106, 117, 109, 112], [117, 110, 108, 101, 115, 115], [112, 117, 116], [112, 97, 110, 105, 99], [101, 120, 105, 116], [114, 101, 115, 117, 108, 116], [108, 101, 97, 118, 101], [111, 102, 102], [101, 110, 100]] : List (List UInt8)).getD j []
def strK (l : List UInt8) : ByteArray := ⟨l.toArray⟩

/-- The table lies in block 0. -/
def Kinds (w : World) : Prop := ∀ j : Nat, j < 19 → w.cell? ⟨0, j * 5, none⟩ = some (.string (strK (kW j))) ∧ w.cell? ⟨0, j * 5 + 1, none⟩ = some (.int .i64 (kT j)) ∧ w.cell? ⟨0, j * 5 + 2, none⟩ = some (.int .i64 (kP j)) ∧ w.cell? ⟨0, j * 5 + 3, none⟩ = some (.int .i64 (kL j)) ∧ w.cell? ⟨0, j * 5 + 4, none⟩ = some (.int .i64 (kM j))
theorem Kinds.below {w w' : World} {B : Nat} (h : Kinds w) (hb : Below B w w') (h0 : 0 < B) : Kinds w' := fun j hj => by
  obtain ⟨a, b, c, d, e⟩ := h j hj
  exact ⟨(hb.cell (p := ⟨0, _, none⟩) h0).trans a, (hb.cell (p := ⟨0, _, none⟩) h0).trans b, (hb.cell (p := ⟨0, _, none⟩) h0).trans c, (hb.cell (p := ⟨0, _, none⟩) h0).trans d, (hb.cell (p := ⟨0, _, none⟩) h0).trans e⟩

theorem insB_eq (op n : Int) : insB op n = decide (1 ≤ op ∧ op ≤ 18 ∧ kL op ≤ n ∧ n ≤ kM op) := by
  unfold insB kL kM
  by_cases h1 : op = 1
  · subst h1; simp [bound, within]
  by_cases h4 : op = 4
  · subst h4; simp [within]
  rw [if_neg h1, if_neg h4, if_neg h1, if_neg h4, if_neg h1, if_neg h4]
  cases hN : hasN op
  · have hn : ¬ _ := fun hh => by have := (hasN_iff op).2 hh; rw [hN] at this; cases this
    rw [if_neg (by decide), if_neg (fun hh => hn (by omega))]
    simp only [within]
    rw [Bool.eq_iff_iff]
    simp
    omega
  · have hh := (hasN_iff op).1 hN
    rw [if_pos rfl, if_pos (by omega)]
    simp only [within]
    rw [Bool.eq_iff_iff]
    simp
    omega

set_option maxHeartbeats 1000000 in
theorem goodIns_any (op n : Int) (w : World) (hk : Kinds w) (hpos : 0 < w.heap.size) : Calls Tryz.prog 127 #[.agg #[.int .i64 op, .int .i64 n]] w fun e w' => e = .returned (.bool (insB op n)) ∧ Below w.heap.size w w' := by
  have hb := (Below.refl w.heap.size w).alloc (Nat.le_refl _) (Obj.cells #[.int .i64 op, .int .i64 n] 129)
  have hk1 := hk.below hb hpos
  clear hk
  rw [insB_eq]
  by_cases h1 : 1 ≤ op
  · by_cases h2 : op ≤ 18
    · obtain ⟨j, rfl⟩ : ∃ j : Nat, op = (j : Int) := ⟨op.toNat, by omega⟩
      obtain ⟨c0, c1, c2, c3, c4⟩ := hk1 j (by omega)
      obtain ⟨a, ha⟩ : ∃ a, kL j = a := ⟨_, rfl⟩
      obtain ⟨b, hb'⟩ : ∃ b, kM j = b := ⟨_, rfl⟩
      rw [ha, hb']
      rw [ha] at c3
      rw [hb'] at c4
      clear ha hb' c0 c1 c2 hk1
      by_cases h3 : a ≤ n
      · by_cases h4 : n ≤ b
        · rw [decide_eq_true ⟨h1, h2, h3, h4⟩]
          have d4 : decide (n ≤ b) = true := decide_eq_true h4
          go_enter Tryz.func127, Tryz.ntmps127
          go_wp2
          go_quiet (fail)
          go_wp2
          go_ret
          exact ⟨by first | rfl | (simp [*]; done), below_drewN hb _⟩
        · rw [decide_eq_false (fun h => h4 h.2.2.2)]
          have d4 : decide (n ≤ b) = false := decide_eq_false h4
          go_enter Tryz.func127, Tryz.ntmps127
          go_wp2
          go_quiet (fail)
          go_wp2
          go_ret
          exact ⟨by first | rfl | (simp [*]; done), below_drewN hb _⟩
      · rw [decide_eq_false (fun h => h3 h.2.2.1)]
        have d3 : decide (a ≤ n) = false := decide_eq_false h3
        have h3 : n < a := by omega
        go_enter Tryz.func127, Tryz.ntmps127
        go_wp2
        go_quiet (fail)
        go_wp2
        go_ret
        exact ⟨by first | rfl | (simp [*]; done), below_drewN hb _⟩
    · rw [decide_eq_false (fun h => h2 h.2.1)]
      have d2 : decide (op ≤ 18) = false := decide_eq_false h2
      have h2 : 18 < op := by omega
      go_enter Tryz.func127, Tryz.ntmps127
      go_wp2
      go_quiet (fail)
      go_wp2
      go_ret
      exact ⟨by first | rfl | (simp [*]; done), below_drewN hb _⟩
  · rw [decide_eq_false (fun h => h1 h.1)]
    have d1 : decide (1 ≤ op) = false := decide_eq_false h1
    have h1 : op < 1 := by omega
    go_enter Tryz.func127, Tryz.ntmps127
    go_wp2
    go_quiet (fail)
    go_wp2
    go_ret
    exact ⟨by first | rfl | (simp [*]; done), below_drewN hb _⟩

end Go.Proofs.YtpbkkjiikhjanaaGreatDoor

/-
  From the listed variable to what the walks ask: the program's table of instructions.
-/
namespace Go.Proofs.YtpbkkjiikhjanaaGreatDoor
open Go.ChangeShapes Go.WideShapes Go.RowKit Exs

def kD {H : Type} (j : Nat) : DataW H := .agg [.lit (.string (kW j)), .lit (.int .i64 (kT j)), .lit (.int .i64 (kP j)), .lit (.int .i64 (kL j)), .lit (.int .i64 (kM j))]
theorem laid_eq {H : Type} : (Rows.laid_loop_example_g00745_impl_insKinds : DataW H) = .agg ((List.range 19).map kD) := by rfl

theorem Tryz.fields159 : ∃ f0 f1 f2 f3 f4 : Field, Tryz.prog.underlying 159 = some (.struct #[f0, f1, f2, f3, f4]) ∧ (f0.offset = 0 ∧ f1.offset = 1 ∧ f2.offset = 2 ∧ f3.offset = 3 ∧ f4.offset = 4) ∧ f0.type = 9 ∧ f1.type = 3 ∧ f2.type = 3 ∧ f3.type = 3 ∧ f4.type = 3 :=
  ⟨_, _, _, _, _, Tryz.underlying159, ⟨rfl, rfl, rfl, rfl, rfl⟩, rfl, rfl, rfl, rfl, rfl⟩

theorem kinds_of_cells {H : Type} {enc : TypeId × Value → H} {w : World} {base : Nat} {sp : Nat → Bool} {held : Bool} {fuel : Nat} {cs : List Value} {p : List MemPlace}
    (h : DataW.trod enc Tryz.prog w base sp held fuel 160 cs = some (.agg ((List.range 19).map kD), p)) : ∀ i, i < 19 → cs[i * 5]? = some (.string (strK (kW i))) ∧ cs[i * 5 + 1]? = some (.int .i64 (kT i)) ∧ cs[i * 5 + 2]? = some (.int .i64 (kP i)) ∧ cs[i * 5 + 3]? = some (.int .i64 (kL i)) ∧ cs[i * 5 + 4]? = some (.int .i64 (kM i)) := by
  have hce : Tryz.prog.cellsOf 159 = 5 := by kernel_rfl
  have hct : Tryz.prog.cellsOf 160 = 95 := by kernel_rfl
  have c9 : Tryz.prog.cellsOf 9 = 1 := by kernel_rfl
  have c3 : Tryz.prog.cellsOf 3 = 1 := by kernel_rfl
  obtain ⟨f0, f1, f2, f3, f4, he, ⟨o0, o1, o2, o3, o4⟩, t0, t1, t2, t3, t4⟩ := Tryz.fields159
  cases fuel with
  | zero => simp [DataW.trod] at h
  | succ fuel =>
    simp only [DataW.trod, Tryz.underlying160, hce, hct] at h
    split at h
    · obtain ⟨xs, hm, hx⟩ := Option.map_eq_some_iff.1 h
      have hxs : xs.map (·.1) = (List.range 19).map fun j => (kD j : DataW H) := by
        have := congrArg Prod.fst hx
        simpa using this
      intro i hi
      obtain ⟨b, hb, hf⟩ := Lib.mapM_at hm i i (by simp [hi])
      obtain ⟨ys, n, _, rfl, hl, hlen, hff⟩ := DataW.trod_struct he hf
      have h2 : (xs.map (·.1))[i]? = some (DataW.agg (ys.map (·.1)) : DataW H) := by simp [hb]
      rw [hxs] at h2
      simp [hi, kD] at h2
      match ys, hlen with
      | [y0, y1, y2, y3, y4], _ =>
        simp at h2
        obtain ⟨e0, e1, e2, e3, e4⟩ := h2
        have g0 := hff 0 f0 rfl
        have g1 := hff 1 f1 rfl
        have g2 := hff 2 f2 rfl
        have g3 := hff 3 f3 rfl
        have g4 := hff 4 f4 rfl
        rw [t0, o0, c9] at g0
        rw [t1, o1, c3] at g1
        rw [t2, o2, c3] at g2
        rw [t3, o3, c3] at g3
        rw [t4, o4, c3] at g4
        obtain ⟨s, q0, hy0, _⟩ := DataW.trod_string Tryz.underlying9 (show _ = some y0 from g0)
        obtain ⟨z1, q1, hy1, _⟩ := DataW.trod_int Tryz.underlying3 (show _ = some y1 from g1)
        obtain ⟨z2, q2, hy2, _⟩ := DataW.trod_int Tryz.underlying3 (show _ = some y2 from g2)
        obtain ⟨z3, q3, hy3, _⟩ := DataW.trod_int Tryz.underlying3 (show _ = some y3 from g3)
        obtain ⟨z4, q4, hy4, _⟩ := DataW.trod_int Tryz.underlying3 (show _ = some y4 from g4)
        subst hy0 hy1 hy2 hy3 hy4
        simp at e0 e1 e2 e3 e4
        have at_ : ∀ (j : Nat) (v : Value), j < 5 → (List.take 1 (List.drop j (List.take 5 (List.drop (i * 5) cs)))) = [v] → cs[i * 5 + j]? = some v := fun j v hj hv => by
          have := congrArg (·[0]?) hv
          simpa [List.getElem?_take, List.getElem?_drop, hj] using this
        refine ⟨?_, ?_, ?_, ?_, ?_⟩
        · have := at_ 0 _ (by omega) q0
          rw [Nat.add_zero] at this
          rw [this, e0]
          rfl
        · rw [at_ 1 _ (by omega) q1, e1]
        · rw [at_ 2 _ (by omega) q2, e2]
        · rw [at_ 3 _ (by omega) q3, e3]
        · rw [at_ 4 _ (by omega) q4, e4]
    · cases h

theorem gKinds : Tryz.prog.globalNamed "loop.example/g00745/impl.insKinds" = some 0 := by kernel_rfl
theorem tKinds : (Tryz.prog.globals[0]?).map (·.type) = some 160 := by kernel_rfl

/-- The table, where it is the first of the list. -/
theorem kinds_of_laid {W : World} {rest : List (String × DataW Unit)} (h : laidMet Tryz.prog (("loop.example/g00745/impl.insKinds", Rows.laid_loop_example_g00745_impl_insKinds) :: rest) W) : Kinds W := by
  obtain ⟨ps, ⟨g', t', cs, fuel, p, q, hg', ht', hvar, hd, _, _⟩, _⟩ := h
  obtain rfl := Option.some.inj (gKinds.symm.trans hg')
  obtain rfl := Option.some.inj (tKinds.symm.trans ht')
  rw [laid_eq] at hd
  have hcs := kinds_of_cells hd
  intro j hj
  obtain ⟨a, b, c, d, e⟩ := hcs j hj
  have h1 := fun i => World.var?_cell gKinds hvar i
  refine ⟨?_, ?_, ?_, ?_, ?_⟩
  · rw [h1, ← Array.getElem?_toList, a]
  · rw [h1, ← Array.getElem?_toList, b]
  · rw [h1, ← Array.getElem?_toList, c]
  · rw [h1, ← Array.getElem?_toList, d]
  · rw [h1, ← Array.getElem?_toList, e]

end Go.Proofs.YtpbkkjiikhjanaaGreatDoor

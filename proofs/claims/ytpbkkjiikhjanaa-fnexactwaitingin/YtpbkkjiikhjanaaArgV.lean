/-
  A machine that came in, opened to what the walks ask.
-/
import Derived.Test.YtpbkkjiikhjanaaArgsI
import Derived.Test.YtpbkkjiikhjanaaMcM
namespace Go.Proofs.Ytpbkkjiikhjanaa
open Go.ChangeShapes Go.WideShapes Go.ChangeAt Go.RowKit Go.Deep Exs

section
variable {H : Type} {enc : TypeId × Value → H} {w : World} {held : Bool}
theorem cell_bool {v : Value} {n : Nat} {y : DataW H × List MemPlace} (h : DataW.trod enc Try.prog w 0 (fun _ => true) held n 4 [v] = some y) : ∃ x : Bool, v = .bool x := by
  obtain ⟨x, h1, _⟩ := DataW.trod_bool Try.underlying4 h
  injection h1 with h1
  exact ⟨x, h1⟩
theorem cell_bools {v : Value} {n : Nat} {y : DataW H × List MemPlace} (h : DataW.trod enc Try.prog w 0 (fun _ => true) held n 44 [v] = some y) : ∃ A m c bs, v = .slice A m c ∧ ReadsB w w.heap.size A m bs ∧ m ≤ maxLen := by
  have ce : Try.prog.cellsOf 4 = 1 := by kernel_rfl
  rcases open_slice Try.underlying44 h with ⟨h0, _⟩ | ⟨a, len, cap, m, n', D, Pl, h0, hb, hl, hm, hmm, _, hx⟩
  · injection h0 with h0; subst h0
    exact ⟨none, 0, 0, [], rfl, ⟨rfl, rfl, fun h => absurd h (by omega)⟩, by unfold maxLen; omega⟩
  · injection h0 with h0; subst h0
    simp only [if_true] at hmm
    subst hmm
    by_cases hpos : 0 < len
    · obtain ⟨b, off, spot⟩ := a
      have each : ∀ i, i < len → ∃ z : Bool, w.cell? ((⟨b, off, spot⟩ : Addr).add i) = some (.bool z) := fun i hi => by
        obtain ⟨cs', h1, h2⟩ := hx i (by omega)
        rw [ce] at h1
        obtain ⟨z, rfl, _⟩ := DataW.trod_bool Try.underlying4 h2
        obtain ⟨_, _, hcell⟩ := World.cells?_some h1
        have := hcell 0 (by omega)
        refine ⟨z, ?_⟩
        rw [Nat.mul_one] at this
        simpa [Addr.add] using this
      obtain ⟨z0, hz0⟩ := each 0 hpos
      have hspot : spot = none := by simpa [Addr.add] using World.cell?_spot hz0
      subst hspot
      obtain ⟨bs, hl2, hq⟩ := list_of (Q := fun i (z : Bool) => w.cell? ⟨b, off + i, none⟩ = some (.bool z)) len (fun i hi => by
        obtain ⟨z, hz⟩ := each i hi
        rw [addr_add_none] at hz
        exact ⟨z, hz⟩)
      refine ⟨_, _, _, bs, rfl, ⟨hl2, by simpa using hl2, fun _ => ⟨b, off, rfl, ?_, fun j x hj => ?_⟩⟩, by omega⟩
      · have := World.block_lt_of_cell? w _ hz0
        rw [addr_add_none] at this
        exact this
      · rw [List.getElem?_map] at hj
        cases hbj : bs[j]? with
        | none => rw [hbj] at hj; cases hj
        | some z => rw [hbj] at hj; injection hj with hj; subst hj; exact hq j z hbj
    · exact ⟨_, _, _, [], rfl, ⟨by simp; omega, by simp; omega, fun h => absurd h hpos⟩, by omega⟩

/-- A slice of frames that came in. -/
theorem cell_frames {v : Value} {n : Nat} {y : DataW H × List MemPlace} (h : DataW.trod enc Try.prog w 0 (fun _ => true) held n 22 [v] = some y) : ∃ A m c ss, v = .slice A m c ∧ ReadsFr w w.heap.size A m ss ∧ m ≤ maxLen ∧ ∀ s ∈ ss, LongFr s := by
  obtain ⟨A, m, c, h0, hm, hrow⟩ := open_rows (N := 11) Try.underlying22 Try.underlying58 (by kernel_rfl) (by kernel_rfl) (by decide) rfl h
  injection h0 with h0
  subst h0
  by_cases hpos : 0 < m
  · obtain ⟨b, off, rfl, hb, hi⟩ := hrow hpos
    obtain ⟨ss, hl, hq⟩ := list_of (Q := fun i (s : Fr) => (∃ A1 n1 c1 A2 n2 c2 A3 n3 c3, (∀ (k : Nat) (u : Value), (frL s A1 n1 c1 A2 n2 c2 A3 n3 c3)[k]? = some u → w.cell? ⟨b, off + i * 11 + k, none⟩ = some u) ∧ IsFr w w.heap.size s A1 n1 A2 n2 A3 n3) ∧ LongFr s) m (fun i hlt => by
        obtain ⟨cs', hlc, hcell, hf⟩ := hi i hlt
        obtain ⟨v0, y0, k0, e0, t0⟩ := hf 0 _ rfl
        obtain ⟨v1, y1, k1, e1, t1⟩ := hf 1 _ rfl
        obtain ⟨v2, y2, k2, e2, t2⟩ := hf 2 _ rfl
        obtain ⟨v3, y3, k3, e3, t3⟩ := hf 3 _ rfl
        obtain ⟨v4, y4, k4, e4, t4⟩ := hf 4 _ rfl
        obtain ⟨v5, y5, k5, e5, t5⟩ := hf 5 _ rfl
        obtain ⟨v6, y6, k6, e6, t6⟩ := hf 6 _ rfl
        obtain ⟨v7, y7, k7, e7, t7⟩ := hf 7 _ rfl
        obtain ⟨v8, y8, k8, e8, t8⟩ := hf 8 _ rfl
        obtain ⟨v9, y9, k9, e9, t9⟩ := hf 9 _ rfl
        obtain ⟨v10, y10, k10, e10, t10⟩ := hf 10 _ rfl
        obtain ⟨z0, rfl⟩ := cell_int t0
        obtain ⟨z1, rfl⟩ := cell_int t1
        obtain ⟨z2, rfl⟩ := cell_int t2
        obtain ⟨A1, n1, c1, z3, rfl, r1, l1⟩ := cell_reads Try.underlying23 t3
        obtain ⟨A2, n2, c2, z4, rfl, r2, l2⟩ := cell_reads Try.underlying23 t4
        obtain ⟨A3, n3, c3, z5, rfl, r3, l3⟩ := cell_bools t5
        obtain ⟨z6, rfl⟩ := cell_int t6
        obtain ⟨z7, rfl⟩ := cell_int t7
        obtain ⟨z8, rfl⟩ := cell_int t8
        obtain ⟨z9, rfl⟩ := cell_int t9
        obtain ⟨z10, rfl⟩ := cell_bool t10
        refine ⟨⟨z0, z1, z2, z3, z4, z5, z6, z7, z8, z9, z10⟩, ⟨A1, n1, c1, A2, n2, c2, A3, n3, c3, fun k u hu => ?_, ⟨r1, r2, r3⟩⟩, by rw [← r1.1] at l1; rw [← r2.1] at l2; rw [← r3.1] at l3; exact ⟨l1, l2, l3⟩⟩
        have hk : k < 11 := (List.getElem?_eq_some_iff.1 hu).1
        have hg := hcell k hk
        rw [← Nat.add_assoc] at hg
        rw [hg]
        rcases (show k = 0 ∨ k = 1 ∨ k = 2 ∨ k = 3 ∨ k = 4 ∨ k = 5 ∨ k = 6 ∨ k = 7 ∨ k = 8 ∨ k = 9 ∨ k = 10 by omega) with rfl | rfl | rfl | rfl | rfl | rfl | rfl | rfl | rfl | rfl | rfl
        · rw [e0]; exact hu
        · rw [e1]; exact hu
        · rw [e2]; exact hu
        · rw [e3]; exact hu
        · rw [e4]; exact hu
        · rw [e5]; exact hu
        · rw [e6]; exact hu
        · rw [e7]; exact hu
        · rw [e8]; exact hu
        · rw [e9]; exact hu
        · rw [e10]; exact hu)
    refine ⟨_, _, _, ss, rfl, ⟨hl, fun _ => ⟨b, off, rfl, hb, fun j s hs => (hq j s hs).1⟩⟩, hm, fun s hs => ?_⟩
    obtain ⟨j, hj⟩ := List.getElem?_of_mem hs
    exact (hq j s hj).2
  · exact ⟨A, m, c, [], rfl, ⟨by simp; omega, fun h => absurd h hpos⟩, hm, by simp⟩

/-- A struct of one-cell fields that came in. -/
theorem open_aggs {P : Program} {r : Reach} {b0 : Nat} {t : TypeId} {fs : Array Field} {N : Nat} {v : Value} {d : DataW H} {p : List MemPlace} (hs : P.underlying t = some (.struct fs)) (hone : oneCellFields P fs = true) (hC : P.cellsOf t = N) (hN : fs.size = N)
    (hv : Value.okWide P w r b0 t v) (h : DataW.Trod enc P w 0 (fun _ => true) held t v d p) : ∃ (cs : Array Value) (n : Nat), v = .agg cs ∧ cs.size = N ∧ ∀ (j : Nat) (f : Field), fs[j]? = some f → ∃ u y, cs[j]? = some u ∧ DataW.trod enc P w 0 (fun _ => true) held n f.type [u] = some y := by
  obtain ⟨cs, rfl, hsz⟩ := okWide_struct hs hv
  obtain ⟨fuel, hf⟩ := h
  obtain ⟨xs, k, _, _, _, hxl, hfl⟩ := DataW.trod_struct hs hf
  refine ⟨cs, k, rfl, hsz.trans hC, fun j f hj => ?_⟩
  obtain ⟨o0, k0⟩ := hone_of hone j f hj
  have hjN : j < fs.size := (Array.getElem?_eq_some_iff.1 hj).1
  have hjc : j < cs.size := by rw [hsz, hC, ← hN]; exact hjN
  have h0 := hfl j f hj
  obtain ⟨y, hy⟩ : ∃ y, xs[j]? = some y := ⟨_, List.getElem?_eq_getElem (by rw [hxl]; exact hjN)⟩
  rw [hy, o0, k0] at h0
  refine ⟨cs[j], y, Array.getElem?_eq_getElem hjc, ?_⟩
  have e : ∀ l : List Value, l = cs.toList → (l.drop j).take 1 = [cs[j]] := fun l hl => by
    subst hl
    rw [List.drop_eq_getElem_cons (by simpa using hjc), List.take_succ_cons, List.take_zero]
    simp
  rw [e _ (by simp [Value.cells])] at h0
  exact h0

set_option maxRecDepth 100000 in
/-- A machine that came in. -/
theorem open_vm {r : Reach} {b0 : Nat} {v : Value} {d : DataW H} {p : List MemPlace} (hv : Value.okWide Try.prog w r b0 26 v) (h : DataW.Trod enc Try.prog w 0 (fun _ => true) held 26 v d p) :
    ∃ s A1 n1 c1 A2 n2 c2 A3 n3 c3, v = mcV s A1 n1 c1 A2 n2 c2 A3 n3 c3 ∧ IsMc w w.heap.size s A1 n1 A2 n2 A3 n3 ∧ LongMc s := by
  obtain ⟨cs, n, rfl, hsz, hf⟩ := open_aggs (N := 7) Try.underlying26 (by kernel_rfl) (by kernel_rfl) rfl hv h
  obtain ⟨q0, q1, q2, q3, q4, q5, q6, rfl⟩ : ∃ q0 q1 q2 q3 q4 q5 q6, cs = #[q0, q1, q2, q3, q4, q5, q6] := by
    match cs, hsz with
    | ⟨[q0, q1, q2, q3, q4, q5, q6]⟩, _ => exact ⟨q0, q1, q2, q3, q4, q5, q6, rfl⟩
  obtain ⟨v0, y0, e0, t0⟩ := hf 0 _ rfl
  obtain rfl : q0 = v0 := by simpa using e0
  obtain ⟨v1, y1, e1, t1⟩ := hf 1 _ rfl
  obtain rfl : q1 = v1 := by simpa using e1
  obtain ⟨v2, y2, e2, t2⟩ := hf 2 _ rfl
  obtain rfl : q2 = v2 := by simpa using e2
  obtain ⟨v3, y3, e3, t3⟩ := hf 3 _ rfl
  obtain rfl : q3 = v3 := by simpa using e3
  obtain ⟨v4, y4, e4, t4⟩ := hf 4 _ rfl
  obtain rfl : q4 = v4 := by simpa using e4
  obtain ⟨v5, y5, e5, t5⟩ := hf 5 _ rfl
  obtain rfl : q5 = v5 := by simpa using e5
  obtain ⟨v6, y6, e6, t6⟩ := hf 6 _ rfl
  obtain rfl : q6 = v6 := by simpa using e6
  obtain ⟨A1, n1, c1, z0, rfl, r1, l1, L1⟩ := cell_frames t0
  obtain ⟨A2, n2, c2, z1, rfl, r2, l2⟩ := cell_reads Try.underlying23 t1
  obtain ⟨z2, rfl⟩ := cell_int t2
  obtain ⟨z3, rfl⟩ := cell_int t3
  obtain ⟨z4, rfl⟩ := cell_int t4
  obtain ⟨z5, rfl⟩ := cell_int t5
  obtain ⟨A3, n3, c3, z6, rfl, r3, l3⟩ := cell_rows t6
  exact ⟨⟨z0, z1, z2, z3, z4, z5, z6⟩, A1, n1, c1, A2, n2, c2, A3, n3, c3, rfl, ⟨r1, r2, r3⟩, by rw [← r1.1] at l1; rw [← r2.1] at l2; rw [← r3.1] at l3; exact ⟨l1, L1, l2, l3⟩⟩
end

end Go.Proofs.Ytpbkkjiikhjanaa

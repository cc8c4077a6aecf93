/-
  Texts joined: ArgV FrTo FrTos McTo.
-/
import Derived.Test.YtpbkkjiikhjanaaGreatDoorJGg
import Derived.Test.YtpbkkjiikhjanaaGreatDoorJCoSz
/-
  A machine that came in, opened to what the walks ask.
-/
namespace Go.Proofs.YtpbkkjiikhjanaaGreatDoor
open Go.ChangeShapes Go.WideShapes Go.ChangeAt Go.RowKit Go.Deep Exs

section
variable {H : Type} {enc : TypeId × Value → H} {w : World} {held : Bool}
theorem cell_notes {v : Value} {n : Nat} {y : DataW H × List MemPlace} (h : DataW.trod enc Tryz.prog w 0 (fun _ => true) held n 27 [v] = some y) : ∃ A m c rs, v = .slice A m c ∧ ReadsR w w.heap.size A m rs ∧ m ≤ maxLen := by
  obtain ⟨A, m, c, h0, hm, hrow⟩ := open_rows (N := 3) Tryz.underlying27 Tryz.underlying105 (by kernel_rfl) (by kernel_rfl) (by decide) rfl h
  injection h0 with h0
  subst h0
  by_cases hpos : 0 < m
  · obtain ⟨b, off, rfl, hb, hi⟩ := hrow hpos
    obtain ⟨rs, hl, hq⟩ := list_of (Q := fun i (r : Row3) => w.cell? ⟨b, off + i * 3, none⟩ = some (.int .i64 r.1) ∧ w.cell? ⟨b, off + i * 3 + 1, none⟩ = some (.int .i64 r.2.1) ∧ w.cell? ⟨b, off + i * 3 + 2, none⟩ = some (.int .i64 r.2.2)) m (fun i hlt => by
        obtain ⟨cs', hlc, hcell, hf⟩ := hi i hlt
        obtain ⟨v0, y0, k0, e0, t0⟩ := hf 0 _ rfl
        obtain ⟨v1, y1, k1, e1, t1⟩ := hf 1 _ rfl
        obtain ⟨v2, y2, k2, e2, t2⟩ := hf 2 _ rfl
        obtain ⟨x, rfl⟩ := cell_int t0
        obtain ⟨yy, rfl⟩ := cell_int t1
        obtain ⟨z, rfl⟩ := cell_int t2
        have g := fun j hj => hcell j hj
        refine ⟨(x, yy, z), ?_, ?_, ?_⟩
        · have := g 0 (by omega); rw [e0] at this; simpa using this
        · have := g 1 (by omega); rw [e1] at this; rw [← this]; rfl
        · have := g 2 (by omega); rw [e2] at this; rw [← this]; rfl)
    refine ⟨_, _, _, rs, rfl, ⟨hl, by rw [flat3_length, hl], fun _ => ⟨b, off, rfl, hb, fun j x hx => ?_⟩⟩, hm⟩
    have hj : j < 3 * m := by
      have := (List.getElem?_eq_some_iff.1 hx).1
      rw [flat3_length, hl] at this
      exact this
    have hk : j / 3 < rs.length := by omega
    have hg := List.getElem?_eq_getElem hk
    have hfa := flat3_at hg
    obtain ⟨q0, q1, q2⟩ := hq _ _ hg
    rcases (show j = 3 * (j / 3) ∨ j = 3 * (j / 3) + 1 ∨ j = 3 * (j / 3) + 2 by omega) with hjj | hjj | hjj
    · rw [hjj, hfa.1] at hx
      injection hx with hx
      rw [show off + j = off + j / 3 * 3 by omega, q0, hx]
    · rw [hjj, hfa.2.1] at hx
      injection hx with hx
      rw [show off + j = off + j / 3 * 3 + 1 by omega, q1, hx]
    · rw [hjj, hfa.2.2] at hx
      injection hx with hx
      rw [show off + j = off + j / 3 * 3 + 2 by omega, q2, hx]
  · exact ⟨A, m, c, [], rfl, ⟨by simp; omega, by simp [flat3]; omega, fun h => absurd h (by omega)⟩, hm⟩

theorem cell_bool {v : Value} {n : Nat} {y : DataW H × List MemPlace} (h : DataW.trod enc Tryz.prog w 0 (fun _ => true) held n 4 [v] = some y) : ∃ x : Bool, v = .bool x := by
  obtain ⟨x, h1, _⟩ := DataW.trod_bool Tryz.underlying4 h
  injection h1 with h1
  exact ⟨x, h1⟩
set_option maxRecDepth 100000 in
theorem cell_bools {v : Value} {n : Nat} {y : DataW H × List MemPlace} (h : DataW.trod enc Tryz.prog w 0 (fun _ => true) held n 76 [v] = some y) : ∃ A m c bs, v = .slice A m c ∧ ReadsB w w.heap.size A m bs ∧ m ≤ maxLen := by
  have ce : Tryz.prog.cellsOf 4 = 1 := by kernel_rfl
  rcases open_slice Tryz.underlying76 h with ⟨h0, _⟩ | ⟨a, len, cap, m, n', D, Pl, h0, hb, hl, hm, hmm, _, hx⟩
  · injection h0 with h0; subst h0
    exact ⟨none, 0, 0, [], rfl, ⟨rfl, rfl, fun h => absurd h (by omega)⟩, by unfold maxLen; omega⟩
  · injection h0 with h0; subst h0
    simp only [if_true] at hmm
    subst hmm
    by_cases hpos : 0 < len
    · obtain ⟨b, off, spot⟩ := a
      have each : ∀ i, i < len → ∃ z : Bool, w.cell? ((⟨b, off, spot⟩ : Addr).add i) = some (.bool z) := fun i hi => by
        obtain ⟨cs', h1, h2⟩ := hx i (by omega)
        rw [ce] at h1
        obtain ⟨z, rfl, _⟩ := DataW.trod_bool Tryz.underlying4 h2
        obtain ⟨_, _, hcell⟩ := World.cells?_some h1
        have := hcell 0 (by omega)
        refine ⟨z, ?_⟩
        rw [Nat.mul_one] at this
        simpa [Addr.add] using this
      obtain ⟨z0, hz0⟩ := each 0 hpos
      have hspot : spot = none := by simpa [Addr.add] using World.cell?_spot hz0
      subst hspot
      obtain ⟨bs, hl2, hq⟩ := list_of (Q := fun i (z : Bool) => w.cell? ⟨b, off + i, none⟩ = some (.bool z)) len (fun i hi => by
        obtain ⟨z, hz⟩ := each i hi
        rw [addr_add_none] at hz
        exact ⟨z, hz⟩)
      refine ⟨_, _, _, bs, rfl, ⟨hl2, by simpa using hl2, fun _ => ⟨b, off, rfl, ?_, fun j x hj => ?_⟩⟩, by omega⟩
      · have := World.block_lt_of_cell? w _ hz0
        rw [addr_add_none] at this
        exact this
      · rw [List.getElem?_map] at hj
        cases hbj : bs[j]? with
        | none => rw [hbj] at hj; cases hj
        | some z => rw [hbj] at hj; injection hj with hj; subst hj; exact hq j z hbj
    · exact ⟨_, _, _, [], rfl, ⟨by simp; omega, by simp; omega, fun h => absurd h hpos⟩, by omega⟩

/-- A slice of frames that came in. -/
theorem cell_frames {v : Value} {n : Nat} {y : DataW H × List MemPlace} (h : DataW.trod enc Tryz.prog w 0 (fun _ => true) held n 25 [v] = some y) : ∃ A m c ss, v = .slice A m c ∧ ReadsFr w w.heap.size A m ss ∧ m ≤ maxLen ∧ ∀ s ∈ ss, LongFr s := by
  obtain ⟨A, m, c, h0, hm, hrow⟩ := open_rows (N := 11) Tryz.underlying25 Tryz.underlying96 (by kernel_rfl) (by kernel_rfl) (by decide) rfl h
  injection h0 with h0
  subst h0
  by_cases hpos : 0 < m
  · obtain ⟨b, off, rfl, hb, hi⟩ := hrow hpos
    obtain ⟨ss, hl, hq⟩ := list_of (Q := fun i (s : Fr) => (∃ A1 n1 c1 A2 n2 c2 A3 n3 c3, (∀ (k : Nat) (u : Value), (frL s A1 n1 c1 A2 n2 c2 A3 n3 c3)[k]? = some u → w.cell? ⟨b, off + i * 11 + k, none⟩ = some u) ∧ IsFr w w.heap.size s A1 n1 A2 n2 A3 n3) ∧ LongFr s) m (fun i hlt => by
        obtain ⟨cs', hlc, hcell, hf⟩ := hi i hlt
        obtain ⟨v0, y0, k0, e0, t0⟩ := hf 0 _ rfl
        obtain ⟨v1, y1, k1, e1, t1⟩ := hf 1 _ rfl
        obtain ⟨v2, y2, k2, e2, t2⟩ := hf 2 _ rfl
        obtain ⟨v3, y3, k3, e3, t3⟩ := hf 3 _ rfl
        obtain ⟨v4, y4, k4, e4, t4⟩ := hf 4 _ rfl
        obtain ⟨v5, y5, k5, e5, t5⟩ := hf 5 _ rfl
        obtain ⟨v6, y6, k6, e6, t6⟩ := hf 6 _ rfl
        obtain ⟨v7, y7, k7, e7, t7⟩ := hf 7 _ rfl
        obtain ⟨v8, y8, k8, e8, t8⟩ := hf 8 _ rfl
        obtain ⟨v9, y9, k9, e9, t9⟩ := hf 9 _ rfl
        obtain ⟨v10, y10, k10, e10, t10⟩ := hf 10 _ rfl
        obtain ⟨z0, rfl⟩ := cell_int t0
        obtain ⟨z1, rfl⟩ := cell_int t1
        obtain ⟨z2, rfl⟩ := cell_int t2
        obtain ⟨A1, n1, c1, z3, rfl, r1, l1⟩ := cell_reads Tryz.underlying26 t3
        obtain ⟨A2, n2, c2, z4, rfl, r2, l2⟩ := cell_reads Tryz.underlying26 t4
        obtain ⟨A3, n3, c3, z5, rfl, r3, l3⟩ := cell_bools t5
        obtain ⟨z6, rfl⟩ := cell_int t6
        obtain ⟨z7, rfl⟩ := cell_int t7
        obtain ⟨z8, rfl⟩ := cell_int t8
        obtain ⟨z9, rfl⟩ := cell_int t9
        obtain ⟨z10, rfl⟩ := cell_bool t10
        refine ⟨⟨z0, z1, z2, z3, z4, z5, z6, z7, z8, z9, z10⟩, ⟨A1, n1, c1, A2, n2, c2, A3, n3, c3, fun k u hu => ?_, ⟨r1, r2, r3⟩⟩, by rw [← r1.1] at l1; rw [← r2.1] at l2; rw [← r3.1] at l3; exact ⟨l1, l2, l3⟩⟩
        have hk : k < 11 := (List.getElem?_eq_some_iff.1 hu).1
        have hg := hcell k hk
        rw [← Nat.add_assoc] at hg
        rw [hg]
        rcases (show k = 0 ∨ k = 1 ∨ k = 2 ∨ k = 3 ∨ k = 4 ∨ k = 5 ∨ k = 6 ∨ k = 7 ∨ k = 8 ∨ k = 9 ∨ k = 10 by omega) with rfl | rfl | rfl | rfl | rfl | rfl | rfl | rfl | rfl | rfl | rfl
        · rw [e0]; exact hu
        · rw [e1]; exact hu
        · rw [e2]; exact hu
        · rw [e3]; exact hu
        · rw [e4]; exact hu
        · rw [e5]; exact hu
        · rw [e6]; exact hu
        · rw [e7]; exact hu
        · rw [e8]; exact hu
        · rw [e9]; exact hu
        · rw [e10]; exact hu)
    refine ⟨_, _, _, ss, rfl, ⟨hl, fun _ => ⟨b, off, rfl, hb, fun j s hs => (hq j s hs).1⟩⟩, hm, fun s hs => ?_⟩
    obtain ⟨j, hj⟩ := List.getElem?_of_mem hs
    exact (hq j s hj).2
  · exact ⟨A, m, c, [], rfl, ⟨by simp; omega, fun h => absurd h hpos⟩, hm, by simp⟩

/-- A struct of one-cell fields that came in. -/
theorem open_aggs {P : Program} {r : Reach} {b0 : Nat} {t : TypeId} {fs : Array Field} {N : Nat} {v : Value} {d : DataW H} {p : List MemPlace} (hs : P.underlying t = some (.struct fs)) (hone : oneCellFields P fs = true) (hC : P.cellsOf t = N) (hN : fs.size = N)
    (hv : Value.okWide P w r b0 t v) (h : DataW.Trod enc P w 0 (fun _ => true) held t v d p) : ∃ (cs : Array Value) (n : Nat), v = .agg cs ∧ cs.size = N ∧ ∀ (j : Nat) (f : Field), fs[j]? = some f → ∃ u y, cs[j]? = some u ∧ DataW.trod enc P w 0 (fun _ => true) held n f.type [u] = some y := by
  obtain ⟨cs, rfl, hsz⟩ := okWide_struct hs hv
  obtain ⟨fuel, hf⟩ := h
  obtain ⟨xs, k, _, _, _, hxl, hfl⟩ := DataW.trod_struct hs hf
  refine ⟨cs, k, rfl, hsz.trans hC, fun j f hj => ?_⟩
  obtain ⟨o0, k0⟩ := hone_of hone j f hj
  have hjN : j < fs.size := (Array.getElem?_eq_some_iff.1 hj).1
  have hjc : j < cs.size := by rw [hsz, hC, ← hN]; exact hjN
  have h0 := hfl j f hj
  obtain ⟨y, hy⟩ : ∃ y, xs[j]? = some y := ⟨_, List.getElem?_eq_getElem (by rw [hxl]; exact hjN)⟩
  rw [hy, o0, k0] at h0
  refine ⟨cs[j], y, Array.getElem?_eq_getElem hjc, ?_⟩
  have e : ∀ l : List Value, l = cs.toList → (l.drop j).take 1 = [cs[j]] := fun l hl => by
    subst hl
    rw [List.drop_eq_getElem_cons (by simpa using hjc), List.take_succ_cons, List.take_zero]
    simp
  rw [e _ (by simp [Value.cells])] at h0
  exact h0

set_option maxRecDepth 100000 in
/-- A machine that came in. -/
theorem open_vm {r : Reach} {b0 : Nat} {v : Value} {d : DataW H} {p : List MemPlace} (hv : Value.okWide Tryz.prog w r b0 29 v) (h : DataW.Trod enc Tryz.prog w 0 (fun _ => true) held 29 v d p) :
    ∃ s A1 n1 c1 A2 n2 c2 A3 n3 c3, v = mcV s A1 n1 c1 A2 n2 c2 A3 n3 c3 ∧ IsMc w w.heap.size s A1 n1 A2 n2 A3 n3 ∧ LongMc s := by
  obtain ⟨cs, n, rfl, hsz, hf⟩ := open_aggs (N := 7) Tryz.underlying29 (by kernel_rfl) (by kernel_rfl) rfl hv h
  obtain ⟨q0, q1, q2, q3, q4, q5, q6, rfl⟩ : ∃ q0 q1 q2 q3 q4 q5 q6, cs = #[q0, q1, q2, q3, q4, q5, q6] := by
    match cs, hsz with
    | ⟨[q0, q1, q2, q3, q4, q5, q6]⟩, _ => exact ⟨q0, q1, q2, q3, q4, q5, q6, rfl⟩
  obtain ⟨v0, y0, e0, t0⟩ := hf 0 _ rfl
  obtain rfl : q0 = v0 := by simpa using e0
  obtain ⟨v1, y1, e1, t1⟩ := hf 1 _ rfl
  obtain rfl : q1 = v1 := by simpa using e1
  obtain ⟨v2, y2, e2, t2⟩ := hf 2 _ rfl
  obtain rfl : q2 = v2 := by simpa using e2
  obtain ⟨v3, y3, e3, t3⟩ := hf 3 _ rfl
  obtain rfl : q3 = v3 := by simpa using e3
  obtain ⟨v4, y4, e4, t4⟩ := hf 4 _ rfl
  obtain rfl : q4 = v4 := by simpa using e4
  obtain ⟨v5, y5, e5, t5⟩ := hf 5 _ rfl
  obtain rfl : q5 = v5 := by simpa using e5
  obtain ⟨v6, y6, e6, t6⟩ := hf 6 _ rfl
  obtain rfl : q6 = v6 := by simpa using e6
  obtain ⟨A1, n1, c1, z0, rfl, r1, l1, L1⟩ := cell_frames t0
  obtain ⟨A2, n2, c2, z1, rfl, r2, l2⟩ := cell_reads Tryz.underlying26 t1
  obtain ⟨z2, rfl⟩ := cell_int t2
  obtain ⟨z3, rfl⟩ := cell_int t3
  obtain ⟨z4, rfl⟩ := cell_int t4
  obtain ⟨z5, rfl⟩ := cell_int t5
  obtain ⟨A3, n3, c3, z6, rfl, r3, l3⟩ := cell_notes t6
  exact ⟨⟨z0, z1, z2, z3, z4, z5, z6⟩, A1, n1, c1, A2, n2, c2, A3, n3, c3, rfl, ⟨r1, r2, r3⟩, by rw [← r1.1] at l1; rw [← r2.1] at l2; rw [← r3.1] at l3; exact ⟨l1, L1, l2, l3⟩⟩
end

end Go.Proofs.YtpbkkjiikhjanaaGreatDoor

/-
  The laws' copying of frames.
-/
namespace Go.Proofs.YtpbkkjiikhjanaaGreatDoor
open Go.RowKit Exs


set_option maxHeartbeats 2000000 in
set_option maxRecDepth 100000 in
theorem toFr_any (s : Fr) (A1 : Option Addr) (n1 c1 : Nat) (A2 : Option Addr) (n2 c2 : Nat) (A3 : Option Addr) (n3 c3 : Nat) (w : World) (hr : IsFr w w.heap.size s A1 n1 A2 n2 A3 n3) (hs : SmallFr s) :
    Calls Tryz.prog 56 #[frV s A1 n1 c1 A2 n2 c2 A3 n3 c3] w fun e w' => ∃ B1 B2 B3, e = .returned (frV s B1 n1 n1 B2 n2 n2 B3 n3 n3) ∧ MFr w' w.heap.size s B1 n1 B2 n2 B3 n3 ∧ Below w.heap.size w w' := by
  obtain ⟨l1, l2, l3⟩ := hs
  rw [hr.pile.1] at l1
  rw [hr.vars.1] at l2
  rw [hr.flags.1] at l3
  unfold frV
  go_enter Tryz.func56, Tryz.ntmps56
  go_wp2_with fail
  have hb0 : Below w.heap.size w (((w.alloc (.cells #[.int .i64 s.ide, .int .i64 s.fn, .int .i64 s.pla, .slice A1 n1 c1, .slice A2 n2 c2, .slice A3 n3 c3, .int .i64 s.result, .int .i64 s.mode, .int .i64 s.value, .int .i64 s.base, .bool s.off] 96)).alloc (.cells #[.int .i64 0, .int .i64 0, .int .i64 0, .slice none 0 0, .slice none 0 0, .slice none 0 0, .int .i64 0, .int .i64 0, .int .i64 0, .int .i64 0, .bool false] 78)).alloc (.cells #[.int .i64 s.ide, .int .i64 s.fn, .int .i64 s.pla, .slice none 0 0, .slice none 0 0, .slice none 0 0, .int .i64 0, .int .i64 0, .int .i64 0, .int .i64 0, .bool false] 78)) :=
    (((Below.refl _ _).alloc (Nat.le_refl _) _).alloc (by simp) _).alloc (by simp; omega) _
  have hx0 : Keep (((w.alloc (.cells #[.int .i64 s.ide, .int .i64 s.fn, .int .i64 s.pla, .slice A1 n1 c1, .slice A2 n2 c2, .slice A3 n3 c3, .int .i64 s.result, .int .i64 s.mode, .int .i64 s.value, .int .i64 s.base, .bool s.off] 96)).alloc (.cells #[.int .i64 0, .int .i64 0, .int .i64 0, .slice none 0 0, .slice none 0 0, .slice none 0 0, .int .i64 0, .int .i64 0, .int .i64 0, .int .i64 0, .bool false] 78)).alloc (.cells #[.int .i64 s.ide, .int .i64 s.fn, .int .i64 s.pla, .slice none 0 0, .slice none 0 0, .slice none 0 0, .int .i64 0, .int .i64 0, .int .i64 0, .int .i64 0, .bool false] 78)) w.heap.size #[.int .i64 s.ide, .int .i64 s.fn, .int .i64 s.pla, .slice A1 n1 c1, .slice A2 n2 c2, .slice A3 n3 c3, .int .i64 s.result, .int .i64 s.mode, .int .i64 s.value, .int .i64 s.base, .bool s.off] 96 := ((Keep.new _ _ _).alloc _).alloc _
  have hy0 : Keep (((w.alloc (.cells #[.int .i64 s.ide, .int .i64 s.fn, .int .i64 s.pla, .slice A1 n1 c1, .slice A2 n2 c2, .slice A3 n3 c3, .int .i64 s.result, .int .i64 s.mode, .int .i64 s.value, .int .i64 s.base, .bool s.off] 96)).alloc (.cells #[.int .i64 0, .int .i64 0, .int .i64 0, .slice none 0 0, .slice none 0 0, .slice none 0 0, .int .i64 0, .int .i64 0, .int .i64 0, .int .i64 0, .bool false] 78)).alloc (.cells #[.int .i64 s.ide, .int .i64 s.fn, .int .i64 s.pla, .slice none 0 0, .slice none 0 0, .slice none 0 0, .int .i64 0, .int .i64 0, .int .i64 0, .int .i64 0, .bool false] 78)) (w.heap.size + 1) #[.int .i64 0, .int .i64 0, .int .i64 0, .slice none 0 0, .slice none 0 0, .slice none 0 0, .int .i64 0, .int .i64 0, .int .i64 0, .int .i64 0, .bool false] 78 := by
    have := Keep.new (w.alloc (.cells #[.int .i64 s.ide, .int .i64 s.fn, .int .i64 s.pla, .slice A1 n1 c1, .slice A2 n2 c2, .slice A3 n3 c3, .int .i64 s.result, .int .i64 s.mode, .int .i64 s.value, .int .i64 s.base, .bool s.off] 96)) #[.int .i64 0, .int .i64 0, .int .i64 0, .slice none 0 0, .slice none 0 0, .slice none 0 0, .int .i64 0, .int .i64 0, .int .i64 0, .int .i64 0, .bool false] 78
    rw [World.size_alloc] at this
    exact this.alloc _
  have hz0 : Keep (((w.alloc (.cells #[.int .i64 s.ide, .int .i64 s.fn, .int .i64 s.pla, .slice A1 n1 c1, .slice A2 n2 c2, .slice A3 n3 c3, .int .i64 s.result, .int .i64 s.mode, .int .i64 s.value, .int .i64 s.base, .bool s.off] 96)).alloc (.cells #[.int .i64 0, .int .i64 0, .int .i64 0, .slice none 0 0, .slice none 0 0, .slice none 0 0, .int .i64 0, .int .i64 0, .int .i64 0, .int .i64 0, .bool false] 78)).alloc (.cells #[.int .i64 s.ide, .int .i64 s.fn, .int .i64 s.pla, .slice none 0 0, .slice none 0 0, .slice none 0 0, .int .i64 0, .int .i64 0, .int .i64 0, .int .i64 0, .bool false] 78)) (w.heap.size + 1 + 1) #[.int .i64 s.ide, .int .i64 s.fn, .int .i64 s.pla, .slice none 0 0, .slice none 0 0, .slice none 0 0, .int .i64 0, .int .i64 0, .int .i64 0, .int .i64 0, .bool false] 78 := by
    have := Keep.new ((w.alloc (.cells #[.int .i64 s.ide, .int .i64 s.fn, .int .i64 s.pla, .slice A1 n1 c1, .slice A2 n2 c2, .slice A3 n3 c3, .int .i64 s.result, .int .i64 s.mode, .int .i64 s.value, .int .i64 s.base, .bool s.off] 96)).alloc (.cells #[.int .i64 0, .int .i64 0, .int .i64 0, .slice none 0 0, .slice none 0 0, .slice none 0 0, .int .i64 0, .int .i64 0, .int .i64 0, .int .i64 0, .bool false] 78)) #[.int .i64 s.ide, .int .i64 s.fn, .int .i64 s.pla, .slice none 0 0, .slice none 0 0, .slice none 0 0, .int .i64 0, .int .i64 0, .int .i64 0, .int .i64 0, .bool false] 78
    rw [World.size_alloc, World.size_alloc] at this
    exact this
  generalize hW0 : ((w.alloc (.cells #[.int .i64 s.ide, .int .i64 s.fn, .int .i64 s.pla, .slice A1 n1 c1, .slice A2 n2 c2, .slice A3 n3 c3, .int .i64 s.result, .int .i64 s.mode, .int .i64 s.value, .int .i64 s.base, .bool s.off] 96)).alloc (.cells #[.int .i64 0, .int .i64 0, .int .i64 0, .slice none 0 0, .slice none 0 0, .slice none 0 0, .int .i64 0, .int .i64 0, .int .i64 0, .int .i64 0, .bool false] 78)).alloc (.cells #[.int .i64 s.ide, .int .i64 s.fn, .int .i64 s.pla, .slice none 0 0, .slice none 0 0, .slice none 0 0, .int .i64 0, .int .i64 0, .int .i64 0, .int .i64 0, .bool false] 78) = W0 at hb0 hx0 hy0 hz0 ⊢
  clear hW0
  refine (toInts_m A1 n1 c1 s.pile _ (hr.pile.now hb0) l1).mono ?_
  rintro e V0 ⟨B1, rfl, m1, hc0⟩
  have s0 := hb0.size
  have t0 := hc0.size
  have l0z := hz0.lt
  replace hx0 := hx0.below hc0
  replace hy0 := hy0.below hc0
  replace hz0 := hz0.below hc0
  replace hb0 : Below w.heap.size w V0 := hb0.trans (hc0.mono hb0.size)
  have u3 := hz0.cell 3
  have f3 := hz0.frozen 3
  have x4 := hx0.cell 4
  simp at u3 x4
  have hb1 := hb0
  have hx1 := hx0
  have hy1 := hy0
  have hz1 := hz0
  replace m1 := m1.same ((SameFrom.setCell (V0) (w.heap.size + 1 + 1) 3 (.slice B1 n1 n1)).mono (by omega))
  replace hx1 := hx1.other (g' := w.heap.size + 1 + 1) (by omega) 3 (.slice B1 n1 n1)
  replace hy1 := hy1.other (g' := w.heap.size + 1 + 1) (by omega) 3 (.slice B1 n1 n1)
  replace hz1 := hz1.set 3 (.slice B1 n1 n1)
  replace hb1 : Below w.heap.size w ((V0).setCell ⟨w.heap.size + 1 + 1, 3, none⟩ (.slice B1 n1 n1)) := hb1.setCell (by simp; omega) _
  clear hx0 hy0 hz0 hb0 hc0
  go_wp2_with fail
  generalize hW : (V0).setCell ⟨w.heap.size + 1 + 1, 3, none⟩ (.slice B1 n1 n1) = W1 at m1 hx1 hy1 hz1 hb1 ⊢
  clear hW u3 x4 f3
  refine (toInts_m A2 n2 c2 s.vars _ (hr.vars.now hb1) l2).mono ?_
  rintro e V1 ⟨B2, rfl, m2, hc1⟩
  have s1 := hb1.size
  have t1 := hc1.size
  have l1z := hz1.lt
  replace m1 := m1.same (SameFrom.of_below hc1)
  replace hx1 := hx1.below hc1
  replace hy1 := hy1.below hc1
  replace hz1 := hz1.below hc1
  replace hb1 : Below w.heap.size w V1 := hb1.trans (hc1.mono hb1.size)
  have u4 := hz1.cell 4
  have f4 := hz1.frozen 4
  have x5 := hx1.cell 5
  simp at u4 x5
  have hb2 := hb1
  have hx2 := hx1
  have hy2 := hy1
  have hz2 := hz1
  replace m1 := m1.same ((SameFrom.setCell (V1) (w.heap.size + 1 + 1) 4 (.slice B2 n2 n2)).mono (by omega))
  replace m2 := m2.same ((SameFrom.setCell (V1) (w.heap.size + 1 + 1) 4 (.slice B2 n2 n2)).mono (by omega))
  replace hx2 := hx2.other (g' := w.heap.size + 1 + 1) (by omega) 4 (.slice B2 n2 n2)
  replace hy2 := hy2.other (g' := w.heap.size + 1 + 1) (by omega) 4 (.slice B2 n2 n2)
  replace hz2 := hz2.set 4 (.slice B2 n2 n2)
  replace hb2 : Below w.heap.size w ((V1).setCell ⟨w.heap.size + 1 + 1, 4, none⟩ (.slice B2 n2 n2)) := hb2.setCell (by simp; omega) _
  clear hx1 hy1 hz1 hb1 hc1
  go_wp2_with fail
  generalize hW : (V1).setCell ⟨w.heap.size + 1 + 1, 4, none⟩ (.slice B2 n2 n2) = W2 at m1 m2 hx2 hy2 hz2 hb2 ⊢
  clear hW u4 x5 f4
  refine (toBools_m A3 n3 c3 s.flags _ (hr.flags.now hb2) l3).mono ?_
  rintro e V2 ⟨B3, rfl, m3, hc2⟩
  have s2 := hb2.size
  have t2 := hc2.size
  have l2z := hz2.lt
  replace m1 := m1.same (SameFrom.of_below hc2)
  replace m2 := m2.same (SameFrom.of_below hc2)
  replace hx2 := hx2.below hc2
  replace hy2 := hy2.below hc2
  replace hz2 := hz2.below hc2
  replace hb2 : Below w.heap.size w V2 := hb2.trans (hc2.mono hb2.size)
  have u5 := hz2.cell 5
  have f5 := hz2.frozen 5
  have u6 := hz2.cell 6
  have f6 := hz2.frozen 6
  have u7 := hz2.cell 7
  have f7 := hz2.frozen 7
  have u8 := hz2.cell 8
  have f8 := hz2.frozen 8
  have u9 := hz2.cell 9
  have f9 := hz2.frozen 9
  have u10 := hz2.cell 10
  have f10 := hz2.frozen 10
  have x6 := hx2.cell 6
  have x7 := hx2.cell 7
  have x8 := hx2.cell 8
  have x9 := hx2.cell 9
  have x10 := hx2.cell 10
  simp at u5 u6 u7 u8 u9 u10 x6 x7 x8 x9 x10
  have hb3 := hb2
  have hx3 := hx2
  have hy3 := hy2
  have hz3 := hz2
  replace m1 := m1.same ((SameFrom.setCell (V2) (w.heap.size + 1 + 1) 5 (.slice B3 n3 n3)).mono (by omega))
  replace m2 := m2.same ((SameFrom.setCell (V2) (w.heap.size + 1 + 1) 5 (.slice B3 n3 n3)).mono (by omega))
  replace m3 := m3.same ((SameFrom.setCell (V2) (w.heap.size + 1 + 1) 5 (.slice B3 n3 n3)).mono (by omega))
  replace hx3 := hx3.other (g' := w.heap.size + 1 + 1) (by omega) 5 (.slice B3 n3 n3)
  replace hy3 := hy3.other (g' := w.heap.size + 1 + 1) (by omega) 5 (.slice B3 n3 n3)
  replace hz3 := hz3.set 5 (.slice B3 n3 n3)
  replace hb3 : Below w.heap.size w ((V2).setCell ⟨w.heap.size + 1 + 1, 5, none⟩ (.slice B3 n3 n3)) := hb3.setCell (by simp; omega) _
  replace m1 := m1.same ((SameFrom.setCell ((V2).setCell ⟨w.heap.size + 1 + 1, 5, none⟩ (.slice B3 n3 n3)) (w.heap.size + 1 + 1) 6 (.int .i64 s.result)).mono (by omega))
  replace m2 := m2.same ((SameFrom.setCell ((V2).setCell ⟨w.heap.size + 1 + 1, 5, none⟩ (.slice B3 n3 n3)) (w.heap.size + 1 + 1) 6 (.int .i64 s.result)).mono (by omega))
  replace m3 := m3.same ((SameFrom.setCell ((V2).setCell ⟨w.heap.size + 1 + 1, 5, none⟩ (.slice B3 n3 n3)) (w.heap.size + 1 + 1) 6 (.int .i64 s.result)).mono (by omega))
  replace hx3 := hx3.other (g' := w.heap.size + 1 + 1) (by omega) 6 (.int .i64 s.result)
  replace hy3 := hy3.other (g' := w.heap.size + 1 + 1) (by omega) 6 (.int .i64 s.result)
  replace hz3 := hz3.set 6 (.int .i64 s.result)
  replace hb3 : Below w.heap.size w (((V2).setCell ⟨w.heap.size + 1 + 1, 5, none⟩ (.slice B3 n3 n3)).setCell ⟨w.heap.size + 1 + 1, 6, none⟩ (.int .i64 s.result)) := hb3.setCell (by simp; omega) _
  replace m1 := m1.same ((SameFrom.setCell (((V2).setCell ⟨w.heap.size + 1 + 1, 5, none⟩ (.slice B3 n3 n3)).setCell ⟨w.heap.size + 1 + 1, 6, none⟩ (.int .i64 s.result)) (w.heap.size + 1 + 1) 7 (.int .i64 s.mode)).mono (by omega))
  replace m2 := m2.same ((SameFrom.setCell (((V2).setCell ⟨w.heap.size + 1 + 1, 5, none⟩ (.slice B3 n3 n3)).setCell ⟨w.heap.size + 1 + 1, 6, none⟩ (.int .i64 s.result)) (w.heap.size + 1 + 1) 7 (.int .i64 s.mode)).mono (by omega))
  replace m3 := m3.same ((SameFrom.setCell (((V2).setCell ⟨w.heap.size + 1 + 1, 5, none⟩ (.slice B3 n3 n3)).setCell ⟨w.heap.size + 1 + 1, 6, none⟩ (.int .i64 s.result)) (w.heap.size + 1 + 1) 7 (.int .i64 s.mode)).mono (by omega))
  replace hx3 := hx3.other (g' := w.heap.size + 1 + 1) (by omega) 7 (.int .i64 s.mode)
  replace hy3 := hy3.other (g' := w.heap.size + 1 + 1) (by omega) 7 (.int .i64 s.mode)
  replace hz3 := hz3.set 7 (.int .i64 s.mode)
  replace hb3 : Below w.heap.size w ((((V2).setCell ⟨w.heap.size + 1 + 1, 5, none⟩ (.slice B3 n3 n3)).setCell ⟨w.heap.size + 1 + 1, 6, none⟩ (.int .i64 s.result)).setCell ⟨w.heap.size + 1 + 1, 7, none⟩ (.int .i64 s.mode)) := hb3.setCell (by simp; omega) _
  replace m1 := m1.same ((SameFrom.setCell ((((V2).setCell ⟨w.heap.size + 1 + 1, 5, none⟩ (.slice B3 n3 n3)).setCell ⟨w.heap.size + 1 + 1, 6, none⟩ (.int .i64 s.result)).setCell ⟨w.heap.size + 1 + 1, 7, none⟩ (.int .i64 s.mode)) (w.heap.size + 1 + 1) 8 (.int .i64 s.value)).mono (by omega))
  replace m2 := m2.same ((SameFrom.setCell ((((V2).setCell ⟨w.heap.size + 1 + 1, 5, none⟩ (.slice B3 n3 n3)).setCell ⟨w.heap.size + 1 + 1, 6, none⟩ (.int .i64 s.result)).setCell ⟨w.heap.size + 1 + 1, 7, none⟩ (.int .i64 s.mode)) (w.heap.size + 1 + 1) 8 (.int .i64 s.value)).mono (by omega))
  replace m3 := m3.same ((SameFrom.setCell ((((V2).setCell ⟨w.heap.size + 1 + 1, 5, none⟩ (.slice B3 n3 n3)).setCell ⟨w.heap.size + 1 + 1, 6, none⟩ (.int .i64 s.result)).setCell ⟨w.heap.size + 1 + 1, 7, none⟩ (.int .i64 s.mode)) (w.heap.size + 1 + 1) 8 (.int .i64 s.value)).mono (by omega))
  replace hx3 := hx3.other (g' := w.heap.size + 1 + 1) (by omega) 8 (.int .i64 s.value)
  replace hy3 := hy3.other (g' := w.heap.size + 1 + 1) (by omega) 8 (.int .i64 s.value)
  replace hz3 := hz3.set 8 (.int .i64 s.value)
  replace hb3 : Below w.heap.size w (((((V2).setCell ⟨w.heap.size + 1 + 1, 5, none⟩ (.slice B3 n3 n3)).setCell ⟨w.heap.size + 1 + 1, 6, none⟩ (.int .i64 s.result)).setCell ⟨w.heap.size + 1 + 1, 7, none⟩ (.int .i64 s.mode)).setCell ⟨w.heap.size + 1 + 1, 8, none⟩ (.int .i64 s.value)) := hb3.setCell (by simp; omega) _
  replace m1 := m1.same ((SameFrom.setCell (((((V2).setCell ⟨w.heap.size + 1 + 1, 5, none⟩ (.slice B3 n3 n3)).setCell ⟨w.heap.size + 1 + 1, 6, none⟩ (.int .i64 s.result)).setCell ⟨w.heap.size + 1 + 1, 7, none⟩ (.int .i64 s.mode)).setCell ⟨w.heap.size + 1 + 1, 8, none⟩ (.int .i64 s.value)) (w.heap.size + 1 + 1) 9 (.int .i64 s.base)).mono (by omega))
  replace m2 := m2.same ((SameFrom.setCell (((((V2).setCell ⟨w.heap.size + 1 + 1, 5, none⟩ (.slice B3 n3 n3)).setCell ⟨w.heap.size + 1 + 1, 6, none⟩ (.int .i64 s.result)).setCell ⟨w.heap.size + 1 + 1, 7, none⟩ (.int .i64 s.mode)).setCell ⟨w.heap.size + 1 + 1, 8, none⟩ (.int .i64 s.value)) (w.heap.size + 1 + 1) 9 (.int .i64 s.base)).mono (by omega))
  replace m3 := m3.same ((SameFrom.setCell (((((V2).setCell ⟨w.heap.size + 1 + 1, 5, none⟩ (.slice B3 n3 n3)).setCell ⟨w.heap.size + 1 + 1, 6, none⟩ (.int .i64 s.result)).setCell ⟨w.heap.size + 1 + 1, 7, none⟩ (.int .i64 s.mode)).setCell ⟨w.heap.size + 1 + 1, 8, none⟩ (.int .i64 s.value)) (w.heap.size + 1 + 1) 9 (.int .i64 s.base)).mono (by omega))
  replace hx3 := hx3.other (g' := w.heap.size + 1 + 1) (by omega) 9 (.int .i64 s.base)
  replace hy3 := hy3.other (g' := w.heap.size + 1 + 1) (by omega) 9 (.int .i64 s.base)
  replace hz3 := hz3.set 9 (.int .i64 s.base)
  replace hb3 : Below w.heap.size w ((((((V2).setCell ⟨w.heap.size + 1 + 1, 5, none⟩ (.slice B3 n3 n3)).setCell ⟨w.heap.size + 1 + 1, 6, none⟩ (.int .i64 s.result)).setCell ⟨w.heap.size + 1 + 1, 7, none⟩ (.int .i64 s.mode)).setCell ⟨w.heap.size + 1 + 1, 8, none⟩ (.int .i64 s.value)).setCell ⟨w.heap.size + 1 + 1, 9, none⟩ (.int .i64 s.base)) := hb3.setCell (by simp; omega) _
  replace m1 := m1.same ((SameFrom.setCell ((((((V2).setCell ⟨w.heap.size + 1 + 1, 5, none⟩ (.slice B3 n3 n3)).setCell ⟨w.heap.size + 1 + 1, 6, none⟩ (.int .i64 s.result)).setCell ⟨w.heap.size + 1 + 1, 7, none⟩ (.int .i64 s.mode)).setCell ⟨w.heap.size + 1 + 1, 8, none⟩ (.int .i64 s.value)).setCell ⟨w.heap.size + 1 + 1, 9, none⟩ (.int .i64 s.base)) (w.heap.size + 1 + 1) 10 (.bool s.off)).mono (by omega))
  replace m2 := m2.same ((SameFrom.setCell ((((((V2).setCell ⟨w.heap.size + 1 + 1, 5, none⟩ (.slice B3 n3 n3)).setCell ⟨w.heap.size + 1 + 1, 6, none⟩ (.int .i64 s.result)).setCell ⟨w.heap.size + 1 + 1, 7, none⟩ (.int .i64 s.mode)).setCell ⟨w.heap.size + 1 + 1, 8, none⟩ (.int .i64 s.value)).setCell ⟨w.heap.size + 1 + 1, 9, none⟩ (.int .i64 s.base)) (w.heap.size + 1 + 1) 10 (.bool s.off)).mono (by omega))
  replace m3 := m3.same ((SameFrom.setCell ((((((V2).setCell ⟨w.heap.size + 1 + 1, 5, none⟩ (.slice B3 n3 n3)).setCell ⟨w.heap.size + 1 + 1, 6, none⟩ (.int .i64 s.result)).setCell ⟨w.heap.size + 1 + 1, 7, none⟩ (.int .i64 s.mode)).setCell ⟨w.heap.size + 1 + 1, 8, none⟩ (.int .i64 s.value)).setCell ⟨w.heap.size + 1 + 1, 9, none⟩ (.int .i64 s.base)) (w.heap.size + 1 + 1) 10 (.bool s.off)).mono (by omega))
  replace hx3 := hx3.other (g' := w.heap.size + 1 + 1) (by omega) 10 (.bool s.off)
  replace hy3 := hy3.other (g' := w.heap.size + 1 + 1) (by omega) 10 (.bool s.off)
  replace hz3 := hz3.set 10 (.bool s.off)
  replace hb3 : Below w.heap.size w (((((((V2).setCell ⟨w.heap.size + 1 + 1, 5, none⟩ (.slice B3 n3 n3)).setCell ⟨w.heap.size + 1 + 1, 6, none⟩ (.int .i64 s.result)).setCell ⟨w.heap.size + 1 + 1, 7, none⟩ (.int .i64 s.mode)).setCell ⟨w.heap.size + 1 + 1, 8, none⟩ (.int .i64 s.value)).setCell ⟨w.heap.size + 1 + 1, 9, none⟩ (.int .i64 s.base)).setCell ⟨w.heap.size + 1 + 1, 10, none⟩ (.bool s.off)) := hb3.setCell (by simp; omega) _
  have z0 := hz2.cell 0
  have z1 := hz2.cell 1
  have z2 := hz2.cell 2
  have z3 := hz2.cell 3
  have z4 := hz2.cell 4
  have y0 := hy2.cell 0
  have g0 := hy2.frozen 0
  have y1 := hy2.cell 1
  have g1 := hy2.frozen 1
  have y2 := hy2.cell 2
  have g2 := hy2.frozen 2
  have y3 := hy2.cell 3
  have g3 := hy2.frozen 3
  have y4 := hy2.cell 4
  have g4 := hy2.frozen 4
  have y5 := hy2.cell 5
  have g5 := hy2.frozen 5
  have y6 := hy2.cell 6
  have g6 := hy2.frozen 6
  have y7 := hy2.cell 7
  have g7 := hy2.frozen 7
  have y8 := hy2.cell 8
  have g8 := hy2.frozen 8
  have y9 := hy2.cell 9
  have g9 := hy2.frozen 9
  have y10 := hy2.cell 10
  have g10 := hy2.frozen 10
  simp at z0 z1 z2 z3 z4 y0 y1 y2 y3 y4 y5 y6 y7 y8 y9 y10
  clear hx2 hy2 hz2 hb2 hc2 hx3
  go_wp2
  replace m1 := m1.same ((SameFrom.setCell _ (w.heap.size + 1) 0 (.int .i64 s.ide)).mono (by omega))
  replace m1 := m1.same ((SameFrom.setCell _ (w.heap.size + 1) 1 (.int .i64 s.fn)).mono (by omega))
  replace m1 := m1.same ((SameFrom.setCell _ (w.heap.size + 1) 2 (.int .i64 s.pla)).mono (by omega))
  replace m1 := m1.same ((SameFrom.setCell _ (w.heap.size + 1) 3 (.slice B1 n1 n1)).mono (by omega))
  replace m1 := m1.same ((SameFrom.setCell _ (w.heap.size + 1) 4 (.slice B2 n2 n2)).mono (by omega))
  replace m1 := m1.same ((SameFrom.setCell _ (w.heap.size + 1) 5 (.slice B3 n3 n3)).mono (by omega))
  replace m1 := m1.same ((SameFrom.setCell _ (w.heap.size + 1) 6 (.int .i64 s.result)).mono (by omega))
  replace m1 := m1.same ((SameFrom.setCell _ (w.heap.size + 1) 7 (.int .i64 s.mode)).mono (by omega))
  replace m1 := m1.same ((SameFrom.setCell _ (w.heap.size + 1) 8 (.int .i64 s.value)).mono (by omega))
  replace m1 := m1.same ((SameFrom.setCell _ (w.heap.size + 1) 9 (.int .i64 s.base)).mono (by omega))
  replace m1 := m1.same ((SameFrom.setCell _ (w.heap.size + 1) 10 (.bool s.off)).mono (by omega))
  replace m2 := m2.same ((SameFrom.setCell _ (w.heap.size + 1) 0 (.int .i64 s.ide)).mono (by omega))
  replace m2 := m2.same ((SameFrom.setCell _ (w.heap.size + 1) 1 (.int .i64 s.fn)).mono (by omega))
  replace m2 := m2.same ((SameFrom.setCell _ (w.heap.size + 1) 2 (.int .i64 s.pla)).mono (by omega))
  replace m2 := m2.same ((SameFrom.setCell _ (w.heap.size + 1) 3 (.slice B1 n1 n1)).mono (by omega))
  replace m2 := m2.same ((SameFrom.setCell _ (w.heap.size + 1) 4 (.slice B2 n2 n2)).mono (by omega))
  replace m2 := m2.same ((SameFrom.setCell _ (w.heap.size + 1) 5 (.slice B3 n3 n3)).mono (by omega))
  replace m2 := m2.same ((SameFrom.setCell _ (w.heap.size + 1) 6 (.int .i64 s.result)).mono (by omega))
  replace m2 := m2.same ((SameFrom.setCell _ (w.heap.size + 1) 7 (.int .i64 s.mode)).mono (by omega))
  replace m2 := m2.same ((SameFrom.setCell _ (w.heap.size + 1) 8 (.int .i64 s.value)).mono (by omega))
  replace m2 := m2.same ((SameFrom.setCell _ (w.heap.size + 1) 9 (.int .i64 s.base)).mono (by omega))
  replace m2 := m2.same ((SameFrom.setCell _ (w.heap.size + 1) 10 (.bool s.off)).mono (by omega))
  replace m3 := m3.same ((SameFrom.setCell _ (w.heap.size + 1) 0 (.int .i64 s.ide)).mono (by omega))
  replace m3 := m3.same ((SameFrom.setCell _ (w.heap.size + 1) 1 (.int .i64 s.fn)).mono (by omega))
  replace m3 := m3.same ((SameFrom.setCell _ (w.heap.size + 1) 2 (.int .i64 s.pla)).mono (by omega))
  replace m3 := m3.same ((SameFrom.setCell _ (w.heap.size + 1) 3 (.slice B1 n1 n1)).mono (by omega))
  replace m3 := m3.same ((SameFrom.setCell _ (w.heap.size + 1) 4 (.slice B2 n2 n2)).mono (by omega))
  replace m3 := m3.same ((SameFrom.setCell _ (w.heap.size + 1) 5 (.slice B3 n3 n3)).mono (by omega))
  replace m3 := m3.same ((SameFrom.setCell _ (w.heap.size + 1) 6 (.int .i64 s.result)).mono (by omega))
  replace m3 := m3.same ((SameFrom.setCell _ (w.heap.size + 1) 7 (.int .i64 s.mode)).mono (by omega))
  replace m3 := m3.same ((SameFrom.setCell _ (w.heap.size + 1) 8 (.int .i64 s.value)).mono (by omega))
  replace m3 := m3.same ((SameFrom.setCell _ (w.heap.size + 1) 9 (.int .i64 s.base)).mono (by omega))
  replace m3 := m3.same ((SameFrom.setCell _ (w.heap.size + 1) 10 (.bool s.off)).mono (by omega))
  have hyF := (((((((((((hy3.set 0 (.int .i64 s.ide)).set 1 (.int .i64 s.fn)).set 2 (.int .i64 s.pla)).set 3 (.slice B1 n1 n1)).set 4 (.slice B2 n2 n2)).set 5 (.slice B3 n3 n3)).set 6 (.int .i64 s.result)).set 7 (.int .i64 s.mode)).set 8 (.int .i64 s.value)).set 9 (.int .i64 s.base)).set 10 (.bool s.off))
  have r0 := hyF.cell 0
  have r1 := hyF.cell 1
  have r2 := hyF.cell 2
  have r3 := hyF.cell 3
  have r4 := hyF.cell 4
  have r5 := hyF.cell 5
  have r6 := hyF.cell 6
  have r7 := hyF.cell 7
  have r8 := hyF.cell 8
  have r9 := hyF.cell 9
  have r10 := hyF.cell 10
  simp at r0 r1 r2 r3 r4 r5 r6 r7 r8 r9 r10
  have hbF := (((((((((((hb3.setCell (p := ⟨w.heap.size + 1, 0, none⟩) (Nat.le_succ _) (.int .i64 s.ide)).setCell (p := ⟨w.heap.size + 1, 1, none⟩) (Nat.le_succ _) (.int .i64 s.fn)).setCell (p := ⟨w.heap.size + 1, 2, none⟩) (Nat.le_succ _) (.int .i64 s.pla)).setCell (p := ⟨w.heap.size + 1, 3, none⟩) (Nat.le_succ _) (.slice B1 n1 n1)).setCell (p := ⟨w.heap.size + 1, 4, none⟩) (Nat.le_succ _) (.slice B2 n2 n2)).setCell (p := ⟨w.heap.size + 1, 5, none⟩) (Nat.le_succ _) (.slice B3 n3 n3)).setCell (p := ⟨w.heap.size + 1, 6, none⟩) (Nat.le_succ _) (.int .i64 s.result)).setCell (p := ⟨w.heap.size + 1, 7, none⟩) (Nat.le_succ _) (.int .i64 s.mode)).setCell (p := ⟨w.heap.size + 1, 8, none⟩) (Nat.le_succ _) (.int .i64 s.value)).setCell (p := ⟨w.heap.size + 1, 9, none⟩) (Nat.le_succ _) (.int .i64 s.base)).setCell (p := ⟨w.heap.size + 1, 10, none⟩) (Nat.le_succ _) (.bool s.off))
  clear hyF u5 u6 u7 u8 u9 u10 x6 x7 x8 x9 x10 f5 f6 f7 f8 f9 f10 z0 z1 z2 z3 z4 y0 g0 y1 g1 y2 g2 y3 g3 y4 g4 y5 g5 y6 g6 y7 g7 y8 g8 y9 g9 y10 g10
  exact bodyPost_ret (v := .agg #[.int .i64 s.ide, .int .i64 s.fn, .int .i64 s.pla, .slice B1 n1 n1, .slice B2 n2 n2, .slice B3 n3 n3, .int .i64 s.result, .int .i64 s.mode, .int .i64 s.value, .int .i64 s.base, .bool s.off]) (by simp [results, Tryz.results56, go_sem, r0, r1, r2, r3, r4, r5, r6, r7, r8, r9, r10]) rfl ⟨B1, B2, B3, rfl, ⟨m1.from (by omega), m2.from (by omega), m3.from (by omega)⟩, hbF⟩

end Go.Proofs.YtpbkkjiikhjanaaGreatDoor

/-
  The laws' copying of lists of frames.
-/
namespace Go.Proofs.YtpbkkjiikhjanaaGreatDoor
open Go.RowKit Exs


theorem infoFr : (Tryz.prog.info? 78).map (fun i => (i.zero, i.size, i.bytes)) = some (some (.agg #[.int .i64 0, .int .i64 0, .int .i64 0, .slice none 0 0, .slice none 0 0, .slice none 0 0, .int .i64 0, .int .i64 0, .int .i64 0, .int .i64 0, .bool false]), 11, 136) := by kernel_rfl
set_option maxHeartbeats 2000000 in
set_option maxRecDepth 100000 in
theorem toFrs_any (A : Option Addr) (n c : Nat) (ss : List Fr) (w : World) (hr : ReadsFr w w.heap.size A n ss) (hn : n ≤ 1048576) (hs : ∀ s ∈ ss, SmallFr s) :
    Calls Tryz.prog 31 #[.slice A n c] w fun e w' => ∃ B, e = .returned (.slice B n n) ∧ MFrs w' w.heap.size B n ss ∧ Below w.heap.size w w' := by
  have hmk := fun W => run_make_rows (P := Tryz.prog) 38 78 (.agg #[.int .i64 0, .int .i64 0, .int .i64 0, .slice none 0 0, .slice none 0 0, .slice none 0 0, .int .i64 0, .int .i64 0, .int .i64 0, .int .i64 0, .bool false]) 11 136 Tryz.underlying38 infoFr n (by omega) (by omega) W
  go_enter Tryz.func31, Tryz.ntmps31
  go_wp2
  go_loopw [4] (fun i wr => ∃ k : Nat, k ≤ n ∧ i = .int .i64 k ∧ RoomFr wr w.heap.size n (ss.take k) ∧ Below w.heap.size w wr) (fun i _ => n - (intOf i).toNat)
  case atStart => exact ⟨0, Nat.zero_le _, rfl, RoomFr.made w n _ _ rfl, (Below.refl _ _).alloc (Nat.le_refl _) _⟩
  case round =>
    obtain ⟨k, hk, rfl, hroom, hbel⟩ := hrel
    clear hmk
    by_cases hlt : k < n
    · obtain ⟨b, off, s, A1, n1, c1, A2, n2, c2, A3, n3, c3, rfl, hb, g0, g1, g2, g3, g4, g5, g6, g7, g8, g9, g10, rr, hx⟩ := (hr.below hbel).at_ hlt
      have RR := put (rr.more hbel.size)
      clear rr
      go_wp2_with fail
      refine (toFr_any s A1 n1 c1 A2 n2 c2 A3 n3 c3 _ RR.out (hs _ (mem_of_at hx.out))).mono ?_
      rintro e w1 ⟨B1, B2, B3, rfl, hm, hb1⟩
      have hroom1 := RoomFrp.same hroom (SameFrom.of_below hb1)
      have hbel1 : Below w.heap.size w w1 := hbel.trans (hb1.mono hbel.size)
      obtain ⟨d0, hd0⟩ := hroom1.at_ (k * 11) (by omega)
      have hf0 := hroom1.frozen (k * 11)
      obtain ⟨d1, hd1⟩ := hroom1.at_ (k * 11 + 1) (by omega)
      have hf1 := hroom1.frozen (k * 11 + 1)
      obtain ⟨d2, hd2⟩ := hroom1.at_ (k * 11 + 2) (by omega)
      have hf2 := hroom1.frozen (k * 11 + 2)
      obtain ⟨d3, hd3⟩ := hroom1.at_ (k * 11 + 3) (by omega)
      have hf3 := hroom1.frozen (k * 11 + 3)
      obtain ⟨d4, hd4⟩ := hroom1.at_ (k * 11 + 4) (by omega)
      have hf4 := hroom1.frozen (k * 11 + 4)
      obtain ⟨d5, hd5⟩ := hroom1.at_ (k * 11 + 5) (by omega)
      have hf5 := hroom1.frozen (k * 11 + 5)
      obtain ⟨d6, hd6⟩ := hroom1.at_ (k * 11 + 6) (by omega)
      have hf6 := hroom1.frozen (k * 11 + 6)
      obtain ⟨d7, hd7⟩ := hroom1.at_ (k * 11 + 7) (by omega)
      have hf7 := hroom1.frozen (k * 11 + 7)
      obtain ⟨d8, hd8⟩ := hroom1.at_ (k * 11 + 8) (by omega)
      have hf8 := hroom1.frozen (k * 11 + 8)
      obtain ⟨d9, hd9⟩ := hroom1.at_ (k * 11 + 9) (by omega)
      have hf9 := hroom1.frozen (k * 11 + 9)
      obtain ⟨d10, hd10⟩ := hroom1.at_ (k * 11 + 10) (by omega)
      have hf10 := hroom1.frozen (k * 11 + 10)
      have hlen : (ss.take k).length = k := by rw [List.length_take, hr.1]; omega
      have hm1 := hm.from (show w.heap.size + 1 ≤ wr.heap.size from hroom.lt)
      have hp0 := hroom1
      have hp1 := hp0.push1 (by rw [hlen]; exact hlt) 0 rfl (by omega) (.int .i64 s.ide)
      replace hm1 := hm1.same (SameFrom.setCell _ w.heap.size ((ss.take k).length * 11 + 0) (.int .i64 s.ide))
      have hp2 := hp1.push1 (by rw [hlen]; exact hlt) 1 rfl (by omega) (.int .i64 s.fn)
      replace hm1 := hm1.same (SameFrom.setCell _ w.heap.size ((ss.take k).length * 11 + 1) (.int .i64 s.fn))
      have hp3 := hp2.push1 (by rw [hlen]; exact hlt) 2 rfl (by omega) (.int .i64 s.pla)
      replace hm1 := hm1.same (SameFrom.setCell _ w.heap.size ((ss.take k).length * 11 + 2) (.int .i64 s.pla))
      have hp4 := hp3.push1 (by rw [hlen]; exact hlt) 3 rfl (by omega) (.slice B1 n1 n1)
      replace hm1 := hm1.same (SameFrom.setCell _ w.heap.size ((ss.take k).length * 11 + 3) (.slice B1 n1 n1))
      have hp5 := hp4.push1 (by rw [hlen]; exact hlt) 4 rfl (by omega) (.slice B2 n2 n2)
      replace hm1 := hm1.same (SameFrom.setCell _ w.heap.size ((ss.take k).length * 11 + 4) (.slice B2 n2 n2))
      have hp6 := hp5.push1 (by rw [hlen]; exact hlt) 5 rfl (by omega) (.slice B3 n3 n3)
      replace hm1 := hm1.same (SameFrom.setCell _ w.heap.size ((ss.take k).length * 11 + 5) (.slice B3 n3 n3))
      have hp7 := hp6.push1 (by rw [hlen]; exact hlt) 6 rfl (by omega) (.int .i64 s.result)
      replace hm1 := hm1.same (SameFrom.setCell _ w.heap.size ((ss.take k).length * 11 + 6) (.int .i64 s.result))
      have hp8 := hp7.push1 (by rw [hlen]; exact hlt) 7 rfl (by omega) (.int .i64 s.mode)
      replace hm1 := hm1.same (SameFrom.setCell _ w.heap.size ((ss.take k).length * 11 + 7) (.int .i64 s.mode))
      have hp9 := hp8.push1 (by rw [hlen]; exact hlt) 8 rfl (by omega) (.int .i64 s.value)
      replace hm1 := hm1.same (SameFrom.setCell _ w.heap.size ((ss.take k).length * 11 + 8) (.int .i64 s.value))
      have hp10 := hp9.push1 (by rw [hlen]; exact hlt) 9 rfl (by omega) (.int .i64 s.base)
      replace hm1 := hm1.same (SameFrom.setCell _ w.heap.size ((ss.take k).length * 11 + 9) (.int .i64 s.base))
      have hp11 := hp10.push1 (by rw [hlen]; exact hlt) 10 rfl (by omega) (.bool s.off)
      replace hm1 := hm1.same (SameFrom.setCell _ w.heap.size ((ss.take k).length * 11 + 10) (.bool s.off))
      have hpush := hp11.full s B1 n1 n1 B2 n2 n2 B3 n3 n3 rfl hm1
      rw [hlen, ← takeA_more hx.out] at hpush
      have HP := put hpush
      clear hpush hlen hm hm1 hb1 hroom hroom1 RR hp0 hp1 hp2 hp3 hp4 hp5 hp6 hp7 hp8 hp9 hp10 hp11 g0 g1 g2 g3 g4 g5 g6 g7 g8 g9 g10
      unfold frV
      go_wp2
      go_roundw
      case rel => exact ⟨k + 1, by omega, by go_num, HP.out, (((((((((((hbel1.setCell (by simp) _).setCell (by simp) _).setCell (by simp) _).setCell (by simp) _).setCell (by simp) _).setCell (by simp) _).setCell (by simp) _).setCell (by simp) _).setCell (by simp) _).setCell (by simp) _).setCell (by simp) _)⟩
      case measure => simp [intOf]; omega
    · have hfin := put (show ss.take k = ss from List.take_of_length_le (by rw [hr.1]; omega))
      go_wp2
      go_ret
      exact ⟨_, rfl, ⟨_, rfl, Nat.le_refl _, by rw [hfin.out] at hroom; exact hroom, hr.1⟩, hbel⟩

end Go.Proofs.YtpbkkjiikhjanaaGreatDoor

/-
  The laws' copying of machines.
-/
namespace Go.Proofs.YtpbkkjiikhjanaaGreatDoor
open Go.RowKit Exs


set_option maxHeartbeats 2000000 in
set_option maxRecDepth 100000 in
theorem toMc_any (s : Mc) (A1 : Option Addr) (n1 c1 : Nat) (A2 : Option Addr) (n2 c2 : Nat) (A3 : Option Addr) (n3 c3 : Nat) (w : World) (hr : IsMc w w.heap.size s A1 n1 A2 n2 A3 n3) (hs : SmallMc s) :
    Calls Tryz.prog 10 #[mcV s A1 n1 c1 A2 n2 c2 A3 n3 c3] w fun e w' => ∃ B1 B2 B3, e = .returned (mcV s B1 n1 n1 B2 n2 n2 B3 n3 n3) ∧ MMc w' w.heap.size s B1 n1 B2 n2 B3 n3 ∧ Below w.heap.size w w' := by
  obtain ⟨l1, q1, l2, l3⟩ := hs
  rw [hr.frames.1] at l1
  rw [hr.trace.1] at l2
  rw [hr.notes.1] at l3
  unfold mcV
  go_enter Tryz.func10, Tryz.ntmps10
  go_wp2_with fail
  have hb0 : Below w.heap.size w (((w.alloc (.cells #[.slice A1 n1 c1, .slice A2 n2 c2, .int .i64 s.used, .int .i64 s.code, .int .i64 s.value, .int .i64 s.made, .slice A3 n3 c3] 29)).alloc (.cells #[.slice none 0 0, .slice none 0 0, .int .i64 0, .int .i64 0, .int .i64 0, .int .i64 0, .slice none 0 0] 41)).alloc (.cells #[.slice none 0 0, .slice none 0 0, .int .i64 0, .int .i64 0, .int .i64 0, .int .i64 0, .slice none 0 0] 41)) :=
    (((Below.refl _ _).alloc (Nat.le_refl _) _).alloc (by simp) _).alloc (by simp; omega) _
  have hx0 : Keep (((w.alloc (.cells #[.slice A1 n1 c1, .slice A2 n2 c2, .int .i64 s.used, .int .i64 s.code, .int .i64 s.value, .int .i64 s.made, .slice A3 n3 c3] 29)).alloc (.cells #[.slice none 0 0, .slice none 0 0, .int .i64 0, .int .i64 0, .int .i64 0, .int .i64 0, .slice none 0 0] 41)).alloc (.cells #[.slice none 0 0, .slice none 0 0, .int .i64 0, .int .i64 0, .int .i64 0, .int .i64 0, .slice none 0 0] 41)) w.heap.size #[.slice A1 n1 c1, .slice A2 n2 c2, .int .i64 s.used, .int .i64 s.code, .int .i64 s.value, .int .i64 s.made, .slice A3 n3 c3] 29 := ((Keep.new _ _ _).alloc _).alloc _
  have hy0 : Keep (((w.alloc (.cells #[.slice A1 n1 c1, .slice A2 n2 c2, .int .i64 s.used, .int .i64 s.code, .int .i64 s.value, .int .i64 s.made, .slice A3 n3 c3] 29)).alloc (.cells #[.slice none 0 0, .slice none 0 0, .int .i64 0, .int .i64 0, .int .i64 0, .int .i64 0, .slice none 0 0] 41)).alloc (.cells #[.slice none 0 0, .slice none 0 0, .int .i64 0, .int .i64 0, .int .i64 0, .int .i64 0, .slice none 0 0] 41)) (w.heap.size + 1) #[.slice none 0 0, .slice none 0 0, .int .i64 0, .int .i64 0, .int .i64 0, .int .i64 0, .slice none 0 0] 41 := by
    have := Keep.new (w.alloc (.cells #[.slice A1 n1 c1, .slice A2 n2 c2, .int .i64 s.used, .int .i64 s.code, .int .i64 s.value, .int .i64 s.made, .slice A3 n3 c3] 29)) #[.slice none 0 0, .slice none 0 0, .int .i64 0, .int .i64 0, .int .i64 0, .int .i64 0, .slice none 0 0] 41
    rw [World.size_alloc] at this
    exact this.alloc _
  have hz0 : Keep (((w.alloc (.cells #[.slice A1 n1 c1, .slice A2 n2 c2, .int .i64 s.used, .int .i64 s.code, .int .i64 s.value, .int .i64 s.made, .slice A3 n3 c3] 29)).alloc (.cells #[.slice none 0 0, .slice none 0 0, .int .i64 0, .int .i64 0, .int .i64 0, .int .i64 0, .slice none 0 0] 41)).alloc (.cells #[.slice none 0 0, .slice none 0 0, .int .i64 0, .int .i64 0, .int .i64 0, .int .i64 0, .slice none 0 0] 41)) (w.heap.size + 1 + 1) #[.slice none 0 0, .slice none 0 0, .int .i64 0, .int .i64 0, .int .i64 0, .int .i64 0, .slice none 0 0] 41 := by
    have := Keep.new ((w.alloc (.cells #[.slice A1 n1 c1, .slice A2 n2 c2, .int .i64 s.used, .int .i64 s.code, .int .i64 s.value, .int .i64 s.made, .slice A3 n3 c3] 29)).alloc (.cells #[.slice none 0 0, .slice none 0 0, .int .i64 0, .int .i64 0, .int .i64 0, .int .i64 0, .slice none 0 0] 41)) #[.slice none 0 0, .slice none 0 0, .int .i64 0, .int .i64 0, .int .i64 0, .int .i64 0, .slice none 0 0] 41
    rw [World.size_alloc, World.size_alloc] at this
    exact this
  generalize hW0 : ((w.alloc (.cells #[.slice A1 n1 c1, .slice A2 n2 c2, .int .i64 s.used, .int .i64 s.code, .int .i64 s.value, .int .i64 s.made, .slice A3 n3 c3] 29)).alloc (.cells #[.slice none 0 0, .slice none 0 0, .int .i64 0, .int .i64 0, .int .i64 0, .int .i64 0, .slice none 0 0] 41)).alloc (.cells #[.slice none 0 0, .slice none 0 0, .int .i64 0, .int .i64 0, .int .i64 0, .int .i64 0, .slice none 0 0] 41) = W0 at hb0 hx0 hy0 hz0 ⊢
  clear hW0
  refine (toFrs_any A1 n1 c1 s.frames _ (hr.frames.now hb0) l1 q1).mono ?_
  rintro e V0 ⟨B1, rfl, m1, hc0⟩
  have s0 := hb0.size
  have t0 := hc0.size
  have l0z := hz0.lt
  replace hx0 := hx0.below hc0
  replace hy0 := hy0.below hc0
  replace hz0 := hz0.below hc0
  replace hb0 : Below w.heap.size w V0 := hb0.trans (hc0.mono hb0.size)
  have u0 := hz0.cell 0
  have f0 := hz0.frozen 0
  have x1 := hx0.cell 1
  simp at u0 x1
  have hb1 := hb0
  have hx1 := hx0
  have hy1 := hy0
  have hz1 := hz0
  replace m1 := m1.same ((SameFrom.setCell (V0) (w.heap.size + 1 + 1) 0 (.slice B1 n1 n1)).mono (by omega))
  replace hx1 := hx1.other (g' := w.heap.size + 1 + 1) (by omega) 0 (.slice B1 n1 n1)
  replace hy1 := hy1.other (g' := w.heap.size + 1 + 1) (by omega) 0 (.slice B1 n1 n1)
  replace hz1 := hz1.set 0 (.slice B1 n1 n1)
  replace hb1 : Below w.heap.size w ((V0).setCell ⟨w.heap.size + 1 + 1, 0, none⟩ (.slice B1 n1 n1)) := hb1.setCell (by simp; omega) _
  clear hx0 hy0 hz0 hb0 hc0
  go_wp2_with fail
  generalize hW : (V0).setCell ⟨w.heap.size + 1 + 1, 0, none⟩ (.slice B1 n1 n1) = W1 at m1 hx1 hy1 hz1 hb1 ⊢
  clear hW u0 x1 f0
  refine (toInts_m A2 n2 c2 s.trace _ (hr.trace.now hb1) l2).mono ?_
  rintro e V1 ⟨B2, rfl, m2, hc1⟩
  have s1 := hb1.size
  have t1 := hc1.size
  have l1z := hz1.lt
  replace m1 := m1.same (SameFrom.of_below hc1)
  replace hx1 := hx1.below hc1
  replace hy1 := hy1.below hc1
  replace hz1 := hz1.below hc1
  replace hb1 : Below w.heap.size w V1 := hb1.trans (hc1.mono hb1.size)
  have u1 := hz1.cell 1
  have f1 := hz1.frozen 1
  have u2 := hz1.cell 2
  have f2 := hz1.frozen 2
  have u3 := hz1.cell 3
  have f3 := hz1.frozen 3
  have u4 := hz1.cell 4
  have f4 := hz1.frozen 4
  have u5 := hz1.cell 5
  have f5 := hz1.frozen 5
  have x2 := hx1.cell 2
  have x3 := hx1.cell 3
  have x4 := hx1.cell 4
  have x5 := hx1.cell 5
  have x6 := hx1.cell 6
  simp at u1 u2 u3 u4 u5 x2 x3 x4 x5 x6
  have hb2 := hb1
  have hx2 := hx1
  have hy2 := hy1
  have hz2 := hz1
  replace m1 := m1.same ((SameFrom.setCell (V1) (w.heap.size + 1 + 1) 1 (.slice B2 n2 n2)).mono (by omega))
  replace m2 := m2.same ((SameFrom.setCell (V1) (w.heap.size + 1 + 1) 1 (.slice B2 n2 n2)).mono (by omega))
  replace hx2 := hx2.other (g' := w.heap.size + 1 + 1) (by omega) 1 (.slice B2 n2 n2)
  replace hy2 := hy2.other (g' := w.heap.size + 1 + 1) (by omega) 1 (.slice B2 n2 n2)
  replace hz2 := hz2.set 1 (.slice B2 n2 n2)
  replace hb2 : Below w.heap.size w ((V1).setCell ⟨w.heap.size + 1 + 1, 1, none⟩ (.slice B2 n2 n2)) := hb2.setCell (by simp; omega) _
  replace m1 := m1.same ((SameFrom.setCell ((V1).setCell ⟨w.heap.size + 1 + 1, 1, none⟩ (.slice B2 n2 n2)) (w.heap.size + 1 + 1) 2 (.int .i64 s.used)).mono (by omega))
  replace m2 := m2.same ((SameFrom.setCell ((V1).setCell ⟨w.heap.size + 1 + 1, 1, none⟩ (.slice B2 n2 n2)) (w.heap.size + 1 + 1) 2 (.int .i64 s.used)).mono (by omega))
  replace hx2 := hx2.other (g' := w.heap.size + 1 + 1) (by omega) 2 (.int .i64 s.used)
  replace hy2 := hy2.other (g' := w.heap.size + 1 + 1) (by omega) 2 (.int .i64 s.used)
  replace hz2 := hz2.set 2 (.int .i64 s.used)
  replace hb2 : Below w.heap.size w (((V1).setCell ⟨w.heap.size + 1 + 1, 1, none⟩ (.slice B2 n2 n2)).setCell ⟨w.heap.size + 1 + 1, 2, none⟩ (.int .i64 s.used)) := hb2.setCell (by simp; omega) _
  replace m1 := m1.same ((SameFrom.setCell (((V1).setCell ⟨w.heap.size + 1 + 1, 1, none⟩ (.slice B2 n2 n2)).setCell ⟨w.heap.size + 1 + 1, 2, none⟩ (.int .i64 s.used)) (w.heap.size + 1 + 1) 3 (.int .i64 s.code)).mono (by omega))
  replace m2 := m2.same ((SameFrom.setCell (((V1).setCell ⟨w.heap.size + 1 + 1, 1, none⟩ (.slice B2 n2 n2)).setCell ⟨w.heap.size + 1 + 1, 2, none⟩ (.int .i64 s.used)) (w.heap.size + 1 + 1) 3 (.int .i64 s.code)).mono (by omega))
  replace hx2 := hx2.other (g' := w.heap.size + 1 + 1) (by omega) 3 (.int .i64 s.code)
  replace hy2 := hy2.other (g' := w.heap.size + 1 + 1) (by omega) 3 (.int .i64 s.code)
  replace hz2 := hz2.set 3 (.int .i64 s.code)
  replace hb2 : Below w.heap.size w ((((V1).setCell ⟨w.heap.size + 1 + 1, 1, none⟩ (.slice B2 n2 n2)).setCell ⟨w.heap.size + 1 + 1, 2, none⟩ (.int .i64 s.used)).setCell ⟨w.heap.size + 1 + 1, 3, none⟩ (.int .i64 s.code)) := hb2.setCell (by simp; omega) _
  replace m1 := m1.same ((SameFrom.setCell ((((V1).setCell ⟨w.heap.size + 1 + 1, 1, none⟩ (.slice B2 n2 n2)).setCell ⟨w.heap.size + 1 + 1, 2, none⟩ (.int .i64 s.used)).setCell ⟨w.heap.size + 1 + 1, 3, none⟩ (.int .i64 s.code)) (w.heap.size + 1 + 1) 4 (.int .i64 s.value)).mono (by omega))
  replace m2 := m2.same ((SameFrom.setCell ((((V1).setCell ⟨w.heap.size + 1 + 1, 1, none⟩ (.slice B2 n2 n2)).setCell ⟨w.heap.size + 1 + 1, 2, none⟩ (.int .i64 s.used)).setCell ⟨w.heap.size + 1 + 1, 3, none⟩ (.int .i64 s.code)) (w.heap.size + 1 + 1) 4 (.int .i64 s.value)).mono (by omega))
  replace hx2 := hx2.other (g' := w.heap.size + 1 + 1) (by omega) 4 (.int .i64 s.value)
  replace hy2 := hy2.other (g' := w.heap.size + 1 + 1) (by omega) 4 (.int .i64 s.value)
  replace hz2 := hz2.set 4 (.int .i64 s.value)
  replace hb2 : Below w.heap.size w (((((V1).setCell ⟨w.heap.size + 1 + 1, 1, none⟩ (.slice B2 n2 n2)).setCell ⟨w.heap.size + 1 + 1, 2, none⟩ (.int .i64 s.used)).setCell ⟨w.heap.size + 1 + 1, 3, none⟩ (.int .i64 s.code)).setCell ⟨w.heap.size + 1 + 1, 4, none⟩ (.int .i64 s.value)) := hb2.setCell (by simp; omega) _
  replace m1 := m1.same ((SameFrom.setCell (((((V1).setCell ⟨w.heap.size + 1 + 1, 1, none⟩ (.slice B2 n2 n2)).setCell ⟨w.heap.size + 1 + 1, 2, none⟩ (.int .i64 s.used)).setCell ⟨w.heap.size + 1 + 1, 3, none⟩ (.int .i64 s.code)).setCell ⟨w.heap.size + 1 + 1, 4, none⟩ (.int .i64 s.value)) (w.heap.size + 1 + 1) 5 (.int .i64 s.made)).mono (by omega))
  replace m2 := m2.same ((SameFrom.setCell (((((V1).setCell ⟨w.heap.size + 1 + 1, 1, none⟩ (.slice B2 n2 n2)).setCell ⟨w.heap.size + 1 + 1, 2, none⟩ (.int .i64 s.used)).setCell ⟨w.heap.size + 1 + 1, 3, none⟩ (.int .i64 s.code)).setCell ⟨w.heap.size + 1 + 1, 4, none⟩ (.int .i64 s.value)) (w.heap.size + 1 + 1) 5 (.int .i64 s.made)).mono (by omega))
  replace hx2 := hx2.other (g' := w.heap.size + 1 + 1) (by omega) 5 (.int .i64 s.made)
  replace hy2 := hy2.other (g' := w.heap.size + 1 + 1) (by omega) 5 (.int .i64 s.made)
  replace hz2 := hz2.set 5 (.int .i64 s.made)
  replace hb2 : Below w.heap.size w ((((((V1).setCell ⟨w.heap.size + 1 + 1, 1, none⟩ (.slice B2 n2 n2)).setCell ⟨w.heap.size + 1 + 1, 2, none⟩ (.int .i64 s.used)).setCell ⟨w.heap.size + 1 + 1, 3, none⟩ (.int .i64 s.code)).setCell ⟨w.heap.size + 1 + 1, 4, none⟩ (.int .i64 s.value)).setCell ⟨w.heap.size + 1 + 1, 5, none⟩ (.int .i64 s.made)) := hb2.setCell (by simp; omega) _
  clear hx1 hy1 hz1 hb1 hc1
  go_wp2_with fail
  generalize hW : (((((V1).setCell ⟨w.heap.size + 1 + 1, 1, none⟩ (.slice B2 n2 n2)).setCell ⟨w.heap.size + 1 + 1, 2, none⟩ (.int .i64 s.used)).setCell ⟨w.heap.size + 1 + 1, 3, none⟩ (.int .i64 s.code)).setCell ⟨w.heap.size + 1 + 1, 4, none⟩ (.int .i64 s.value)).setCell ⟨w.heap.size + 1 + 1, 5, none⟩ (.int .i64 s.made) = W2 at m1 m2 hx2 hy2 hz2 hb2 ⊢
  clear hW u1 u2 u3 u4 u5 x2 x3 x4 x5 x6 f1 f2 f3 f4 f5
  refine (toNotes_m A3 n3 c3 s.notes _ (hr.notes.now hb2) l3).mono ?_
  rintro e V2 ⟨B3, rfl, m3, hc2⟩
  have s2 := hb2.size
  have t2 := hc2.size
  have l2z := hz2.lt
  replace m1 := m1.same (SameFrom.of_below hc2)
  replace m2 := m2.same (SameFrom.of_below hc2)
  replace hx2 := hx2.below hc2
  replace hy2 := hy2.below hc2
  replace hz2 := hz2.below hc2
  replace hb2 : Below w.heap.size w V2 := hb2.trans (hc2.mono hb2.size)
  have u6 := hz2.cell 6
  have f6 := hz2.frozen 6
  simp at u6
  have hb3 := hb2
  have hx3 := hx2
  have hy3 := hy2
  have hz3 := hz2
  replace m1 := m1.same ((SameFrom.setCell (V2) (w.heap.size + 1 + 1) 6 (.slice B3 n3 n3)).mono (by omega))
  replace m2 := m2.same ((SameFrom.setCell (V2) (w.heap.size + 1 + 1) 6 (.slice B3 n3 n3)).mono (by omega))
  replace m3 := m3.same ((SameFrom.setCell (V2) (w.heap.size + 1 + 1) 6 (.slice B3 n3 n3)).mono (by omega))
  replace hx3 := hx3.other (g' := w.heap.size + 1 + 1) (by omega) 6 (.slice B3 n3 n3)
  replace hy3 := hy3.other (g' := w.heap.size + 1 + 1) (by omega) 6 (.slice B3 n3 n3)
  replace hz3 := hz3.set 6 (.slice B3 n3 n3)
  replace hb3 : Below w.heap.size w ((V2).setCell ⟨w.heap.size + 1 + 1, 6, none⟩ (.slice B3 n3 n3)) := hb3.setCell (by simp; omega) _
  have z0 := hz2.cell 0
  have z1 := hz2.cell 1
  have z2 := hz2.cell 2
  have z3 := hz2.cell 3
  have z4 := hz2.cell 4
  have z5 := hz2.cell 5
  have y0 := hy2.cell 0
  have g0 := hy2.frozen 0
  have y1 := hy2.cell 1
  have g1 := hy2.frozen 1
  have y2 := hy2.cell 2
  have g2 := hy2.frozen 2
  have y3 := hy2.cell 3
  have g3 := hy2.frozen 3
  have y4 := hy2.cell 4
  have g4 := hy2.frozen 4
  have y5 := hy2.cell 5
  have g5 := hy2.frozen 5
  have y6 := hy2.cell 6
  have g6 := hy2.frozen 6
  simp at z0 z1 z2 z3 z4 z5 y0 y1 y2 y3 y4 y5 y6
  clear hx2 hy2 hz2 hb2 hc2 hx3
  go_wp2
  replace m1 := m1.same ((SameFrom.setCell _ (w.heap.size + 1) 0 (.slice B1 n1 n1)).mono (by omega))
  replace m1 := m1.same ((SameFrom.setCell _ (w.heap.size + 1) 1 (.slice B2 n2 n2)).mono (by omega))
  replace m1 := m1.same ((SameFrom.setCell _ (w.heap.size + 1) 2 (.int .i64 s.used)).mono (by omega))
  replace m1 := m1.same ((SameFrom.setCell _ (w.heap.size + 1) 3 (.int .i64 s.code)).mono (by omega))
  replace m1 := m1.same ((SameFrom.setCell _ (w.heap.size + 1) 4 (.int .i64 s.value)).mono (by omega))
  replace m1 := m1.same ((SameFrom.setCell _ (w.heap.size + 1) 5 (.int .i64 s.made)).mono (by omega))
  replace m1 := m1.same ((SameFrom.setCell _ (w.heap.size + 1) 6 (.slice B3 n3 n3)).mono (by omega))
  replace m2 := m2.same ((SameFrom.setCell _ (w.heap.size + 1) 0 (.slice B1 n1 n1)).mono (by omega))
  replace m2 := m2.same ((SameFrom.setCell _ (w.heap.size + 1) 1 (.slice B2 n2 n2)).mono (by omega))
  replace m2 := m2.same ((SameFrom.setCell _ (w.heap.size + 1) 2 (.int .i64 s.used)).mono (by omega))
  replace m2 := m2.same ((SameFrom.setCell _ (w.heap.size + 1) 3 (.int .i64 s.code)).mono (by omega))
  replace m2 := m2.same ((SameFrom.setCell _ (w.heap.size + 1) 4 (.int .i64 s.value)).mono (by omega))
  replace m2 := m2.same ((SameFrom.setCell _ (w.heap.size + 1) 5 (.int .i64 s.made)).mono (by omega))
  replace m2 := m2.same ((SameFrom.setCell _ (w.heap.size + 1) 6 (.slice B3 n3 n3)).mono (by omega))
  replace m3 := m3.same ((SameFrom.setCell _ (w.heap.size + 1) 0 (.slice B1 n1 n1)).mono (by omega))
  replace m3 := m3.same ((SameFrom.setCell _ (w.heap.size + 1) 1 (.slice B2 n2 n2)).mono (by omega))
  replace m3 := m3.same ((SameFrom.setCell _ (w.heap.size + 1) 2 (.int .i64 s.used)).mono (by omega))
  replace m3 := m3.same ((SameFrom.setCell _ (w.heap.size + 1) 3 (.int .i64 s.code)).mono (by omega))
  replace m3 := m3.same ((SameFrom.setCell _ (w.heap.size + 1) 4 (.int .i64 s.value)).mono (by omega))
  replace m3 := m3.same ((SameFrom.setCell _ (w.heap.size + 1) 5 (.int .i64 s.made)).mono (by omega))
  replace m3 := m3.same ((SameFrom.setCell _ (w.heap.size + 1) 6 (.slice B3 n3 n3)).mono (by omega))
  have hyF := (((((((hy3.set 0 (.slice B1 n1 n1)).set 1 (.slice B2 n2 n2)).set 2 (.int .i64 s.used)).set 3 (.int .i64 s.code)).set 4 (.int .i64 s.value)).set 5 (.int .i64 s.made)).set 6 (.slice B3 n3 n3))
  have r0 := hyF.cell 0
  have r1 := hyF.cell 1
  have r2 := hyF.cell 2
  have r3 := hyF.cell 3
  have r4 := hyF.cell 4
  have r5 := hyF.cell 5
  have r6 := hyF.cell 6
  simp at r0 r1 r2 r3 r4 r5 r6
  have hbF := (((((((hb3.setCell (p := ⟨w.heap.size + 1, 0, none⟩) (Nat.le_succ _) (.slice B1 n1 n1)).setCell (p := ⟨w.heap.size + 1, 1, none⟩) (Nat.le_succ _) (.slice B2 n2 n2)).setCell (p := ⟨w.heap.size + 1, 2, none⟩) (Nat.le_succ _) (.int .i64 s.used)).setCell (p := ⟨w.heap.size + 1, 3, none⟩) (Nat.le_succ _) (.int .i64 s.code)).setCell (p := ⟨w.heap.size + 1, 4, none⟩) (Nat.le_succ _) (.int .i64 s.value)).setCell (p := ⟨w.heap.size + 1, 5, none⟩) (Nat.le_succ _) (.int .i64 s.made)).setCell (p := ⟨w.heap.size + 1, 6, none⟩) (Nat.le_succ _) (.slice B3 n3 n3))
  clear hyF u6 f6 z0 z1 z2 z3 z4 z5 y0 g0 y1 g1 y2 g2 y3 g3 y4 g4 y5 g5 y6 g6
  exact bodyPost_ret (v := .agg #[.slice B1 n1 n1, .slice B2 n2 n2, .int .i64 s.used, .int .i64 s.code, .int .i64 s.value, .int .i64 s.made, .slice B3 n3 n3]) (by simp [results, Tryz.results10, go_sem, r0, r1, r2, r3, r4, r5, r6]) rfl ⟨B1, B2, B3, rfl, ⟨m1.from (by omega), m2.from (by omega), m3.from (by omega)⟩, hbF⟩

end Go.Proofs.YtpbkkjiikhjanaaGreatDoor

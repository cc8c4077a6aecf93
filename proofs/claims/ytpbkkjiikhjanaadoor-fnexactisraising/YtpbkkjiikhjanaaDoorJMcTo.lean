/-
  Texts joined: McTo FrEq McEq.
-/
import Derived.Test.YtpbkkjiikhjanaaDoorJVzD
import Derived.Test.YtpbkkjiikhjanaaDoorJArgV
/-
  The laws' copying of machines.
-/
namespace Go.Proofs.YtpbkkjiikhjanaaDoor
open Go.RowKit Exs


set_option maxHeartbeats 2000000 in
set_option maxRecDepth 100000 in
theorem toMc_any (s : Mc) (A1 : Option Addr) (n1 c1 : Nat) (A2 : Option Addr) (n2 c2 : Nat) (A3 : Option Addr) (n3 c3 : Nat) (w : World) (hr : IsMc w w.heap.size s A1 n1 A2 n2 A3 n3) (hs : SmallMc s) :
    Calls Tryd.prog 8 #[mcV s A1 n1 c1 A2 n2 c2 A3 n3 c3] w fun e w' => ∃ B1 B2 B3, e = .returned (mcV s B1 n1 n1 B2 n2 n2 B3 n3 n3) ∧ MMc w' w.heap.size s B1 n1 B2 n2 B3 n3 ∧ Below w.heap.size w w' := by
  obtain ⟨l1, q1, l2, l3⟩ := hs
  rw [hr.frames.1] at l1
  rw [hr.trace.1] at l2
  rw [hr.notes.1] at l3
  unfold mcV
  go_enter Tryd.func8, Tryd.ntmps8
  go_wp2_with fail
  have hb0 : Below w.heap.size w (((w.alloc (.cells #[.slice A1 n1 c1, .slice A2 n2 c2, .int .i64 s.used, .int .i64 s.code, .int .i64 s.value, .int .i64 s.made, .slice A3 n3 c3] 29)).alloc (.cells #[.slice none 0 0, .slice none 0 0, .int .i64 0, .int .i64 0, .int .i64 0, .int .i64 0, .slice none 0 0] 41)).alloc (.cells #[.slice none 0 0, .slice none 0 0, .int .i64 0, .int .i64 0, .int .i64 0, .int .i64 0, .slice none 0 0] 41)) :=
    (((Below.refl _ _).alloc (Nat.le_refl _) _).alloc (by simp) _).alloc (by simp; omega) _
  have hx0 : Keep (((w.alloc (.cells #[.slice A1 n1 c1, .slice A2 n2 c2, .int .i64 s.used, .int .i64 s.code, .int .i64 s.value, .int .i64 s.made, .slice A3 n3 c3] 29)).alloc (.cells #[.slice none 0 0, .slice none 0 0, .int .i64 0, .int .i64 0, .int .i64 0, .int .i64 0, .slice none 0 0] 41)).alloc (.cells #[.slice none 0 0, .slice none 0 0, .int .i64 0, .int .i64 0, .int .i64 0, .int .i64 0, .slice none 0 0] 41)) w.heap.size #[.slice A1 n1 c1, .slice A2 n2 c2, .int .i64 s.used, .int .i64 s.code, .int .i64 s.value, .int .i64 s.made, .slice A3 n3 c3] 29 := ((Keep.new _ _ _).alloc _).alloc _
  have hy0 : Keep (((w.alloc (.cells #[.slice A1 n1 c1, .slice A2 n2 c2, .int .i64 s.used, .int .i64 s.code, .int .i64 s.value, .int .i64 s.made, .slice A3 n3 c3] 29)).alloc (.cells #[.slice none 0 0, .slice none 0 0, .int .i64 0, .int .i64 0, .int .i64 0, .int .i64 0, .slice none 0 0] 41)).alloc (.cells #[.slice none 0 0, .slice none 0 0, .int .i64 0, .int .i64 0, .int .i64 0, .int .i64 0, .slice none 0 0] 41)) (w.heap.size + 1) #[.slice none 0 0, .slice none 0 0, .int .i64 0, .int .i64 0, .int .i64 0, .int .i64 0, .slice none 0 0] 41 := by
    have := Keep.new (w.alloc (.cells #[.slice A1 n1 c1, .slice A2 n2 c2, .int .i64 s.used, .int .i64 s.code, .int .i64 s.value, .int .i64 s.made, .slice A3 n3 c3] 29)) #[.slice none 0 0, .slice none 0 0, .int .i64 0, .int .i64 0, .int .i64 0, .int .i64 0, .slice none 0 0] 41
    rw [World.size_alloc] at this
    exact this.alloc _
  have hz0 : Keep (((w.alloc (.cells #[.slice A1 n1 c1, .slice A2 n2 c2, .int .i64 s.used, .int .i64 s.code, .int .i64 s.value, .int .i64 s.made, .slice A3 n3 c3] 29)).alloc (.cells #[.slice none 0 0, .slice none 0 0, .int .i64 0, .int .i64 0, .int .i64 0, .int .i64 0, .slice none 0 0] 41)).alloc (.cells #[.slice none 0 0, .slice none 0 0, .int .i64 0, .int .i64 0, .int .i64 0, .int .i64 0, .slice none 0 0] 41)) (w.heap.size + 1 + 1) #[.slice none 0 0, .slice none 0 0, .int .i64 0, .int .i64 0, .int .i64 0, .int .i64 0, .slice none 0 0] 41 := by
    have := Keep.new ((w.alloc (.cells #[.slice A1 n1 c1, .slice A2 n2 c2, .int .i64 s.used, .int .i64 s.code, .int .i64 s.value, .int .i64 s.made, .slice A3 n3 c3] 29)).alloc (.cells #[.slice none 0 0, .slice none 0 0, .int .i64 0, .int .i64 0, .int .i64 0, .int .i64 0, .slice none 0 0] 41)) #[.slice none 0 0, .slice none 0 0, .int .i64 0, .int .i64 0, .int .i64 0, .int .i64 0, .slice none 0 0] 41
    rw [World.size_alloc, World.size_alloc] at this
    exact this
  generalize hW0 : ((w.alloc (.cells #[.slice A1 n1 c1, .slice A2 n2 c2, .int .i64 s.used, .int .i64 s.code, .int .i64 s.value, .int .i64 s.made, .slice A3 n3 c3] 29)).alloc (.cells #[.slice none 0 0, .slice none 0 0, .int .i64 0, .int .i64 0, .int .i64 0, .int .i64 0, .slice none 0 0] 41)).alloc (.cells #[.slice none 0 0, .slice none 0 0, .int .i64 0, .int .i64 0, .int .i64 0, .int .i64 0, .slice none 0 0] 41) = W0 at hb0 hx0 hy0 hz0 ⊢
  clear hW0
  refine (toFrs_any A1 n1 c1 s.frames _ (hr.frames.now hb0) l1 q1).mono ?_
  rintro e V0 ⟨B1, rfl, m1, hc0⟩
  have s0 := hb0.size
  have t0 := hc0.size
  have l0z := hz0.lt
  replace hx0 := hx0.below hc0
  replace hy0 := hy0.below hc0
  replace hz0 := hz0.below hc0
  replace hb0 : Below w.heap.size w V0 := hb0.trans (hc0.mono hb0.size)
  have u0 := hz0.cell 0
  have f0 := hz0.frozen 0
  have x1 := hx0.cell 1
  simp at u0 x1
  have hb1 := hb0
  have hx1 := hx0
  have hy1 := hy0
  have hz1 := hz0
  replace m1 := m1.same ((SameFrom.setCell (V0) (w.heap.size + 1 + 1) 0 (.slice B1 n1 n1)).mono (by omega))
  replace hx1 := hx1.other (g' := w.heap.size + 1 + 1) (by omega) 0 (.slice B1 n1 n1)
  replace hy1 := hy1.other (g' := w.heap.size + 1 + 1) (by omega) 0 (.slice B1 n1 n1)
  replace hz1 := hz1.set 0 (.slice B1 n1 n1)
  replace hb1 : Below w.heap.size w ((V0).setCell ⟨w.heap.size + 1 + 1, 0, none⟩ (.slice B1 n1 n1)) := hb1.setCell (by simp; omega) _
  clear hx0 hy0 hz0 hb0 hc0
  go_wp2_with fail
  generalize hW : (V0).setCell ⟨w.heap.size + 1 + 1, 0, none⟩ (.slice B1 n1 n1) = W1 at m1 hx1 hy1 hz1 hb1 ⊢
  clear hW u0 x1 f0
  refine (toInts_m A2 n2 c2 s.trace _ (hr.trace.now hb1) l2).mono ?_
  rintro e V1 ⟨B2, rfl, m2, hc1⟩
  have s1 := hb1.size
  have t1 := hc1.size
  have l1z := hz1.lt
  replace m1 := m1.same (SameFrom.of_below hc1)
  replace hx1 := hx1.below hc1
  replace hy1 := hy1.below hc1
  replace hz1 := hz1.below hc1
  replace hb1 : Below w.heap.size w V1 := hb1.trans (hc1.mono hb1.size)
  have u1 := hz1.cell 1
  have f1 := hz1.frozen 1
  have u2 := hz1.cell 2
  have f2 := hz1.frozen 2
  have u3 := hz1.cell 3
  have f3 := hz1.frozen 3
  have u4 := hz1.cell 4
  have f4 := hz1.frozen 4
  have u5 := hz1.cell 5
  have f5 := hz1.frozen 5
  have x2 := hx1.cell 2
  have x3 := hx1.cell 3
  have x4 := hx1.cell 4
  have x5 := hx1.cell 5
  have x6 := hx1.cell 6
  simp at u1 u2 u3 u4 u5 x2 x3 x4 x5 x6
  have hb2 := hb1
  have hx2 := hx1
  have hy2 := hy1
  have hz2 := hz1
  replace m1 := m1.same ((SameFrom.setCell (V1) (w.heap.size + 1 + 1) 1 (.slice B2 n2 n2)).mono (by omega))
  replace m2 := m2.same ((SameFrom.setCell (V1) (w.heap.size + 1 + 1) 1 (.slice B2 n2 n2)).mono (by omega))
  replace hx2 := hx2.other (g' := w.heap.size + 1 + 1) (by omega) 1 (.slice B2 n2 n2)
  replace hy2 := hy2.other (g' := w.heap.size + 1 + 1) (by omega) 1 (.slice B2 n2 n2)
  replace hz2 := hz2.set 1 (.slice B2 n2 n2)
  replace hb2 : Below w.heap.size w ((V1).setCell ⟨w.heap.size + 1 + 1, 1, none⟩ (.slice B2 n2 n2)) := hb2.setCell (by simp; omega) _
  replace m1 := m1.same ((SameFrom.setCell ((V1).setCell ⟨w.heap.size + 1 + 1, 1, none⟩ (.slice B2 n2 n2)) (w.heap.size + 1 + 1) 2 (.int .i64 s.used)).mono (by omega))
  replace m2 := m2.same ((SameFrom.setCell ((V1).setCell ⟨w.heap.size + 1 + 1, 1, none⟩ (.slice B2 n2 n2)) (w.heap.size + 1 + 1) 2 (.int .i64 s.used)).mono (by omega))
  replace hx2 := hx2.other (g' := w.heap.size + 1 + 1) (by omega) 2 (.int .i64 s.used)
  replace hy2 := hy2.other (g' := w.heap.size + 1 + 1) (by omega) 2 (.int .i64 s.used)
  replace hz2 := hz2.set 2 (.int .i64 s.used)
  replace hb2 : Below w.heap.size w (((V1).setCell ⟨w.heap.size + 1 + 1, 1, none⟩ (.slice B2 n2 n2)).setCell ⟨w.heap.size + 1 + 1, 2, none⟩ (.int .i64 s.used)) := hb2.setCell (by simp; omega) _
  replace m1 := m1.same ((SameFrom.setCell (((V1).setCell ⟨w.heap.size + 1 + 1, 1, none⟩ (.slice B2 n2 n2)).setCell ⟨w.heap.size + 1 + 1, 2, none⟩ (.int .i64 s.used)) (w.heap.size + 1 + 1) 3 (.int .i64 s.code)).mono (by omega))
  replace m2 := m2.same ((SameFrom.setCell (((V1).setCell ⟨w.heap.size + 1 + 1, 1, none⟩ (.slice B2 n2 n2)).setCell ⟨w.heap.size + 1 + 1, 2, none⟩ (.int .i64 s.used)) (w.heap.size + 1 + 1) 3 (.int .i64 s.code)).mono (by omega))
  replace hx2 := hx2.other (g' := w.heap.size + 1 + 1) (by omega) 3 (.int .i64 s.code)
  replace hy2 := hy2.other (g' := w.heap.size + 1 + 1) (by omega) 3 (.int .i64 s.code)
  replace hz2 := hz2.set 3 (.int .i64 s.code)
  replace hb2 : Below w.heap.size w ((((V1).setCell ⟨w.heap.size + 1 + 1, 1, none⟩ (.slice B2 n2 n2)).setCell ⟨w.heap.size + 1 + 1, 2, none⟩ (.int .i64 s.used)).setCell ⟨w.heap.size + 1 + 1, 3, none⟩ (.int .i64 s.code)) := hb2.setCell (by simp; omega) _
  replace m1 := m1.same ((SameFrom.setCell ((((V1).setCell ⟨w.heap.size + 1 + 1, 1, none⟩ (.slice B2 n2 n2)).setCell ⟨w.heap.size + 1 + 1, 2, none⟩ (.int .i64 s.used)).setCell ⟨w.heap.size + 1 + 1, 3, none⟩ (.int .i64 s.code)) (w.heap.size + 1 + 1) 4 (.int .i64 s.value)).mono (by omega))
  replace m2 := m2.same ((SameFrom.setCell ((((V1).setCell ⟨w.heap.size + 1 + 1, 1, none⟩ (.slice B2 n2 n2)).setCell ⟨w.heap.size + 1 + 1, 2, none⟩ (.int .i64 s.used)).setCell ⟨w.heap.size + 1 + 1, 3, none⟩ (.int .i64 s.code)) (w.heap.size + 1 + 1) 4 (.int .i64 s.value)).mono (by omega))
  replace hx2 := hx2.other (g' := w.heap.size + 1 + 1) (by omega) 4 (.int .i64 s.value)
  replace hy2 := hy2.other (g' := w.heap.size + 1 + 1) (by omega) 4 (.int .i64 s.value)
  replace hz2 := hz2.set 4 (.int .i64 s.value)
  replace hb2 : Below w.heap.size w (((((V1).setCell ⟨w.heap.size + 1 + 1, 1, none⟩ (.slice B2 n2 n2)).setCell ⟨w.heap.size + 1 + 1, 2, none⟩ (.int .i64 s.used)).setCell ⟨w.heap.size + 1 + 1, 3, none⟩ (.int .i64 s.code)).setCell ⟨w.heap.size + 1 + 1, 4, none⟩ (.int .i64 s.value)) := hb2.setCell (by simp; omega) _
  replace m1 := m1.same ((SameFrom.setCell (((((V1).setCell ⟨w.heap.size + 1 + 1, 1, none⟩ (.slice B2 n2 n2)).setCell ⟨w.heap.size + 1 + 1, 2, none⟩ (.int .i64 s.used)).setCell ⟨w.heap.size + 1 + 1, 3, none⟩ (.int .i64 s.code)).setCell ⟨w.heap.size + 1 + 1, 4, none⟩ (.int .i64 s.value)) (w.heap.size + 1 + 1) 5 (.int .i64 s.made)).mono (by omega))
  replace m2 := m2.same ((SameFrom.setCell (((((V1).setCell ⟨w.heap.size + 1 + 1, 1, none⟩ (.slice B2 n2 n2)).setCell ⟨w.heap.size + 1 + 1, 2, none⟩ (.int .i64 s.used)).setCell ⟨w.heap.size + 1 + 1, 3, none⟩ (.int .i64 s.code)).setCell ⟨w.heap.size + 1 + 1, 4, none⟩ (.int .i64 s.value)) (w.heap.size + 1 + 1) 5 (.int .i64 s.made)).mono (by omega))
  replace hx2 := hx2.other (g' := w.heap.size + 1 + 1) (by omega) 5 (.int .i64 s.made)
  replace hy2 := hy2.other (g' := w.heap.size + 1 + 1) (by omega) 5 (.int .i64 s.made)
  replace hz2 := hz2.set 5 (.int .i64 s.made)
  replace hb2 : Below w.heap.size w ((((((V1).setCell ⟨w.heap.size + 1 + 1, 1, none⟩ (.slice B2 n2 n2)).setCell ⟨w.heap.size + 1 + 1, 2, none⟩ (.int .i64 s.used)).setCell ⟨w.heap.size + 1 + 1, 3, none⟩ (.int .i64 s.code)).setCell ⟨w.heap.size + 1 + 1, 4, none⟩ (.int .i64 s.value)).setCell ⟨w.heap.size + 1 + 1, 5, none⟩ (.int .i64 s.made)) := hb2.setCell (by simp; omega) _
  clear hx1 hy1 hz1 hb1 hc1
  go_wp2_with fail
  generalize hW : (((((V1).setCell ⟨w.heap.size + 1 + 1, 1, none⟩ (.slice B2 n2 n2)).setCell ⟨w.heap.size + 1 + 1, 2, none⟩ (.int .i64 s.used)).setCell ⟨w.heap.size + 1 + 1, 3, none⟩ (.int .i64 s.code)).setCell ⟨w.heap.size + 1 + 1, 4, none⟩ (.int .i64 s.value)).setCell ⟨w.heap.size + 1 + 1, 5, none⟩ (.int .i64 s.made) = W2 at m1 m2 hx2 hy2 hz2 hb2 ⊢
  clear hW u1 u2 u3 u4 u5 x2 x3 x4 x5 x6 f1 f2 f3 f4 f5
  refine (toNotes_m A3 n3 c3 s.notes _ (hr.notes.now hb2) l3).mono ?_
  rintro e V2 ⟨B3, rfl, m3, hc2⟩
  have s2 := hb2.size
  have t2 := hc2.size
  have l2z := hz2.lt
  replace m1 := m1.same (SameFrom.of_below hc2)
  replace m2 := m2.same (SameFrom.of_below hc2)
  replace hx2 := hx2.below hc2
  replace hy2 := hy2.below hc2
  replace hz2 := hz2.below hc2
  replace hb2 : Below w.heap.size w V2 := hb2.trans (hc2.mono hb2.size)
  have u6 := hz2.cell 6
  have f6 := hz2.frozen 6
  simp at u6
  have hb3 := hb2
  have hx3 := hx2
  have hy3 := hy2
  have hz3 := hz2
  replace m1 := m1.same ((SameFrom.setCell (V2) (w.heap.size + 1 + 1) 6 (.slice B3 n3 n3)).mono (by omega))
  replace m2 := m2.same ((SameFrom.setCell (V2) (w.heap.size + 1 + 1) 6 (.slice B3 n3 n3)).mono (by omega))
  replace m3 := m3.same ((SameFrom.setCell (V2) (w.heap.size + 1 + 1) 6 (.slice B3 n3 n3)).mono (by omega))
  replace hx3 := hx3.other (g' := w.heap.size + 1 + 1) (by omega) 6 (.slice B3 n3 n3)
  replace hy3 := hy3.other (g' := w.heap.size + 1 + 1) (by omega) 6 (.slice B3 n3 n3)
  replace hz3 := hz3.set 6 (.slice B3 n3 n3)
  replace hb3 : Below w.heap.size w ((V2).setCell ⟨w.heap.size + 1 + 1, 6, none⟩ (.slice B3 n3 n3)) := hb3.setCell (by simp; omega) _
  have z0 := hz2.cell 0
  have z1 := hz2.cell 1
  have z2 := hz2.cell 2
  have z3 := hz2.cell 3
  have z4 := hz2.cell 4
  have z5 := hz2.cell 5
  have y0 := hy2.cell 0
  have g0 := hy2.frozen 0
  have y1 := hy2.cell 1
  have g1 := hy2.frozen 1
  have y2 := hy2.cell 2
  have g2 := hy2.frozen 2
  have y3 := hy2.cell 3
  have g3 := hy2.frozen 3
  have y4 := hy2.cell 4
  have g4 := hy2.frozen 4
  have y5 := hy2.cell 5
  have g5 := hy2.frozen 5
  have y6 := hy2.cell 6
  have g6 := hy2.frozen 6
  simp at z0 z1 z2 z3 z4 z5 y0 y1 y2 y3 y4 y5 y6
  clear hx2 hy2 hz2 hb2 hc2 hx3
  go_wp2
  replace m1 := m1.same ((SameFrom.setCell _ (w.heap.size + 1) 0 (.slice B1 n1 n1)).mono (by omega))
  replace m1 := m1.same ((SameFrom.setCell _ (w.heap.size + 1) 1 (.slice B2 n2 n2)).mono (by omega))
  replace m1 := m1.same ((SameFrom.setCell _ (w.heap.size + 1) 2 (.int .i64 s.used)).mono (by omega))
  replace m1 := m1.same ((SameFrom.setCell _ (w.heap.size + 1) 3 (.int .i64 s.code)).mono (by omega))
  replace m1 := m1.same ((SameFrom.setCell _ (w.heap.size + 1) 4 (.int .i64 s.value)).mono (by omega))
  replace m1 := m1.same ((SameFrom.setCell _ (w.heap.size + 1) 5 (.int .i64 s.made)).mono (by omega))
  replace m1 := m1.same ((SameFrom.setCell _ (w.heap.size + 1) 6 (.slice B3 n3 n3)).mono (by omega))
  replace m2 := m2.same ((SameFrom.setCell _ (w.heap.size + 1) 0 (.slice B1 n1 n1)).mono (by omega))
  replace m2 := m2.same ((SameFrom.setCell _ (w.heap.size + 1) 1 (.slice B2 n2 n2)).mono (by omega))
  replace m2 := m2.same ((SameFrom.setCell _ (w.heap.size + 1) 2 (.int .i64 s.used)).mono (by omega))
  replace m2 := m2.same ((SameFrom.setCell _ (w.heap.size + 1) 3 (.int .i64 s.code)).mono (by omega))
  replace m2 := m2.same ((SameFrom.setCell _ (w.heap.size + 1) 4 (.int .i64 s.value)).mono (by omega))
  replace m2 := m2.same ((SameFrom.setCell _ (w.heap.size + 1) 5 (.int .i64 s.made)).mono (by omega))
  replace m2 := m2.same ((SameFrom.setCell _ (w.heap.size + 1) 6 (.slice B3 n3 n3)).mono (by omega))
  replace m3 := m3.same ((SameFrom.setCell _ (w.heap.size + 1) 0 (.slice B1 n1 n1)).mono (by omega))
  replace m3 := m3.same ((SameFrom.setCell _ (w.heap.size + 1) 1 (.slice B2 n2 n2)).mono (by omega))
  replace m3 := m3.same ((SameFrom.setCell _ (w.heap.size + 1) 2 (.int .i64 s.used)).mono (by omega))
  replace m3 := m3.same ((SameFrom.setCell _ (w.heap.size + 1) 3 (.int .i64 s.code)).mono (by omega))
  replace m3 := m3.same ((SameFrom.setCell _ (w.heap.size + 1) 4 (.int .i64 s.value)).mono (by omega))
  replace m3 := m3.same ((SameFrom.setCell _ (w.heap.size + 1) 5 (.int .i64 s.made)).mono (by omega))
  replace m3 := m3.same ((SameFrom.setCell _ (w.heap.size + 1) 6 (.slice B3 n3 n3)).mono (by omega))
  have hyF := (((((((hy3.set 0 (.slice B1 n1 n1)).set 1 (.slice B2 n2 n2)).set 2 (.int .i64 s.used)).set 3 (.int .i64 s.code)).set 4 (.int .i64 s.value)).set 5 (.int .i64 s.made)).set 6 (.slice B3 n3 n3))
  have r0 := hyF.cell 0
  have r1 := hyF.cell 1
  have r2 := hyF.cell 2
  have r3 := hyF.cell 3
  have r4 := hyF.cell 4
  have r5 := hyF.cell 5
  have r6 := hyF.cell 6
  simp at r0 r1 r2 r3 r4 r5 r6
  have hbF := (((((((hb3.setCell (p := ⟨w.heap.size + 1, 0, none⟩) (Nat.le_succ _) (.slice B1 n1 n1)).setCell (p := ⟨w.heap.size + 1, 1, none⟩) (Nat.le_succ _) (.slice B2 n2 n2)).setCell (p := ⟨w.heap.size + 1, 2, none⟩) (Nat.le_succ _) (.int .i64 s.used)).setCell (p := ⟨w.heap.size + 1, 3, none⟩) (Nat.le_succ _) (.int .i64 s.code)).setCell (p := ⟨w.heap.size + 1, 4, none⟩) (Nat.le_succ _) (.int .i64 s.value)).setCell (p := ⟨w.heap.size + 1, 5, none⟩) (Nat.le_succ _) (.int .i64 s.made)).setCell (p := ⟨w.heap.size + 1, 6, none⟩) (Nat.le_succ _) (.slice B3 n3 n3))
  clear hyF u6 f6 z0 z1 z2 z3 z4 z5 y0 g0 y1 g1 y2 g2 y3 g3 y4 g4 y5 g5 y6 g6
  exact bodyPost_ret (v := .agg #[.slice B1 n1 n1, .slice B2 n2 n2, .int .i64 s.used, .int .i64 s.code, .int .i64 s.value, .int .i64 s.made, .slice B3 n3 n3]) (by simp [results, Tryd.results8, go_sem, r0, r1, r2, r3, r4, r5, r6]) rfl ⟨B1, B2, B3, rfl, ⟨m1.from (by omega), m2.from (by omega), m3.from (by omega)⟩, hbF⟩

end Go.Proofs.YtpbkkjiikhjanaaDoor

/-
  The laws' comparing of frames.
-/
namespace Go.Proofs.YtpbkkjiikhjanaaDoor
open Go.RowKit Exs


set_option maxHeartbeats 2000000 in
set_option maxRecDepth 100000 in
theorem eqFr_same (s : Fr) (A1 : Option Addr) (n1 c1 : Nat) (A2 : Option Addr) (n2 c2 : Nat) (A3 : Option Addr) (n3 c3 : Nat) (B1 : Option Addr) (d1 : Nat) (B2 : Option Addr) (d2 : Nat) (B3 : Option Addr) (d3 : Nat) (w : World) (hr : IsFr w w.heap.size s A1 n1 A2 n2 A3 n3) (hr' : IsFr w w.heap.size s B1 n1 B2 n2 B3 n3) (hs : SmallFr s) :
    Calls Tryd.prog 40 #[frV s A1 n1 c1 A2 n2 c2 A3 n3 c3, frV s B1 n1 d1 B2 n2 d2 B3 n3 d3] w fun e w' => e = .returned (.bool true) ∧ Below w.heap.size w w' := by
  obtain ⟨l1, l2, l3⟩ := hs
  rw [hr.pile.1] at l1
  rw [hr.vars.1] at l2
  rw [hr.flags.1] at l3
  unfold frV
  go_enter Tryd.func40, Tryd.ntmps40
  go_wp2_with fail
  have hb0 : Below w.heap.size w ((w.alloc (.cells #[.int .i64 s.ide, .int .i64 s.fn, .int .i64 s.pla, .slice A1 n1 c1, .slice A2 n2 c2, .slice A3 n3 c3, .int .i64 s.result, .int .i64 s.mode, .int .i64 s.value, .int .i64 s.base, .bool s.off] 58)).alloc (.cells #[.int .i64 s.ide, .int .i64 s.fn, .int .i64 s.pla, .slice B1 n1 d1, .slice B2 n2 d2, .slice B3 n3 d3, .int .i64 s.result, .int .i64 s.mode, .int .i64 s.value, .int .i64 s.base, .bool s.off] 58)) := ((Below.refl _ _).alloc (Nat.le_refl _) _).alloc (by simp) _
  have hx0 : Keep ((w.alloc (.cells #[.int .i64 s.ide, .int .i64 s.fn, .int .i64 s.pla, .slice A1 n1 c1, .slice A2 n2 c2, .slice A3 n3 c3, .int .i64 s.result, .int .i64 s.mode, .int .i64 s.value, .int .i64 s.base, .bool s.off] 58)).alloc (.cells #[.int .i64 s.ide, .int .i64 s.fn, .int .i64 s.pla, .slice B1 n1 d1, .slice B2 n2 d2, .slice B3 n3 d3, .int .i64 s.result, .int .i64 s.mode, .int .i64 s.value, .int .i64 s.base, .bool s.off] 58)) w.heap.size #[.int .i64 s.ide, .int .i64 s.fn, .int .i64 s.pla, .slice A1 n1 c1, .slice A2 n2 c2, .slice A3 n3 c3, .int .i64 s.result, .int .i64 s.mode, .int .i64 s.value, .int .i64 s.base, .bool s.off] 58 := (Keep.new _ _ _).alloc _
  have hy0 : Keep ((w.alloc (.cells #[.int .i64 s.ide, .int .i64 s.fn, .int .i64 s.pla, .slice A1 n1 c1, .slice A2 n2 c2, .slice A3 n3 c3, .int .i64 s.result, .int .i64 s.mode, .int .i64 s.value, .int .i64 s.base, .bool s.off] 58)).alloc (.cells #[.int .i64 s.ide, .int .i64 s.fn, .int .i64 s.pla, .slice B1 n1 d1, .slice B2 n2 d2, .slice B3 n3 d3, .int .i64 s.result, .int .i64 s.mode, .int .i64 s.value, .int .i64 s.base, .bool s.off] 58)) (w.heap.size + 1) #[.int .i64 s.ide, .int .i64 s.fn, .int .i64 s.pla, .slice B1 n1 d1, .slice B2 n2 d2, .slice B3 n3 d3, .int .i64 s.result, .int .i64 s.mode, .int .i64 s.value, .int .i64 s.base, .bool s.off] 58 := by
    have := Keep.new (w.alloc (.cells #[.int .i64 s.ide, .int .i64 s.fn, .int .i64 s.pla, .slice A1 n1 c1, .slice A2 n2 c2, .slice A3 n3 c3, .int .i64 s.result, .int .i64 s.mode, .int .i64 s.value, .int .i64 s.base, .bool s.off] 58)) #[.int .i64 s.ide, .int .i64 s.fn, .int .i64 s.pla, .slice B1 n1 d1, .slice B2 n2 d2, .slice B3 n3 d3, .int .i64 s.result, .int .i64 s.mode, .int .i64 s.value, .int .i64 s.base, .bool s.off] 58
    rw [World.size_alloc] at this
    exact this
  generalize hW0 : (w.alloc (.cells #[.int .i64 s.ide, .int .i64 s.fn, .int .i64 s.pla, .slice A1 n1 c1, .slice A2 n2 c2, .slice A3 n3 c3, .int .i64 s.result, .int .i64 s.mode, .int .i64 s.value, .int .i64 s.base, .bool s.off] 58)).alloc (.cells #[.int .i64 s.ide, .int .i64 s.fn, .int .i64 s.pla, .slice B1 n1 d1, .slice B2 n2 d2, .slice B3 n3 d3, .int .i64 s.result, .int .i64 s.mode, .int .i64 s.value, .int .i64 s.base, .bool s.off] 58) = W0 at hb0 hx0 hy0 ⊢
  clear hW0
  refine (eqInts_below A1 B1 n1 c1 d1 s.pile _ (hr.pile.now hb0) (hr'.pile.now hb0) l1).mono ?_
  rintro e W1 ⟨rfl, hc0⟩
  have hb1 : Below w.heap.size w W1 := hb0.trans (hc0.mono hb0.size)
  have hx1 := hx0.below hc0
  have hy1 := hy0.below hc0
  clear hx0 hy0 hc0 hb0
  have x4 := hx1.cell 4
  have y4 := hy1.cell 4
  simp at x4 y4
  go_wp2_with fail
  clear x4 y4
  refine (eqInts_below A2 B2 n2 c2 d2 s.vars _ (hr.vars.now hb1) (hr'.vars.now hb1) l2).mono ?_
  rintro e W2 ⟨rfl, hc1⟩
  have hb2 : Below w.heap.size w W2 := hb1.trans (hc1.mono hb1.size)
  have hx2 := hx1.below hc1
  have hy2 := hy1.below hc1
  clear hx1 hy1 hc1 hb1
  have x5 := hx2.cell 5
  have y5 := hy2.cell 5
  simp at x5 y5
  go_wp2_with fail
  clear x5 y5
  refine (eqBools_same A3 B3 n3 c3 d3 s.flags _ (hr.flags.now hb2) (hr'.flags.now hb2) l3).mono ?_
  rintro e W3 ⟨rfl, hc2⟩
  have hb3 : Below w.heap.size w W3 := hb2.trans (hc2.mono hb2.size)
  have hx3 := hx2.below hc2
  have hy3 := hy2.below hc2
  clear hx2 hy2 hc2 hb2
  have x6 := hx3.cell 6
  have y6 := hy3.cell 6
  have x7 := hx3.cell 7
  have y7 := hy3.cell 7
  have x8 := hx3.cell 8
  have y8 := hy3.cell 8
  have x9 := hx3.cell 9
  have y9 := hy3.cell 9
  have x10 := hx3.cell 10
  have y10 := hy3.cell 10
  simp at x6 y6 x7 y7 x8 y8 x9 y9 x10 y10
  go_wp2
  go_ret
  exact ⟨rfl, hb3⟩

set_option maxHeartbeats 2000000 in
set_option maxRecDepth 100000 in
theorem eqFrs_same (A A' : Option Addr) (n c c' : Nat) (ss : List Fr) (w : World) (hr : ReadsFr w w.heap.size A n ss) (hr' : ReadsFr w w.heap.size A' n ss) (hn : n ≤ 1048576) (hs : ∀ x ∈ ss, SmallFr x) :
    Calls Tryd.prog 25 #[.slice A n c, .slice A' n c'] w fun e w' => e = .returned (.bool true) ∧ Below w.heap.size w w' := by
  go_enter Tryd.func25, Tryd.ntmps25
  go_wp2
  go_loopw [5] (fun i wr => ∃ k : Nat, k ≤ n ∧ i = .int .i64 k ∧ Below w.heap.size w wr) (fun i _ => n - (intOf i).toNat)
  case atStart => exact ⟨0, Nat.zero_le _, rfl, Below.refl _ _⟩
  case round =>
    obtain ⟨k, hk, rfl, hbel⟩ := hrel
    by_cases hlt : k < n
    · obtain ⟨b, off, s, A1, n1, c1, A2, n2, c2, A3, n3, c3, rfl, hb, g0, g1, g2, g3, g4, g5, g6, g7, g8, g9, g10, rr, hx⟩ := (hr.below hbel).at_ hlt
      obtain ⟨b', off', s', B1, m1, d1, B2, m2, d2, B3, m3, d3, rfl, hb', h0, h1, h2, h3, h4, h5, h6, h7, h8, h9, h10, rr', hx'⟩ := (hr'.below hbel).at_ hlt
      obtain rfl : s = s' := by have := hx.out; rw [hx'.out] at this; injection this with this; exact this.symm
      have u0 := cell_regrown g0
      have v0 := cell_regrown h0
      have u1 := cell_regrown g1
      have v1 := cell_regrown h1
      have u2 := cell_regrown g2
      have v2 := cell_regrown h2
      have u3 := cell_regrown g3
      have v3 := cell_regrown h3
      have u4 := cell_regrown g4
      have v4 := cell_regrown h4
      have u5 := cell_regrown g5
      have v5 := cell_regrown h5
      have u6 := cell_regrown g6
      have v6 := cell_regrown h6
      have u7 := cell_regrown g7
      have v7 := cell_regrown h7
      have u8 := cell_regrown g8
      have v8 := cell_regrown h8
      have u9 := cell_regrown g9
      have v9 := cell_regrown h9
      have u10 := cell_regrown g10
      have v10 := cell_regrown h10
      obtain rfl : n1 = m1 := by have := rr.pile.1; have := rr'.pile.1; omega
      obtain rfl : n2 = m2 := by have := rr.vars.1; have := rr'.vars.1; omega
      obtain rfl : n3 = m3 := by have := rr.flags.1; have := rr'.flags.1; omega
      have hcon := fun W (hW : Below wr.heap.size wr W) => eqFr_same s A1 n1 c1 A2 n2 c2 A3 n3 c3 B1 d1 B2 d2 B3 d3 W ((rr.more hbel.size).now hW) ((rr'.more hbel.size).now hW) (hs _ (mem_of_at hx.out))
      unfold frV at hcon
      clear rr rr'
      go_wp2
      refine wp_region_quiet_below (by kernel_rfl) (by kernel_rfl) ?_
      repeat (first | go_big_quiet_step ((go_at_call 40; exact Calls.regrown_of (hcon _ (below_regrown wr _ _)))) | quiet_step (fail))
      refine wpQuiet_nil ?_
      intro _ hw'
      obtain ⟨⟨dq, osq⟩, hw''⟩ := hw'
      subst hw''
      go_wp2
      go_roundw
      case rel => exact ⟨k + 1, by omega, by go_num, hbel.trans ((below_regrown wr dq osq).mono hbel.size)⟩
      case measure => simp [intOf]; omega
    · go_wp2
      go_ret
      exact ⟨rfl, hbel⟩

end Go.Proofs.YtpbkkjiikhjanaaDoor

/-
  The laws' comparing of machines.
-/
namespace Go.Proofs.YtpbkkjiikhjanaaDoor
open Go.RowKit Exs


set_option maxHeartbeats 2000000 in
set_option maxRecDepth 100000 in
theorem eqMc_same (s : Mc) (A1 : Option Addr) (n1 c1 : Nat) (A2 : Option Addr) (n2 c2 : Nat) (A3 : Option Addr) (n3 c3 : Nat) (B1 : Option Addr) (d1 : Nat) (B2 : Option Addr) (d2 : Nat) (B3 : Option Addr) (d3 : Nat) (w : World) (hr : IsMc w w.heap.size s A1 n1 A2 n2 A3 n3) (hr' : IsMc w w.heap.size s B1 n1 B2 n2 B3 n3) (hs : SmallMc s) :
    Calls Tryd.prog 11 #[mcV s A1 n1 c1 A2 n2 c2 A3 n3 c3, mcV s B1 n1 d1 B2 n2 d2 B3 n3 d3] w fun e w' => e = .returned (.bool true) ∧ Below w.heap.size w w' := by
  obtain ⟨l1, q1, l2, l3⟩ := hs
  rw [hr.frames.1] at l1
  rw [hr.trace.1] at l2
  rw [hr.notes.1] at l3
  unfold mcV
  go_enter Tryd.func11, Tryd.ntmps11
  go_wp2_with fail
  have hb0 : Below w.heap.size w ((w.alloc (.cells #[.slice A1 n1 c1, .slice A2 n2 c2, .int .i64 s.used, .int .i64 s.code, .int .i64 s.value, .int .i64 s.made, .slice A3 n3 c3] 41)).alloc (.cells #[.slice B1 n1 d1, .slice B2 n2 d2, .int .i64 s.used, .int .i64 s.code, .int .i64 s.value, .int .i64 s.made, .slice B3 n3 d3] 41)) := ((Below.refl _ _).alloc (Nat.le_refl _) _).alloc (by simp) _
  have hx0 : Keep ((w.alloc (.cells #[.slice A1 n1 c1, .slice A2 n2 c2, .int .i64 s.used, .int .i64 s.code, .int .i64 s.value, .int .i64 s.made, .slice A3 n3 c3] 41)).alloc (.cells #[.slice B1 n1 d1, .slice B2 n2 d2, .int .i64 s.used, .int .i64 s.code, .int .i64 s.value, .int .i64 s.made, .slice B3 n3 d3] 41)) w.heap.size #[.slice A1 n1 c1, .slice A2 n2 c2, .int .i64 s.used, .int .i64 s.code, .int .i64 s.value, .int .i64 s.made, .slice A3 n3 c3] 41 := (Keep.new _ _ _).alloc _
  have hy0 : Keep ((w.alloc (.cells #[.slice A1 n1 c1, .slice A2 n2 c2, .int .i64 s.used, .int .i64 s.code, .int .i64 s.value, .int .i64 s.made, .slice A3 n3 c3] 41)).alloc (.cells #[.slice B1 n1 d1, .slice B2 n2 d2, .int .i64 s.used, .int .i64 s.code, .int .i64 s.value, .int .i64 s.made, .slice B3 n3 d3] 41)) (w.heap.size + 1) #[.slice B1 n1 d1, .slice B2 n2 d2, .int .i64 s.used, .int .i64 s.code, .int .i64 s.value, .int .i64 s.made, .slice B3 n3 d3] 41 := by
    have := Keep.new (w.alloc (.cells #[.slice A1 n1 c1, .slice A2 n2 c2, .int .i64 s.used, .int .i64 s.code, .int .i64 s.value, .int .i64 s.made, .slice A3 n3 c3] 41)) #[.slice B1 n1 d1, .slice B2 n2 d2, .int .i64 s.used, .int .i64 s.code, .int .i64 s.value, .int .i64 s.made, .slice B3 n3 d3] 41
    rw [World.size_alloc] at this
    exact this
  generalize hW0 : (w.alloc (.cells #[.slice A1 n1 c1, .slice A2 n2 c2, .int .i64 s.used, .int .i64 s.code, .int .i64 s.value, .int .i64 s.made, .slice A3 n3 c3] 41)).alloc (.cells #[.slice B1 n1 d1, .slice B2 n2 d2, .int .i64 s.used, .int .i64 s.code, .int .i64 s.value, .int .i64 s.made, .slice B3 n3 d3] 41) = W0 at hb0 hx0 hy0 ⊢
  clear hW0
  refine (eqFrs_same A1 B1 n1 c1 d1 s.frames _ (hr.frames.now hb0) (hr'.frames.now hb0) l1 q1).mono ?_
  rintro e W1 ⟨rfl, hc0⟩
  have hb1 : Below w.heap.size w W1 := hb0.trans (hc0.mono hb0.size)
  have hx1 := hx0.below hc0
  have hy1 := hy0.below hc0
  clear hx0 hy0 hc0 hb0
  have x1 := hx1.cell 1
  have y1 := hy1.cell 1
  simp at x1 y1
  go_wp2_with fail
  clear x1 y1
  refine (eqInts_below A2 B2 n2 c2 d2 s.trace _ (hr.trace.now hb1) (hr'.trace.now hb1) l2).mono ?_
  rintro e W2 ⟨rfl, hc1⟩
  have hb2 : Below w.heap.size w W2 := hb1.trans (hc1.mono hb1.size)
  have hx2 := hx1.below hc1
  have hy2 := hy1.below hc1
  clear hx1 hy1 hc1 hb1
  have x2 := hx2.cell 2
  have y2 := hy2.cell 2
  have x3 := hx2.cell 3
  have y3 := hy2.cell 3
  have x4 := hx2.cell 4
  have y4 := hy2.cell 4
  have x5 := hx2.cell 5
  have y5 := hy2.cell 5
  have x6 := hx2.cell 6
  have y6 := hy2.cell 6
  simp at x2 y2 x3 y3 x4 y4 x5 y5 x6 y6
  go_wp2_with fail
  clear x2 y2 x3 y3 x4 y4 x5 y5 x6 y6
  refine (eqNotes_same A3 B3 n3 c3 d3 s.notes _ (hr.notes.now hb2) (hr'.notes.now hb2) l3).mono ?_
  rintro e W3 ⟨rfl, hc2⟩
  have hb3 : Below w.heap.size w W3 := hb2.trans (hc2.mono hb2.size)
  have hx3 := hx2.below hc2
  have hy3 := hy2.below hc2
  clear hx2 hy2 hc2 hb2
  go_wp2
  go_ret
  exact ⟨rfl, hb3⟩

end Go.Proofs.YtpbkkjiikhjanaaDoor

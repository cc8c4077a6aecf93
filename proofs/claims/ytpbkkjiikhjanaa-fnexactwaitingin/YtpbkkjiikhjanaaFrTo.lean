/-
  The laws' copying of frames.
-/
import Derived.Test.YtpbkkjiikhjanaaFrM
namespace Go.Proofs.Ytpbkkjiikhjanaa
open Go.RowKit Exs


set_option maxHeartbeats 2000000 in
set_option maxRecDepth 100000 in
theorem toFr_any (s : Fr) (A1 : Option Addr) (n1 c1 : Nat) (A2 : Option Addr) (n2 c2 : Nat) (A3 : Option Addr) (n3 c3 : Nat) (w : World) (hr : IsFr w w.heap.size s A1 n1 A2 n2 A3 n3) (hs : SmallFr s) :
    Calls Try.prog 28 #[frV s A1 n1 c1 A2 n2 c2 A3 n3 c3] w fun e w' => ∃ B1 B2 B3, e = .returned (frV s B1 n1 n1 B2 n2 n2 B3 n3 n3) ∧ MFr w' w.heap.size s B1 n1 B2 n2 B3 n3 ∧ Below w.heap.size w w' := by
  obtain ⟨l1, l2, l3⟩ := hs
  rw [hr.pile.1] at l1
  rw [hr.vars.1] at l2
  rw [hr.flags.1] at l3
  unfold frV
  go_enter Try.func28, Try.ntmps28
  go_wp2_with fail
  have hb0 : Below w.heap.size w (((w.alloc (.cells #[.int .i64 s.ide, .int .i64 s.fn, .int .i64 s.pla, .slice A1 n1 c1, .slice A2 n2 c2, .slice A3 n3 c3, .int .i64 s.result, .int .i64 s.mode, .int .i64 s.value, .int .i64 s.base, .bool s.off] 58)).alloc (.cells #[.int .i64 0, .int .i64 0, .int .i64 0, .slice none 0 0, .slice none 0 0, .slice none 0 0, .int .i64 0, .int .i64 0, .int .i64 0, .int .i64 0, .bool false] 46)).alloc (.cells #[.int .i64 s.ide, .int .i64 s.fn, .int .i64 s.pla, .slice none 0 0, .slice none 0 0, .slice none 0 0, .int .i64 0, .int .i64 0, .int .i64 0, .int .i64 0, .bool false] 46)) :=
    (((Below.refl _ _).alloc (Nat.le_refl _) _).alloc (by simp) _).alloc (by simp; omega) _
  have hx0 : Keep (((w.alloc (.cells #[.int .i64 s.ide, .int .i64 s.fn, .int .i64 s.pla, .slice A1 n1 c1, .slice A2 n2 c2, .slice A3 n3 c3, .int .i64 s.result, .int .i64 s.mode, .int .i64 s.value, .int .i64 s.base, .bool s.off] 58)).alloc (.cells #[.int .i64 0, .int .i64 0, .int .i64 0, .slice none 0 0, .slice none 0 0, .slice none 0 0, .int .i64 0, .int .i64 0, .int .i64 0, .int .i64 0, .bool false] 46)).alloc (.cells #[.int .i64 s.ide, .int .i64 s.fn, .int .i64 s.pla, .slice none 0 0, .slice none 0 0, .slice none 0 0, .int .i64 0, .int .i64 0, .int .i64 0, .int .i64 0, .bool false] 46)) w.heap.size #[.int .i64 s.ide, .int .i64 s.fn, .int .i64 s.pla, .slice A1 n1 c1, .slice A2 n2 c2, .slice A3 n3 c3, .int .i64 s.result, .int .i64 s.mode, .int .i64 s.value, .int .i64 s.base, .bool s.off] 58 := ((Keep.new _ _ _).alloc _).alloc _
  have hy0 : Keep (((w.alloc (.cells #[.int .i64 s.ide, .int .i64 s.fn, .int .i64 s.pla, .slice A1 n1 c1, .slice A2 n2 c2, .slice A3 n3 c3, .int .i64 s.result, .int .i64 s.mode, .int .i64 s.value, .int .i64 s.base, .bool s.off] 58)).alloc (.cells #[.int .i64 0, .int .i64 0, .int .i64 0, .slice none 0 0, .slice none 0 0, .slice none 0 0, .int .i64 0, .int .i64 0, .int .i64 0, .int .i64 0, .bool false] 46)).alloc (.cells #[.int .i64 s.ide, .int .i64 s.fn, .int .i64 s.pla, .slice none 0 0, .slice none 0 0, .slice none 0 0, .int .i64 0, .int .i64 0, .int .i64 0, .int .i64 0, .bool false] 46)) (w.heap.size + 1) #[.int .i64 0, .int .i64 0, .int .i64 0, .slice none 0 0, .slice none 0 0, .slice none 0 0, .int .i64 0, .int .i64 0, .int .i64 0, .int .i64 0, .bool false] 46 := by
    have := Keep.new (w.alloc (.cells #[.int .i64 s.ide, .int .i64 s.fn, .int .i64 s.pla, .slice A1 n1 c1, .slice A2 n2 c2, .slice A3 n3 c3, .int .i64 s.result, .int .i64 s.mode, .int .i64 s.value, .int .i64 s.base, .bool s.off] 58)) #[.int .i64 0, .int .i64 0, .int .i64 0, .slice none 0 0, .slice none 0 0, .slice none 0 0, .int .i64 0, .int .i64 0, .int .i64 0, .int .i64 0, .bool false] 46
    rw [World.size_alloc] at this
    exact this.alloc _
  have hz0 : Keep (((w.alloc (.cells #[.int .i64 s.ide, .int .i64 s.fn, .int .i64 s.pla, .slice A1 n1 c1, .slice A2 n2 c2, .slice A3 n3 c3, .int .i64 s.result, .int .i64 s.mode, .int .i64 s.value, .int .i64 s.base, .bool s.off] 58)).alloc (.cells #[.int .i64 0, .int .i64 0, .int .i64 0, .slice none 0 0, .slice none 0 0, .slice none 0 0, .int .i64 0, .int .i64 0, .int .i64 0, .int .i64 0, .bool false] 46)).alloc (.cells #[.int .i64 s.ide, .int .i64 s.fn, .int .i64 s.pla, .slice none 0 0, .slice none 0 0, .slice none 0 0, .int .i64 0, .int .i64 0, .int .i64 0, .int .i64 0, .bool false] 46)) (w.heap.size + 1 + 1) #[.int .i64 s.ide, .int .i64 s.fn, .int .i64 s.pla, .slice none 0 0, .slice none 0 0, .slice none 0 0, .int .i64 0, .int .i64 0, .int .i64 0, .int .i64 0, .bool false] 46 := by
    have := Keep.new ((w.alloc (.cells #[.int .i64 s.ide, .int .i64 s.fn, .int .i64 s.pla, .slice A1 n1 c1, .slice A2 n2 c2, .slice A3 n3 c3, .int .i64 s.result, .int .i64 s.mode, .int .i64 s.value, .int .i64 s.base, .bool s.off] 58)).alloc (.cells #[.int .i64 0, .int .i64 0, .int .i64 0, .slice none 0 0, .slice none 0 0, .slice none 0 0, .int .i64 0, .int .i64 0, .int .i64 0, .int .i64 0, .bool false] 46)) #[.int .i64 s.ide, .int .i64 s.fn, .int .i64 s.pla, .slice none 0 0, .slice none 0 0, .slice none 0 0, .int .i64 0, .int .i64 0, .int .i64 0, .int .i64 0, .bool false] 46
    rw [World.size_alloc, World.size_alloc] at this
    exact this
  generalize hW0 : ((w.alloc (.cells #[.int .i64 s.ide, .int .i64 s.fn, .int .i64 s.pla, .slice A1 n1 c1, .slice A2 n2 c2, .slice A3 n3 c3, .int .i64 s.result, .int .i64 s.mode, .int .i64 s.value, .int .i64 s.base, .bool s.off] 58)).alloc (.cells #[.int .i64 0, .int .i64 0, .int .i64 0, .slice none 0 0, .slice none 0 0, .slice none 0 0, .int .i64 0, .int .i64 0, .int .i64 0, .int .i64 0, .bool false] 46)).alloc (.cells #[.int .i64 s.ide, .int .i64 s.fn, .int .i64 s.pla, .slice none 0 0, .slice none 0 0, .slice none 0 0, .int .i64 0, .int .i64 0, .int .i64 0, .int .i64 0, .bool false] 46) = W0 at hb0 hx0 hy0 hz0 ⊢
  clear hW0
  refine (toInts_m A1 n1 c1 s.pile _ (hr.pile.now hb0) l1).mono ?_
  rintro e V0 ⟨B1, rfl, m1, hc0⟩
  have s0 := hb0.size
  have t0 := hc0.size
  have l0z := hz0.lt
  replace hx0 := hx0.below hc0
  replace hy0 := hy0.below hc0
  replace hz0 := hz0.below hc0
  replace hb0 : Below w.heap.size w V0 := hb0.trans (hc0.mono hb0.size)
  have u3 := hz0.cell 3
  have f3 := hz0.frozen 3
  have x4 := hx0.cell 4
  simp at u3 x4
  have hb1 := hb0
  have hx1 := hx0
  have hy1 := hy0
  have hz1 := hz0
  replace m1 := m1.same ((SameFrom.setCell (V0) (w.heap.size + 1 + 1) 3 (.slice B1 n1 n1)).mono (by omega))
  replace hx1 := hx1.other (g' := w.heap.size + 1 + 1) (by omega) 3 (.slice B1 n1 n1)
  replace hy1 := hy1.other (g' := w.heap.size + 1 + 1) (by omega) 3 (.slice B1 n1 n1)
  replace hz1 := hz1.set 3 (.slice B1 n1 n1)
  replace hb1 : Below w.heap.size w ((V0).setCell ⟨w.heap.size + 1 + 1, 3, none⟩ (.slice B1 n1 n1)) := hb1.setCell (by simp; omega) _
  clear hx0 hy0 hz0 hb0 hc0
  go_wp2_with fail
  generalize hW : (V0).setCell ⟨w.heap.size + 1 + 1, 3, none⟩ (.slice B1 n1 n1) = W1 at m1 hx1 hy1 hz1 hb1 ⊢
  clear hW u3 x4 f3
  refine (toInts_m A2 n2 c2 s.vars _ (hr.vars.now hb1) l2).mono ?_
  rintro e V1 ⟨B2, rfl, m2, hc1⟩
  have s1 := hb1.size
  have t1 := hc1.size
  have l1z := hz1.lt
  replace m1 := m1.same (SameFrom.of_below hc1)
  replace hx1 := hx1.below hc1
  replace hy1 := hy1.below hc1
  replace hz1 := hz1.below hc1
  replace hb1 : Below w.heap.size w V1 := hb1.trans (hc1.mono hb1.size)
  have u4 := hz1.cell 4
  have f4 := hz1.frozen 4
  have x5 := hx1.cell 5
  simp at u4 x5
  have hb2 := hb1
  have hx2 := hx1
  have hy2 := hy1
  have hz2 := hz1
  replace m1 := m1.same ((SameFrom.setCell (V1) (w.heap.size + 1 + 1) 4 (.slice B2 n2 n2)).mono (by omega))
  replace m2 := m2.same ((SameFrom.setCell (V1) (w.heap.size + 1 + 1) 4 (.slice B2 n2 n2)).mono (by omega))
  replace hx2 := hx2.other (g' := w.heap.size + 1 + 1) (by omega) 4 (.slice B2 n2 n2)
  replace hy2 := hy2.other (g' := w.heap.size + 1 + 1) (by omega) 4 (.slice B2 n2 n2)
  replace hz2 := hz2.set 4 (.slice B2 n2 n2)
  replace hb2 : Below w.heap.size w ((V1).setCell ⟨w.heap.size + 1 + 1, 4, none⟩ (.slice B2 n2 n2)) := hb2.setCell (by simp; omega) _
  clear hx1 hy1 hz1 hb1 hc1
  go_wp2_with fail
  generalize hW : (V1).setCell ⟨w.heap.size + 1 + 1, 4, none⟩ (.slice B2 n2 n2) = W2 at m1 m2 hx2 hy2 hz2 hb2 ⊢
  clear hW u4 x5 f4
  refine (toBools_m A3 n3 c3 s.flags _ (hr.flags.now hb2) l3).mono ?_
  rintro e V2 ⟨B3, rfl, m3, hc2⟩
  have s2 := hb2.size
  have t2 := hc2.size
  have l2z := hz2.lt
  replace m1 := m1.same (SameFrom.of_below hc2)
  replace m2 := m2.same (SameFrom.of_below hc2)
  replace hx2 := hx2.below hc2
  replace hy2 := hy2.below hc2
  replace hz2 := hz2.below hc2
  replace hb2 : Below w.heap.size w V2 := hb2.trans (hc2.mono hb2.size)
  have u5 := hz2.cell 5
  have f5 := hz2.frozen 5
  have u6 := hz2.cell 6
  have f6 := hz2.frozen 6
  have u7 := hz2.cell 7
  have f7 := hz2.frozen 7
  have u8 := hz2.cell 8
  have f8 := hz2.frozen 8
  have u9 := hz2.cell 9
  have f9 := hz2.frozen 9
  have u10 := hz2.cell 10
  have f10 := hz2.frozen 10
  have x6 := hx2.cell 6
  have x7 := hx2.cell 7
  have x8 := hx2.cell 8
  have x9 := hx2.cell 9
  have x10 := hx2.cell 10
  simp at u5 u6 u7 u8 u9 u10 x6 x7 x8 x9 x10
  have hb3 := hb2
  have hx3 := hx2
  have hy3 := hy2
  have hz3 := hz2
  replace m1 := m1.same ((SameFrom.setCell (V2) (w.heap.size + 1 + 1) 5 (.slice B3 n3 n3)).mono (by omega))
  replace m2 := m2.same ((SameFrom.setCell (V2) (w.heap.size + 1 + 1) 5 (.slice B3 n3 n3)).mono (by omega))
  replace m3 := m3.same ((SameFrom.setCell (V2) (w.heap.size + 1 + 1) 5 (.slice B3 n3 n3)).mono (by omega))
  replace hx3 := hx3.other (g' := w.heap.size + 1 + 1) (by omega) 5 (.slice B3 n3 n3)
  replace hy3 := hy3.other (g' := w.heap.size + 1 + 1) (by omega) 5 (.slice B3 n3 n3)
  replace hz3 := hz3.set 5 (.slice B3 n3 n3)
  replace hb3 : Below w.heap.size w ((V2).setCell ⟨w.heap.size + 1 + 1, 5, none⟩ (.slice B3 n3 n3)) := hb3.setCell (by simp; omega) _
  replace m1 := m1.same ((SameFrom.setCell ((V2).setCell ⟨w.heap.size + 1 + 1, 5, none⟩ (.slice B3 n3 n3)) (w.heap.size + 1 + 1) 6 (.int .i64 s.result)).mono (by omega))
  replace m2 := m2.same ((SameFrom.setCell ((V2).setCell ⟨w.heap.size + 1 + 1, 5, none⟩ (.slice B3 n3 n3)) (w.heap.size + 1 + 1) 6 (.int .i64 s.result)).mono (by omega))
  replace m3 := m3.same ((SameFrom.setCell ((V2).setCell ⟨w.heap.size + 1 + 1, 5, none⟩ (.slice B3 n3 n3)) (w.heap.size + 1 + 1) 6 (.int .i64 s.result)).mono (by omega))
  replace hx3 := hx3.other (g' := w.heap.size + 1 + 1) (by omega) 6 (.int .i64 s.result)
  replace hy3 := hy3.other (g' := w.heap.size + 1 + 1) (by omega) 6 (.int .i64 s.result)
  replace hz3 := hz3.set 6 (.int .i64 s.result)
  replace hb3 : Below w.heap.size w (((V2).setCell ⟨w.heap.size + 1 + 1, 5, none⟩ (.slice B3 n3 n3)).setCell ⟨w.heap.size + 1 + 1, 6, none⟩ (.int .i64 s.result)) := hb3.setCell (by simp; omega) _
  replace m1 := m1.same ((SameFrom.setCell (((V2).setCell ⟨w.heap.size + 1 + 1, 5, none⟩ (.slice B3 n3 n3)).setCell ⟨w.heap.size + 1 + 1, 6, none⟩ (.int .i64 s.result)) (w.heap.size + 1 + 1) 7 (.int .i64 s.mode)).mono (by omega))
  replace m2 := m2.same ((SameFrom.setCell (((V2).setCell ⟨w.heap.size + 1 + 1, 5, none⟩ (.slice B3 n3 n3)).setCell ⟨w.heap.size + 1 + 1, 6, none⟩ (.int .i64 s.result)) (w.heap.size + 1 + 1) 7 (.int .i64 s.mode)).mono (by omega))
  replace m3 := m3.same ((SameFrom.setCell (((V2).setCell ⟨w.heap.size + 1 + 1, 5, none⟩ (.slice B3 n3 n3)).setCell ⟨w.heap.size + 1 + 1, 6, none⟩ (.int .i64 s.result)) (w.heap.size + 1 + 1) 7 (.int .i64 s.mode)).mono (by omega))
  replace hx3 := hx3.other (g' := w.heap.size + 1 + 1) (by omega) 7 (.int .i64 s.mode)
  replace hy3 := hy3.other (g' := w.heap.size + 1 + 1) (by omega) 7 (.int .i64 s.mode)
  replace hz3 := hz3.set 7 (.int .i64 s.mode)
  replace hb3 : Below w.heap.size w ((((V2).setCell ⟨w.heap.size + 1 + 1, 5, none⟩ (.slice B3 n3 n3)).setCell ⟨w.heap.size + 1 + 1, 6, none⟩ (.int .i64 s.result)).setCell ⟨w.heap.size + 1 + 1, 7, none⟩ (.int .i64 s.mode)) := hb3.setCell (by simp; omega) _
  replace m1 := m1.same ((SameFrom.setCell ((((V2).setCell ⟨w.heap.size + 1 + 1, 5, none⟩ (.slice B3 n3 n3)).setCell ⟨w.heap.size + 1 + 1, 6, none⟩ (.int .i64 s.result)).setCell ⟨w.heap.size + 1 + 1, 7, none⟩ (.int .i64 s.mode)) (w.heap.size + 1 + 1) 8 (.int .i64 s.value)).mono (by omega))
  replace m2 := m2.same ((SameFrom.setCell ((((V2).setCell ⟨w.heap.size + 1 + 1, 5, none⟩ (.slice B3 n3 n3)).setCell ⟨w.heap.size + 1 + 1, 6, none⟩ (.int .i64 s.result)).setCell ⟨w.heap.size + 1 + 1, 7, none⟩ (.int .i64 s.mode)) (w.heap.size + 1 + 1) 8 (.int .i64 s.value)).mono (by omega))
  replace m3 := m3.same ((SameFrom.setCell ((((V2).setCell ⟨w.heap.size + 1 + 1, 5, none⟩ (.slice B3 n3 n3)).setCell ⟨w.heap.size + 1 + 1, 6, none⟩ (.int .i64 s.result)).setCell ⟨w.heap.size + 1 + 1, 7, none⟩ (.int .i64 s.mode)) (w.heap.size + 1 + 1) 8 (.int .i64 s.value)).mono (by omega))
  replace hx3 := hx3.other (g' := w.heap.size + 1 + 1) (by omega) 8 (.int .i64 s.value)
  replace hy3 := hy3.other (g' := w.heap.size + 1 + 1) (by omega) 8 (.int .i64 s.value)
  replace hz3 := hz3.set 8 (.int .i64 s.value)
  replace hb3 : Below w.heap.size w (((((V2).setCell ⟨w.heap.size + 1 + 1, 5, none⟩ (.slice B3 n3 n3)).setCell ⟨w.heap.size + 1 + 1, 6, none⟩ (.int .i64 s.result)).setCell ⟨w.heap.size + 1 + 1, 7, none⟩ (.int .i64 s.mode)).setCell ⟨w.heap.size + 1 + 1, 8, none⟩ (.int .i64 s.value)) := hb3.setCell (by simp; omega) _
  replace m1 := m1.same ((SameFrom.setCell (((((V2).setCell ⟨w.heap.size + 1 + 1, 5, none⟩ (.slice B3 n3 n3)).setCell ⟨w.heap.size + 1 + 1, 6, none⟩ (.int .i64 s.result)).setCell ⟨w.heap.size + 1 + 1, 7, none⟩ (.int .i64 s.mode)).setCell ⟨w.heap.size + 1 + 1, 8, none⟩ (.int .i64 s.value)) (w.heap.size + 1 + 1) 9 (.int .i64 s.base)).mono (by omega))
  replace m2 := m2.same ((SameFrom.setCell (((((V2).setCell ⟨w.heap.size + 1 + 1, 5, none⟩ (.slice B3 n3 n3)).setCell ⟨w.heap.size + 1 + 1, 6, none⟩ (.int .i64 s.result)).setCell ⟨w.heap.size + 1 + 1, 7, none⟩ (.int .i64 s.mode)).setCell ⟨w.heap.size + 1 + 1, 8, none⟩ (.int .i64 s.value)) (w.heap.size + 1 + 1) 9 (.int .i64 s.base)).mono (by omega))
  replace m3 := m3.same ((SameFrom.setCell (((((V2).setCell ⟨w.heap.size + 1 + 1, 5, none⟩ (.slice B3 n3 n3)).setCell ⟨w.heap.size + 1 + 1, 6, none⟩ (.int .i64 s.result)).setCell ⟨w.heap.size + 1 + 1, 7, none⟩ (.int .i64 s.mode)).setCell ⟨w.heap.size + 1 + 1, 8, none⟩ (.int .i64 s.value)) (w.heap.size + 1 + 1) 9 (.int .i64 s.base)).mono (by omega))
  replace hx3 := hx3.other (g' := w.heap.size + 1 + 1) (by omega) 9 (.int .i64 s.base)
  replace hy3 := hy3.other (g' := w.heap.size + 1 + 1) (by omega) 9 (.int .i64 s.base)
  replace hz3 := hz3.set 9 (.int .i64 s.base)
  replace hb3 : Below w.heap.size w ((((((V2).setCell ⟨w.heap.size + 1 + 1, 5, none⟩ (.slice B3 n3 n3)).setCell ⟨w.heap.size + 1 + 1, 6, none⟩ (.int .i64 s.result)).setCell ⟨w.heap.size + 1 + 1, 7, none⟩ (.int .i64 s.mode)).setCell ⟨w.heap.size + 1 + 1, 8, none⟩ (.int .i64 s.value)).setCell ⟨w.heap.size + 1 + 1, 9, none⟩ (.int .i64 s.base)) := hb3.setCell (by simp; omega) _
  replace m1 := m1.same ((SameFrom.setCell ((((((V2).setCell ⟨w.heap.size + 1 + 1, 5, none⟩ (.slice B3 n3 n3)).setCell ⟨w.heap.size + 1 + 1, 6, none⟩ (.int .i64 s.result)).setCell ⟨w.heap.size + 1 + 1, 7, none⟩ (.int .i64 s.mode)).setCell ⟨w.heap.size + 1 + 1, 8, none⟩ (.int .i64 s.value)).setCell ⟨w.heap.size + 1 + 1, 9, none⟩ (.int .i64 s.base)) (w.heap.size + 1 + 1) 10 (.bool s.off)).mono (by omega))
  replace m2 := m2.same ((SameFrom.setCell ((((((V2).setCell ⟨w.heap.size + 1 + 1, 5, none⟩ (.slice B3 n3 n3)).setCell ⟨w.heap.size + 1 + 1, 6, none⟩ (.int .i64 s.result)).setCell ⟨w.heap.size + 1 + 1, 7, none⟩ (.int .i64 s.mode)).setCell ⟨w.heap.size + 1 + 1, 8, none⟩ (.int .i64 s.value)).setCell ⟨w.heap.size + 1 + 1, 9, none⟩ (.int .i64 s.base)) (w.heap.size + 1 + 1) 10 (.bool s.off)).mono (by omega))
  replace m3 := m3.same ((SameFrom.setCell ((((((V2).setCell ⟨w.heap.size + 1 + 1, 5, none⟩ (.slice B3 n3 n3)).setCell ⟨w.heap.size + 1 + 1, 6, none⟩ (.int .i64 s.result)).setCell ⟨w.heap.size + 1 + 1, 7, none⟩ (.int .i64 s.mode)).setCell ⟨w.heap.size + 1 + 1, 8, none⟩ (.int .i64 s.value)).setCell ⟨w.heap.size + 1 + 1, 9, none⟩ (.int .i64 s.base)) (w.heap.size + 1 + 1) 10 (.bool s.off)).mono (by omega))
  replace hx3 := hx3.other (g' := w.heap.size + 1 + 1) (by omega) 10 (.bool s.off)
  replace hy3 := hy3.other (g' := w.heap.size + 1 + 1) (by omega) 10 (.bool s.off)
  replace hz3 := hz3.set 10 (.bool s.off)
  replace hb3 : Below w.heap.size w (((((((V2).setCell ⟨w.heap.size + 1 + 1, 5, none⟩ (.slice B3 n3 n3)).setCell ⟨w.heap.size + 1 + 1, 6, none⟩ (.int .i64 s.result)).setCell ⟨w.heap.size + 1 + 1, 7, none⟩ (.int .i64 s.mode)).setCell ⟨w.heap.size + 1 + 1, 8, none⟩ (.int .i64 s.value)).setCell ⟨w.heap.size + 1 + 1, 9, none⟩ (.int .i64 s.base)).setCell ⟨w.heap.size + 1 + 1, 10, none⟩ (.bool s.off)) := hb3.setCell (by simp; omega) _
  have z0 := hz2.cell 0
  have z1 := hz2.cell 1
  have z2 := hz2.cell 2
  have z3 := hz2.cell 3
  have z4 := hz2.cell 4
  have y0 := hy2.cell 0
  have g0 := hy2.frozen 0
  have y1 := hy2.cell 1
  have g1 := hy2.frozen 1
  have y2 := hy2.cell 2
  have g2 := hy2.frozen 2
  have y3 := hy2.cell 3
  have g3 := hy2.frozen 3
  have y4 := hy2.cell 4
  have g4 := hy2.frozen 4
  have y5 := hy2.cell 5
  have g5 := hy2.frozen 5
  have y6 := hy2.cell 6
  have g6 := hy2.frozen 6
  have y7 := hy2.cell 7
  have g7 := hy2.frozen 7
  have y8 := hy2.cell 8
  have g8 := hy2.frozen 8
  have y9 := hy2.cell 9
  have g9 := hy2.frozen 9
  have y10 := hy2.cell 10
  have g10 := hy2.frozen 10
  simp at z0 z1 z2 z3 z4 y0 y1 y2 y3 y4 y5 y6 y7 y8 y9 y10
  clear hx2 hy2 hz2 hb2 hc2 hx3
  go_wp2
  replace m1 := m1.same ((SameFrom.setCell _ (w.heap.size + 1) 0 (.int .i64 s.ide)).mono (by omega))
  replace m1 := m1.same ((SameFrom.setCell _ (w.heap.size + 1) 1 (.int .i64 s.fn)).mono (by omega))
  replace m1 := m1.same ((SameFrom.setCell _ (w.heap.size + 1) 2 (.int .i64 s.pla)).mono (by omega))
  replace m1 := m1.same ((SameFrom.setCell _ (w.heap.size + 1) 3 (.slice B1 n1 n1)).mono (by omega))
  replace m1 := m1.same ((SameFrom.setCell _ (w.heap.size + 1) 4 (.slice B2 n2 n2)).mono (by omega))
  replace m1 := m1.same ((SameFrom.setCell _ (w.heap.size + 1) 5 (.slice B3 n3 n3)).mono (by omega))
  replace m1 := m1.same ((SameFrom.setCell _ (w.heap.size + 1) 6 (.int .i64 s.result)).mono (by omega))
  replace m1 := m1.same ((SameFrom.setCell _ (w.heap.size + 1) 7 (.int .i64 s.mode)).mono (by omega))
  replace m1 := m1.same ((SameFrom.setCell _ (w.heap.size + 1) 8 (.int .i64 s.value)).mono (by omega))
  replace m1 := m1.same ((SameFrom.setCell _ (w.heap.size + 1) 9 (.int .i64 s.base)).mono (by omega))
  replace m1 := m1.same ((SameFrom.setCell _ (w.heap.size + 1) 10 (.bool s.off)).mono (by omega))
  replace m2 := m2.same ((SameFrom.setCell _ (w.heap.size + 1) 0 (.int .i64 s.ide)).mono (by omega))
  replace m2 := m2.same ((SameFrom.setCell _ (w.heap.size + 1) 1 (.int .i64 s.fn)).mono (by omega))
  replace m2 := m2.same ((SameFrom.setCell _ (w.heap.size + 1) 2 (.int .i64 s.pla)).mono (by omega))
  replace m2 := m2.same ((SameFrom.setCell _ (w.heap.size + 1) 3 (.slice B1 n1 n1)).mono (by omega))
  replace m2 := m2.same ((SameFrom.setCell _ (w.heap.size + 1) 4 (.slice B2 n2 n2)).mono (by omega))
  replace m2 := m2.same ((SameFrom.setCell _ (w.heap.size + 1) 5 (.slice B3 n3 n3)).mono (by omega))
  replace m2 := m2.same ((SameFrom.setCell _ (w.heap.size + 1) 6 (.int .i64 s.result)).mono (by omega))
  replace m2 := m2.same ((SameFrom.setCell _ (w.heap.size + 1) 7 (.int .i64 s.mode)).mono (by omega))
  replace m2 := m2.same ((SameFrom.setCell _ (w.heap.size + 1) 8 (.int .i64 s.value)).mono (by omega))
  replace m2 := m2.same ((SameFrom.setCell _ (w.heap.size + 1) 9 (.int .i64 s.base)).mono (by omega))
  replace m2 := m2.same ((SameFrom.setCell _ (w.heap.size + 1) 10 (.bool s.off)).mono (by omega))
  replace m3 := m3.same ((SameFrom.setCell _ (w.heap.size + 1) 0 (.int .i64 s.ide)).mono (by omega))
  replace m3 := m3.same ((SameFrom.setCell _ (w.heap.size + 1) 1 (.int .i64 s.fn)).mono (by omega))
  replace m3 := m3.same ((SameFrom.setCell _ (w.heap.size + 1) 2 (.int .i64 s.pla)).mono (by omega))
  replace m3 := m3.same ((SameFrom.setCell _ (w.heap.size + 1) 3 (.slice B1 n1 n1)).mono (by omega))
  replace m3 := m3.same ((SameFrom.setCell _ (w.heap.size + 1) 4 (.slice B2 n2 n2)).mono (by omega))
  replace m3 := m3.same ((SameFrom.setCell _ (w.heap.size + 1) 5 (.slice B3 n3 n3)).mono (by omega))
  replace m3 := m3.same ((SameFrom.setCell _ (w.heap.size + 1) 6 (.int .i64 s.result)).mono (by omega))
  replace m3 := m3.same ((SameFrom.setCell _ (w.heap.size + 1) 7 (.int .i64 s.mode)).mono (by omega))
  replace m3 := m3.same ((SameFrom.setCell _ (w.heap.size + 1) 8 (.int .i64 s.value)).mono (by omega))
  replace m3 := m3.same ((SameFrom.setCell _ (w.heap.size + 1) 9 (.int .i64 s.base)).mono (by omega))
  replace m3 := m3.same ((SameFrom.setCell _ (w.heap.size + 1) 10 (.bool s.off)).mono (by omega))
  have hyF := (((((((((((hy3.set 0 (.int .i64 s.ide)).set 1 (.int .i64 s.fn)).set 2 (.int .i64 s.pla)).set 3 (.slice B1 n1 n1)).set 4 (.slice B2 n2 n2)).set 5 (.slice B3 n3 n3)).set 6 (.int .i64 s.result)).set 7 (.int .i64 s.mode)).set 8 (.int .i64 s.value)).set 9 (.int .i64 s.base)).set 10 (.bool s.off))
  have r0 := hyF.cell 0
  have r1 := hyF.cell 1
  have r2 := hyF.cell 2
  have r3 := hyF.cell 3
  have r4 := hyF.cell 4
  have r5 := hyF.cell 5
  have r6 := hyF.cell 6
  have r7 := hyF.cell 7
  have r8 := hyF.cell 8
  have r9 := hyF.cell 9
  have r10 := hyF.cell 10
  simp at r0 r1 r2 r3 r4 r5 r6 r7 r8 r9 r10
  have hbF := (((((((((((hb3.setCell (p := ⟨w.heap.size + 1, 0, none⟩) (Nat.le_succ _) (.int .i64 s.ide)).setCell (p := ⟨w.heap.size + 1, 1, none⟩) (Nat.le_succ _) (.int .i64 s.fn)).setCell (p := ⟨w.heap.size + 1, 2, none⟩) (Nat.le_succ _) (.int .i64 s.pla)).setCell (p := ⟨w.heap.size + 1, 3, none⟩) (Nat.le_succ _) (.slice B1 n1 n1)).setCell (p := ⟨w.heap.size + 1, 4, none⟩) (Nat.le_succ _) (.slice B2 n2 n2)).setCell (p := ⟨w.heap.size + 1, 5, none⟩) (Nat.le_succ _) (.slice B3 n3 n3)).setCell (p := ⟨w.heap.size + 1, 6, none⟩) (Nat.le_succ _) (.int .i64 s.result)).setCell (p := ⟨w.heap.size + 1, 7, none⟩) (Nat.le_succ _) (.int .i64 s.mode)).setCell (p := ⟨w.heap.size + 1, 8, none⟩) (Nat.le_succ _) (.int .i64 s.value)).setCell (p := ⟨w.heap.size + 1, 9, none⟩) (Nat.le_succ _) (.int .i64 s.base)).setCell (p := ⟨w.heap.size + 1, 10, none⟩) (Nat.le_succ _) (.bool s.off))
  clear hyF u5 u6 u7 u8 u9 u10 x6 x7 x8 x9 x10 f5 f6 f7 f8 f9 f10 z0 z1 z2 z3 z4 y0 g0 y1 g1 y2 g2 y3 g3 y4 g4 y5 g5 y6 g6 y7 g7 y8 g8 y9 g9 y10 g10
  exact bodyPost_ret (v := .agg #[.int .i64 s.ide, .int .i64 s.fn, .int .i64 s.pla, .slice B1 n1 n1, .slice B2 n2 n2, .slice B3 n3 n3, .int .i64 s.result, .int .i64 s.mode, .int .i64 s.value, .int .i64 s.base, .bool s.off]) (by simp [results, Try.results28, go_sem, r0, r1, r2, r3, r4, r5, r6, r7, r8, r9, r10]) rfl ⟨B1, B2, B3, rfl, ⟨m1.from (by omega), m2.from (by omega), m3.from (by omega)⟩, hbF⟩

end Go.Proofs.Ytpbkkjiikhjanaa

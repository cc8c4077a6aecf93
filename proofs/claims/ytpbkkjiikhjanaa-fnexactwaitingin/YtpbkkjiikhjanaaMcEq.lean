/-
  The laws' comparing of machines.
-/
import Derived.Test.YtpbkkjiikhjanaaMcM
import Derived.Test.YtpbkkjiikhjanaaFrEq
namespace Go.Proofs.Ytpbkkjiikhjanaa
open Go.RowKit Exs


set_option maxHeartbeats 2000000 in
set_option maxRecDepth 100000 in
theorem eqMc_same (s : Mc) (A1 : Option Addr) (n1 c1 : Nat) (A2 : Option Addr) (n2 c2 : Nat) (A3 : Option Addr) (n3 c3 : Nat) (B1 : Option Addr) (d1 : Nat) (B2 : Option Addr) (d2 : Nat) (B3 : Option Addr) (d3 : Nat) (w : World) (hr : IsMc w w.heap.size s A1 n1 A2 n2 A3 n3) (hr' : IsMc w w.heap.size s B1 n1 B2 n2 B3 n3) (hs : SmallMc s) :
    Calls Try.prog 9 #[mcV s A1 n1 c1 A2 n2 c2 A3 n3 c3, mcV s B1 n1 d1 B2 n2 d2 B3 n3 d3] w fun e w' => e = .returned (.bool true) ∧ Below w.heap.size w w' := by
  obtain ⟨l1, q1, l2, l3⟩ := hs
  rw [hr.frames.1] at l1
  rw [hr.trace.1] at l2
  rw [hr.notes.1] at l3
  unfold mcV
  go_enter Try.func9, Try.ntmps9
  go_wp2_with fail
  have hb0 : Below w.heap.size w ((w.alloc (.cells #[.slice A1 n1 c1, .slice A2 n2 c2, .int .i64 s.used, .int .i64 s.code, .int .i64 s.value, .int .i64 s.made, .slice A3 n3 c3] 33)).alloc (.cells #[.slice B1 n1 d1, .slice B2 n2 d2, .int .i64 s.used, .int .i64 s.code, .int .i64 s.value, .int .i64 s.made, .slice B3 n3 d3] 33)) := ((Below.refl _ _).alloc (Nat.le_refl _) _).alloc (by simp) _
  have hx0 : Keep ((w.alloc (.cells #[.slice A1 n1 c1, .slice A2 n2 c2, .int .i64 s.used, .int .i64 s.code, .int .i64 s.value, .int .i64 s.made, .slice A3 n3 c3] 33)).alloc (.cells #[.slice B1 n1 d1, .slice B2 n2 d2, .int .i64 s.used, .int .i64 s.code, .int .i64 s.value, .int .i64 s.made, .slice B3 n3 d3] 33)) w.heap.size #[.slice A1 n1 c1, .slice A2 n2 c2, .int .i64 s.used, .int .i64 s.code, .int .i64 s.value, .int .i64 s.made, .slice A3 n3 c3] 33 := (Keep.new _ _ _).alloc _
  have hy0 : Keep ((w.alloc (.cells #[.slice A1 n1 c1, .slice A2 n2 c2, .int .i64 s.used, .int .i64 s.code, .int .i64 s.value, .int .i64 s.made, .slice A3 n3 c3] 33)).alloc (.cells #[.slice B1 n1 d1, .slice B2 n2 d2, .int .i64 s.used, .int .i64 s.code, .int .i64 s.value, .int .i64 s.made, .slice B3 n3 d3] 33)) (w.heap.size + 1) #[.slice B1 n1 d1, .slice B2 n2 d2, .int .i64 s.used, .int .i64 s.code, .int .i64 s.value, .int .i64 s.made, .slice B3 n3 d3] 33 := by
    have := Keep.new (w.alloc (.cells #[.slice A1 n1 c1, .slice A2 n2 c2, .int .i64 s.used, .int .i64 s.code, .int .i64 s.value, .int .i64 s.made, .slice A3 n3 c3] 33)) #[.slice B1 n1 d1, .slice B2 n2 d2, .int .i64 s.used, .int .i64 s.code, .int .i64 s.value, .int .i64 s.made, .slice B3 n3 d3] 33
    rw [World.size_alloc] at this
    exact this
  generalize hW0 : (w.alloc (.cells #[.slice A1 n1 c1, .slice A2 n2 c2, .int .i64 s.used, .int .i64 s.code, .int .i64 s.value, .int .i64 s.made, .slice A3 n3 c3] 33)).alloc (.cells #[.slice B1 n1 d1, .slice B2 n2 d2, .int .i64 s.used, .int .i64 s.code, .int .i64 s.value, .int .i64 s.made, .slice B3 n3 d3] 33) = W0 at hb0 hx0 hy0 ⊢
  clear hW0
  refine (eqFrs_same A1 B1 n1 c1 d1 s.frames _ (hr.frames.now hb0) (hr'.frames.now hb0) l1 q1).mono ?_
  rintro e W1 ⟨rfl, hc0⟩
  have hb1 : Below w.heap.size w W1 := hb0.trans (hc0.mono hb0.size)
  have hx1 := hx0.below hc0
  have hy1 := hy0.below hc0
  clear hx0 hy0 hc0 hb0
  have x1 := hx1.cell 1
  have y1 := hy1.cell 1
  simp at x1 y1
  go_wp2_with fail
  clear x1 y1
  refine (eqInts_below A2 B2 n2 c2 d2 s.trace _ (hr.trace.now hb1) (hr'.trace.now hb1) l2).mono ?_
  rintro e W2 ⟨rfl, hc1⟩
  have hb2 : Below w.heap.size w W2 := hb1.trans (hc1.mono hb1.size)
  have hx2 := hx1.below hc1
  have hy2 := hy1.below hc1
  clear hx1 hy1 hc1 hb1
  have x2 := hx2.cell 2
  have y2 := hy2.cell 2
  have x3 := hx2.cell 3
  have y3 := hy2.cell 3
  have x4 := hx2.cell 4
  have y4 := hy2.cell 4
  have x5 := hx2.cell 5
  have y5 := hy2.cell 5
  have x6 := hx2.cell 6
  have y6 := hy2.cell 6
  simp at x2 y2 x3 y3 x4 y4 x5 y5 x6 y6
  go_wp2_with fail
  clear x2 y2 x3 y3 x4 y4 x5 y5 x6 y6
  refine (eqRows_same A3 B3 n3 c3 d3 s.notes _ (hr.notes.now hb2) (hr'.notes.now hb2) l3).mono ?_
  rintro e W3 ⟨rfl, hc2⟩
  have hb3 : Below w.heap.size w W3 := hb2.trans (hc2.mono hb2.size)
  have hx3 := hx2.below hc2
  have hy3 := hy2.below hc2
  clear hx2 hy2 hc2 hb2
  go_wp2
  go_ret
  exact ⟨rfl, hb3⟩

end Go.Proofs.Ytpbkkjiikhjanaa

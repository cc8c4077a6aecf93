/-
  The laws' comparing of frames.
-/
import Derived.Test.YtpbkkjiikhjanaaFrM
namespace Go.Proofs.Ytpbkkjiikhjanaa
open Go.RowKit Exs


set_option maxHeartbeats 2000000 in
set_option maxRecDepth 100000 in
theorem eqFr_same (s : Fr) (A1 : Option Addr) (n1 c1 : Nat) (A2 : Option Addr) (n2 c2 : Nat) (A3 : Option Addr) (n3 c3 : Nat) (B1 : Option Addr) (d1 : Nat) (B2 : Option Addr) (d2 : Nat) (B3 : Option Addr) (d3 : Nat) (w : World) (hr : IsFr w w.heap.size s A1 n1 A2 n2 A3 n3) (hr' : IsFr w w.heap.size s B1 n1 B2 n2 B3 n3) (hs : SmallFr s) :
    Calls Try.prog 31 #[frV s A1 n1 c1 A2 n2 c2 A3 n3 c3, frV s B1 n1 d1 B2 n2 d2 B3 n3 d3] w fun e w' => e = .returned (.bool true) ∧ Below w.heap.size w w' := by
  obtain ⟨l1, l2, l3⟩ := hs
  rw [hr.pile.1] at l1
  rw [hr.vars.1] at l2
  rw [hr.flags.1] at l3
  unfold frV
  go_enter Try.func31, Try.ntmps31
  go_wp2_with fail
  have hb0 : Below w.heap.size w ((w.alloc (.cells #[.int .i64 s.ide, .int .i64 s.fn, .int .i64 s.pla, .slice A1 n1 c1, .slice A2 n2 c2, .slice A3 n3 c3, .int .i64 s.result, .int .i64 s.mode, .int .i64 s.value, .int .i64 s.base, .bool s.off] 46)).alloc (.cells #[.int .i64 s.ide, .int .i64 s.fn, .int .i64 s.pla, .slice B1 n1 d1, .slice B2 n2 d2, .slice B3 n3 d3, .int .i64 s.result, .int .i64 s.mode, .int .i64 s.value, .int .i64 s.base, .bool s.off] 46)) := ((Below.refl _ _).alloc (Nat.le_refl _) _).alloc (by simp) _
  have hx0 : Keep ((w.alloc (.cells #[.int .i64 s.ide, .int .i64 s.fn, .int .i64 s.pla, .slice A1 n1 c1, .slice A2 n2 c2, .slice A3 n3 c3, .int .i64 s.result, .int .i64 s.mode, .int .i64 s.value, .int .i64 s.base, .bool s.off] 46)).alloc (.cells #[.int .i64 s.ide, .int .i64 s.fn, .int .i64 s.pla, .slice B1 n1 d1, .slice B2 n2 d2, .slice B3 n3 d3, .int .i64 s.result, .int .i64 s.mode, .int .i64 s.value, .int .i64 s.base, .bool s.off] 46)) w.heap.size #[.int .i64 s.ide, .int .i64 s.fn, .int .i64 s.pla, .slice A1 n1 c1, .slice A2 n2 c2, .slice A3 n3 c3, .int .i64 s.result, .int .i64 s.mode, .int .i64 s.value, .int .i64 s.base, .bool s.off] 46 := (Keep.new _ _ _).alloc _
  have hy0 : Keep ((w.alloc (.cells #[.int .i64 s.ide, .int .i64 s.fn, .int .i64 s.pla, .slice A1 n1 c1, .slice A2 n2 c2, .slice A3 n3 c3, .int .i64 s.result, .int .i64 s.mode, .int .i64 s.value, .int .i64 s.base, .bool s.off] 46)).alloc (.cells #[.int .i64 s.ide, .int .i64 s.fn, .int .i64 s.pla, .slice B1 n1 d1, .slice B2 n2 d2, .slice B3 n3 d3, .int .i64 s.result, .int .i64 s.mode, .int .i64 s.value, .int .i64 s.base, .bool s.off] 46)) (w.heap.size + 1) #[.int .i64 s.ide, .int .i64 s.fn, .int .i64 s.pla, .slice B1 n1 d1, .slice B2 n2 d2, .slice B3 n3 d3, .int .i64 s.result, .int .i64 s.mode, .int .i64 s.value, .int .i64 s.base, .bool s.off] 46 := by
    have := Keep.new (w.alloc (.cells #[.int .i64 s.ide, .int .i64 s.fn, .int .i64 s.pla, .slice A1 n1 c1, .slice A2 n2 c2, .slice A3 n3 c3, .int .i64 s.result, .int .i64 s.mode, .int .i64 s.value, .int .i64 s.base, .bool s.off] 46)) #[.int .i64 s.ide, .int .i64 s.fn, .int .i64 s.pla, .slice B1 n1 d1, .slice B2 n2 d2, .slice B3 n3 d3, .int .i64 s.result, .int .i64 s.mode, .int .i64 s.value, .int .i64 s.base, .bool s.off] 46
    rw [World.size_alloc] at this
    exact this
  generalize hW0 : (w.alloc (.cells #[.int .i64 s.ide, .int .i64 s.fn, .int .i64 s.pla, .slice A1 n1 c1, .slice A2 n2 c2, .slice A3 n3 c3, .int .i64 s.result, .int .i64 s.mode, .int .i64 s.value, .int .i64 s.base, .bool s.off] 46)).alloc (.cells #[.int .i64 s.ide, .int .i64 s.fn, .int .i64 s.pla, .slice B1 n1 d1, .slice B2 n2 d2, .slice B3 n3 d3, .int .i64 s.result, .int .i64 s.mode, .int .i64 s.value, .int .i64 s.base, .bool s.off] 46) = W0 at hb0 hx0 hy0 ⊢
  clear hW0
  refine (eqInts_below A1 B1 n1 c1 d1 s.pile _ (hr.pile.now hb0) (hr'.pile.now hb0) l1).mono ?_
  rintro e W1 ⟨rfl, hc0⟩
  have hb1 : Below w.heap.size w W1 := hb0.trans (hc0.mono hb0.size)
  have hx1 := hx0.below hc0
  have hy1 := hy0.below hc0
  clear hx0 hy0 hc0 hb0
  have x4 := hx1.cell 4
  have y4 := hy1.cell 4
  simp at x4 y4
  go_wp2_with fail
  clear x4 y4
  refine (eqInts_below A2 B2 n2 c2 d2 s.vars _ (hr.vars.now hb1) (hr'.vars.now hb1) l2).mono ?_
  rintro e W2 ⟨rfl, hc1⟩
  have hb2 : Below w.heap.size w W2 := hb1.trans (hc1.mono hb1.size)
  have hx2 := hx1.below hc1
  have hy2 := hy1.below hc1
  clear hx1 hy1 hc1 hb1
  have x5 := hx2.cell 5
  have y5 := hy2.cell 5
  simp at x5 y5
  go_wp2_with fail
  clear x5 y5
  refine (eqBools_same A3 B3 n3 c3 d3 s.flags _ (hr.flags.now hb2) (hr'.flags.now hb2) l3).mono ?_
  rintro e W3 ⟨rfl, hc2⟩
  have hb3 : Below w.heap.size w W3 := hb2.trans (hc2.mono hb2.size)
  have hx3 := hx2.below hc2
  have hy3 := hy2.below hc2
  clear hx2 hy2 hc2 hb2
  have x6 := hx3.cell 6
  have y6 := hy3.cell 6
  have x7 := hx3.cell 7
  have y7 := hy3.cell 7
  have x8 := hx3.cell 8
  have y8 := hy3.cell 8
  have x9 := hx3.cell 9
  have y9 := hy3.cell 9
  have x10 := hx3.cell 10
  have y10 := hy3.cell 10
  simp at x6 y6 x7 y7 x8 y8 x9 y9 x10 y10
  go_wp2
  go_ret
  exact ⟨rfl, hb3⟩

set_option maxHeartbeats 2000000 in
set_option maxRecDepth 100000 in
theorem eqFrs_same (A A' : Option Addr) (n c c' : Nat) (ss : List Fr) (w : World) (hr : ReadsFr w w.heap.size A n ss) (hr' : ReadsFr w w.heap.size A' n ss) (hn : n ≤ 1048576) (hs : ∀ x ∈ ss, SmallFr x) :
    Calls Try.prog 23 #[.slice A n c, .slice A' n c'] w fun e w' => e = .returned (.bool true) ∧ Below w.heap.size w w' := by
  go_enter Try.func23, Try.ntmps23
  go_wp2
  go_loopw [5] (fun i wr => ∃ k : Nat, k ≤ n ∧ i = .int .i64 k ∧ Below w.heap.size w wr) (fun i _ => n - (intOf i).toNat)
  case atStart => exact ⟨0, Nat.zero_le _, rfl, Below.refl _ _⟩
  case round =>
    obtain ⟨k, hk, rfl, hbel⟩ := hrel
    by_cases hlt : k < n
    · obtain ⟨b, off, s, A1, n1, c1, A2, n2, c2, A3, n3, c3, rfl, hb, g0, g1, g2, g3, g4, g5, g6, g7, g8, g9, g10, rr, hx⟩ := (hr.below hbel).at_ hlt
      obtain ⟨b', off', s', B1, m1, d1, B2, m2, d2, B3, m3, d3, rfl, hb', h0, h1, h2, h3, h4, h5, h6, h7, h8, h9, h10, rr', hx'⟩ := (hr'.below hbel).at_ hlt
      obtain rfl : s = s' := by have := hx.out; rw [hx'.out] at this; injection this with this; exact this.symm
      have u0 := cell_regrown g0
      have v0 := cell_regrown h0
      have u1 := cell_regrown g1
      have v1 := cell_regrown h1
      have u2 := cell_regrown g2
      have v2 := cell_regrown h2
      have u3 := cell_regrown g3
      have v3 := cell_regrown h3
      have u4 := cell_regrown g4
      have v4 := cell_regrown h4
      have u5 := cell_regrown g5
      have v5 := cell_regrown h5
      have u6 := cell_regrown g6
      have v6 := cell_regrown h6
      have u7 := cell_regrown g7
      have v7 := cell_regrown h7
      have u8 := cell_regrown g8
      have v8 := cell_regrown h8
      have u9 := cell_regrown g9
      have v9 := cell_regrown h9
      have u10 := cell_regrown g10
      have v10 := cell_regrown h10
      obtain rfl : n1 = m1 := by have := rr.pile.1; have := rr'.pile.1; omega
      obtain rfl : n2 = m2 := by have := rr.vars.1; have := rr'.vars.1; omega
      obtain rfl : n3 = m3 := by have := rr.flags.1; have := rr'.flags.1; omega
      have hcon := fun W (hW : Below wr.heap.size wr W) => eqFr_same s A1 n1 c1 A2 n2 c2 A3 n3 c3 B1 d1 B2 d2 B3 d3 W ((rr.more hbel.size).now hW) ((rr'.more hbel.size).now hW) (hs _ (mem_of_at hx.out))
      unfold frV at hcon
      clear rr rr'
      go_wp2
      refine wp_region_quiet_below (by kernel_rfl) (by kernel_rfl) ?_
      repeat (first | go_big_quiet_step ((go_at_call 31; exact Calls.regrown_of (hcon _ (below_regrown wr _ _)))) | quiet_step (fail))
      refine wpQuiet_nil ?_
      intro _ hw'
      obtain ⟨⟨dq, osq⟩, hw''⟩ := hw'
      subst hw''
      go_wp2
      go_roundw
      case rel => exact ⟨k + 1, by omega, by go_num, hbel.trans ((below_regrown wr dq osq).mono hbel.size)⟩
      case measure => simp [intOf]; omega
    · go_wp2
      go_ret
      exact ⟨rfl, hbel⟩

end Go.Proofs.Ytpbkkjiikhjanaa

/-
  Texts joined: FrEq McEq FrSz McSz.
-/
import Derived.Test.YtpbkkjiikhjanaaGreatDoorJCoSz
/-
  The laws' comparing of frames.
-/
namespace Go.Proofs.YtpbkkjiikhjanaaGreatDoor
open Go.RowKit Exs


set_option maxHeartbeats 2000000 in
set_option maxRecDepth 100000 in
theorem eqFr_same (s : Fr) (A1 : Option Addr) (n1 c1 : Nat) (A2 : Option Addr) (n2 c2 : Nat) (A3 : Option Addr) (n3 c3 : Nat) (B1 : Option Addr) (d1 : Nat) (B2 : Option Addr) (d2 : Nat) (B3 : Option Addr) (d3 : Nat) (w : World) (hr : IsFr w w.heap.size s A1 n1 A2 n2 A3 n3) (hr' : IsFr w w.heap.size s B1 n1 B2 n2 B3 n3) (hs : SmallFr s) :
    Calls Tryz.prog 65 #[frV s A1 n1 c1 A2 n2 c2 A3 n3 c3, frV s B1 n1 d1 B2 n2 d2 B3 n3 d3] w fun e w' => e = .returned (.bool true) ∧ Below w.heap.size w w' := by
  obtain ⟨l1, l2, l3⟩ := hs
  rw [hr.pile.1] at l1
  rw [hr.vars.1] at l2
  rw [hr.flags.1] at l3
  unfold frV
  go_enter Tryz.func65, Tryz.ntmps65
  go_wp2_with fail
  have hb0 : Below w.heap.size w ((w.alloc (.cells #[.int .i64 s.ide, .int .i64 s.fn, .int .i64 s.pla, .slice A1 n1 c1, .slice A2 n2 c2, .slice A3 n3 c3, .int .i64 s.result, .int .i64 s.mode, .int .i64 s.value, .int .i64 s.base, .bool s.off] 78)).alloc (.cells #[.int .i64 s.ide, .int .i64 s.fn, .int .i64 s.pla, .slice B1 n1 d1, .slice B2 n2 d2, .slice B3 n3 d3, .int .i64 s.result, .int .i64 s.mode, .int .i64 s.value, .int .i64 s.base, .bool s.off] 78)) := ((Below.refl _ _).alloc (Nat.le_refl _) _).alloc (by simp) _
  have hx0 : Keep ((w.alloc (.cells #[.int .i64 s.ide, .int .i64 s.fn, .int .i64 s.pla, .slice A1 n1 c1, .slice A2 n2 c2, .slice A3 n3 c3, .int .i64 s.result, .int .i64 s.mode, .int .i64 s.value, .int .i64 s.base, .bool s.off] 78)).alloc (.cells #[.int .i64 s.ide, .int .i64 s.fn, .int .i64 s.pla, .slice B1 n1 d1, .slice B2 n2 d2, .slice B3 n3 d3, .int .i64 s.result, .int .i64 s.mode, .int .i64 s.value, .int .i64 s.base, .bool s.off] 78)) w.heap.size #[.int .i64 s.ide, .int .i64 s.fn, .int .i64 s.pla, .slice A1 n1 c1, .slice A2 n2 c2, .slice A3 n3 c3, .int .i64 s.result, .int .i64 s.mode, .int .i64 s.value, .int .i64 s.base, .bool s.off] 78 := (Keep.new _ _ _).alloc _
  have hy0 : Keep ((w.alloc (.cells #[.int .i64 s.ide, .int .i64 s.fn, .int .i64 s.pla, .slice A1 n1 c1, .slice A2 n2 c2, .slice A3 n3 c3, .int .i64 s.result, .int .i64 s.mode, .int .i64 s.value, .int .i64 s.base, .bool s.off] 78)).alloc (.cells #[.int .i64 s.ide, .int .i64 s.fn, .int .i64 s.pla, .slice B1 n1 d1, .slice B2 n2 d2, .slice B3 n3 d3, .int .i64 s.result, .int .i64 s.mode, .int .i64 s.value, .int .i64 s.base, .bool s.off] 78)) (w.heap.size + 1) #[.int .i64 s.ide, .int .i64 s.fn, .int .i64 s.pla, .slice B1 n1 d1, .slice B2 n2 d2, .slice B3 n3 d3, .int .i64 s.result, .int .i64 s.mode, .int .i64 s.value, .int .i64 s.base, .bool s.off] 78 := by
    have := Keep.new (w.alloc (.cells #[.int .i64 s.ide, .int .i64 s.fn, .int .i64 s.pla, .slice A1 n1 c1, .slice A2 n2 c2, .slice A3 n3 c3, .int .i64 s.result, .int .i64 s.mode, .int .i64 s.value, .int .i64 s.base, .bool s.off] 78)) #[.int .i64 s.ide, .int .i64 s.fn, .int .i64 s.pla, .slice B1 n1 d1, .slice B2 n2 d2, .slice B3 n3 d3, .int .i64 s.result, .int .i64 s.mode, .int .i64 s.value, .int .i64 s.base, .bool s.off] 78
    rw [World.size_alloc] at this
    exact this
  generalize hW0 : (w.alloc (.cells #[.int .i64 s.ide, .int .i64 s.fn, .int .i64 s.pla, .slice A1 n1 c1, .slice A2 n2 c2, .slice A3 n3 c3, .int .i64 s.result, .int .i64 s.mode, .int .i64 s.value, .int .i64 s.base, .bool s.off] 78)).alloc (.cells #[.int .i64 s.ide, .int .i64 s.fn, .int .i64 s.pla, .slice B1 n1 d1, .slice B2 n2 d2, .slice B3 n3 d3, .int .i64 s.result, .int .i64 s.mode, .int .i64 s.value, .int .i64 s.base, .bool s.off] 78) = W0 at hb0 hx0 hy0 ⊢
  clear hW0
  refine (eqInts_below A1 B1 n1 c1 d1 s.pile _ (hr.pile.now hb0) (hr'.pile.now hb0) l1).mono ?_
  rintro e W1 ⟨rfl, hc0⟩
  have hb1 : Below w.heap.size w W1 := hb0.trans (hc0.mono hb0.size)
  have hx1 := hx0.below hc0
  have hy1 := hy0.below hc0
  clear hx0 hy0 hc0 hb0
  have x4 := hx1.cell 4
  have y4 := hy1.cell 4
  simp at x4 y4
  go_wp2_with fail
  clear x4 y4
  refine (eqInts_below A2 B2 n2 c2 d2 s.vars _ (hr.vars.now hb1) (hr'.vars.now hb1) l2).mono ?_
  rintro e W2 ⟨rfl, hc1⟩
  have hb2 : Below w.heap.size w W2 := hb1.trans (hc1.mono hb1.size)
  have hx2 := hx1.below hc1
  have hy2 := hy1.below hc1
  clear hx1 hy1 hc1 hb1
  have x5 := hx2.cell 5
  have y5 := hy2.cell 5
  simp at x5 y5
  go_wp2_with fail
  clear x5 y5
  refine (eqBools_same A3 B3 n3 c3 d3 s.flags _ (hr.flags.now hb2) (hr'.flags.now hb2) l3).mono ?_
  rintro e W3 ⟨rfl, hc2⟩
  have hb3 : Below w.heap.size w W3 := hb2.trans (hc2.mono hb2.size)
  have hx3 := hx2.below hc2
  have hy3 := hy2.below hc2
  clear hx2 hy2 hc2 hb2
  have x6 := hx3.cell 6
  have y6 := hy3.cell 6
  have x7 := hx3.cell 7
  have y7 := hy3.cell 7
  have x8 := hx3.cell 8
  have y8 := hy3.cell 8
  have x9 := hx3.cell 9
  have y9 := hy3.cell 9
  have x10 := hx3.cell 10
  have y10 := hy3.cell 10
  simp at x6 y6 x7 y7 x8 y8 x9 y9 x10 y10
  go_wp2
  go_ret
  exact ⟨rfl, hb3⟩

set_option maxHeartbeats 2000000 in
set_option maxRecDepth 100000 in
theorem eqFrs_same (A A' : Option Addr) (n c c' : Nat) (ss : List Fr) (w : World) (hr : ReadsFr w w.heap.size A n ss) (hr' : ReadsFr w w.heap.size A' n ss) (hn : n ≤ 1048576) (hs : ∀ x ∈ ss, SmallFr x) :
    Calls Tryz.prog 38 #[.slice A n c, .slice A' n c'] w fun e w' => e = .returned (.bool true) ∧ Below w.heap.size w w' := by
  go_enter Tryz.func38, Tryz.ntmps38
  go_wp2
  go_loopw [5] (fun i wr => ∃ k : Nat, k ≤ n ∧ i = .int .i64 k ∧ Below w.heap.size w wr) (fun i _ => n - (intOf i).toNat)
  case atStart => exact ⟨0, Nat.zero_le _, rfl, Below.refl _ _⟩
  case round =>
    obtain ⟨k, hk, rfl, hbel⟩ := hrel
    by_cases hlt : k < n
    · obtain ⟨b, off, s, A1, n1, c1, A2, n2, c2, A3, n3, c3, rfl, hb, g0, g1, g2, g3, g4, g5, g6, g7, g8, g9, g10, rr, hx⟩ := (hr.below hbel).at_ hlt
      obtain ⟨b', off', s', B1, m1, d1, B2, m2, d2, B3, m3, d3, rfl, hb', h0, h1, h2, h3, h4, h5, h6, h7, h8, h9, h10, rr', hx'⟩ := (hr'.below hbel).at_ hlt
      obtain rfl : s = s' := by have := hx.out; rw [hx'.out] at this; injection this with this; exact this.symm
      have u0 := cell_regrown g0
      have v0 := cell_regrown h0
      have u1 := cell_regrown g1
      have v1 := cell_regrown h1
      have u2 := cell_regrown g2
      have v2 := cell_regrown h2
      have u3 := cell_regrown g3
      have v3 := cell_regrown h3
      have u4 := cell_regrown g4
      have v4 := cell_regrown h4
      have u5 := cell_regrown g5
      have v5 := cell_regrown h5
      have u6 := cell_regrown g6
      have v6 := cell_regrown h6
      have u7 := cell_regrown g7
      have v7 := cell_regrown h7
      have u8 := cell_regrown g8
      have v8 := cell_regrown h8
      have u9 := cell_regrown g9
      have v9 := cell_regrown h9
      have u10 := cell_regrown g10
      have v10 := cell_regrown h10
      obtain rfl : n1 = m1 := by have := rr.pile.1; have := rr'.pile.1; omega
      obtain rfl : n2 = m2 := by have := rr.vars.1; have := rr'.vars.1; omega
      obtain rfl : n3 = m3 := by have := rr.flags.1; have := rr'.flags.1; omega
      have hcon := fun W (hW : Below wr.heap.size wr W) => eqFr_same s A1 n1 c1 A2 n2 c2 A3 n3 c3 B1 d1 B2 d2 B3 d3 W ((rr.more hbel.size).now hW) ((rr'.more hbel.size).now hW) (hs _ (mem_of_at hx.out))
      unfold frV at hcon
      clear rr rr'
      go_wp2
      refine wp_region_quiet_below (by kernel_rfl) (by kernel_rfl) ?_
      repeat (first | go_big_quiet_step ((go_at_call 65; exact Calls.regrown_of (hcon _ (below_regrown wr _ _)))) | quiet_step (fail))
      refine wpQuiet_nil ?_
      intro _ hw'
      obtain ⟨⟨dq, osq⟩, hw''⟩ := hw'
      subst hw''
      go_wp2
      go_roundw
      case rel => exact ⟨k + 1, by omega, by go_num, hbel.trans ((below_regrown wr dq osq).mono hbel.size)⟩
      case measure => simp [intOf]; omega
    · go_wp2
      go_ret
      exact ⟨rfl, hbel⟩

end Go.Proofs.YtpbkkjiikhjanaaGreatDoor

/-
  The laws' comparing of machines.
-/
namespace Go.Proofs.YtpbkkjiikhjanaaGreatDoor
open Go.RowKit Exs


set_option maxHeartbeats 2000000 in
set_option maxRecDepth 100000 in
theorem eqMc_same (s : Mc) (A1 : Option Addr) (n1 c1 : Nat) (A2 : Option Addr) (n2 c2 : Nat) (A3 : Option Addr) (n3 c3 : Nat) (B1 : Option Addr) (d1 : Nat) (B2 : Option Addr) (d2 : Nat) (B3 : Option Addr) (d3 : Nat) (w : World) (hr : IsMc w w.heap.size s A1 n1 A2 n2 A3 n3) (hr' : IsMc w w.heap.size s B1 n1 B2 n2 B3 n3) (hs : SmallMc s) :
    Calls Tryz.prog 13 #[mcV s A1 n1 c1 A2 n2 c2 A3 n3 c3, mcV s B1 n1 d1 B2 n2 d2 B3 n3 d3] w fun e w' => e = .returned (.bool true) ∧ Below w.heap.size w w' := by
  obtain ⟨l1, q1, l2, l3⟩ := hs
  rw [hr.frames.1] at l1
  rw [hr.trace.1] at l2
  rw [hr.notes.1] at l3
  unfold mcV
  go_enter Tryz.func13, Tryz.ntmps13
  go_wp2_with fail
  have hb0 : Below w.heap.size w ((w.alloc (.cells #[.slice A1 n1 c1, .slice A2 n2 c2, .int .i64 s.used, .int .i64 s.code, .int .i64 s.value, .int .i64 s.made, .slice A3 n3 c3] 41)).alloc (.cells #[.slice B1 n1 d1, .slice B2 n2 d2, .int .i64 s.used, .int .i64 s.code, .int .i64 s.value, .int .i64 s.made, .slice B3 n3 d3] 41)) := ((Below.refl _ _).alloc (Nat.le_refl _) _).alloc (by simp) _
  have hx0 : Keep ((w.alloc (.cells #[.slice A1 n1 c1, .slice A2 n2 c2, .int .i64 s.used, .int .i64 s.code, .int .i64 s.value, .int .i64 s.made, .slice A3 n3 c3] 41)).alloc (.cells #[.slice B1 n1 d1, .slice B2 n2 d2, .int .i64 s.used, .int .i64 s.code, .int .i64 s.value, .int .i64 s.made, .slice B3 n3 d3] 41)) w.heap.size #[.slice A1 n1 c1, .slice A2 n2 c2, .int .i64 s.used, .int .i64 s.code, .int .i64 s.value, .int .i64 s.made, .slice A3 n3 c3] 41 := (Keep.new _ _ _).alloc _
  have hy0 : Keep ((w.alloc (.cells #[.slice A1 n1 c1, .slice A2 n2 c2, .int .i64 s.used, .int .i64 s.code, .int .i64 s.value, .int .i64 s.made, .slice A3 n3 c3] 41)).alloc (.cells #[.slice B1 n1 d1, .slice B2 n2 d2, .int .i64 s.used, .int .i64 s.code, .int .i64 s.value, .int .i64 s.made, .slice B3 n3 d3] 41)) (w.heap.size + 1) #[.slice B1 n1 d1, .slice B2 n2 d2, .int .i64 s.used, .int .i64 s.code, .int .i64 s.value, .int .i64 s.made, .slice B3 n3 d3] 41 := by
    have := Keep.new (w.alloc (.cells #[.slice A1 n1 c1, .slice A2 n2 c2, .int .i64 s.used, .int .i64 s.code, .int .i64 s.value, .int .i64 s.made, .slice A3 n3 c3] 41)) #[.slice B1 n1 d1, .slice B2 n2 d2, .int .i64 s.used, .int .i64 s.code, .int .i64 s.value, .int .i64 s.made, .slice B3 n3 d3] 41
    rw [World.size_alloc] at this
    exact this
  generalize hW0 : (w.alloc (.cells #[.slice A1 n1 c1, .slice A2 n2 c2, .int .i64 s.used, .int .i64 s.code, .int .i64 s.value, .int .i64 s.made, .slice A3 n3 c3] 41)).alloc (.cells #[.slice B1 n1 d1, .slice B2 n2 d2, .int .i64 s.used, .int .i64 s.code, .int .i64 s.value, .int .i64 s.made, .slice B3 n3 d3] 41) = W0 at hb0 hx0 hy0 ⊢
  clear hW0
  refine (eqFrs_same A1 B1 n1 c1 d1 s.frames _ (hr.frames.now hb0) (hr'.frames.now hb0) l1 q1).mono ?_
  rintro e W1 ⟨rfl, hc0⟩
  have hb1 : Below w.heap.size w W1 := hb0.trans (hc0.mono hb0.size)
  have hx1 := hx0.below hc0
  have hy1 := hy0.below hc0
  clear hx0 hy0 hc0 hb0
  have x1 := hx1.cell 1
  have y1 := hy1.cell 1
  simp at x1 y1
  go_wp2_with fail
  clear x1 y1
  refine (eqInts_below A2 B2 n2 c2 d2 s.trace _ (hr.trace.now hb1) (hr'.trace.now hb1) l2).mono ?_
  rintro e W2 ⟨rfl, hc1⟩
  have hb2 : Below w.heap.size w W2 := hb1.trans (hc1.mono hb1.size)
  have hx2 := hx1.below hc1
  have hy2 := hy1.below hc1
  clear hx1 hy1 hc1 hb1
  have x2 := hx2.cell 2
  have y2 := hy2.cell 2
  have x3 := hx2.cell 3
  have y3 := hy2.cell 3
  have x4 := hx2.cell 4
  have y4 := hy2.cell 4
  have x5 := hx2.cell 5
  have y5 := hy2.cell 5
  have x6 := hx2.cell 6
  have y6 := hy2.cell 6
  simp at x2 y2 x3 y3 x4 y4 x5 y5 x6 y6
  go_wp2_with fail
  clear x2 y2 x3 y3 x4 y4 x5 y5 x6 y6
  refine (eqNotes_same A3 B3 n3 c3 d3 s.notes _ (hr.notes.now hb2) (hr'.notes.now hb2) l3).mono ?_
  rintro e W3 ⟨rfl, hc2⟩
  have hb3 : Below w.heap.size w W3 := hb2.trans (hc2.mono hb2.size)
  have hx3 := hx2.below hc2
  have hy3 := hy2.below hc2
  clear hx2 hy2 hc2 hb2
  go_wp2
  go_ret
  exact ⟨rfl, hb3⟩

end Go.Proofs.YtpbkkjiikhjanaaGreatDoor

/-
  The laws' counting of frames' values.
-/
namespace Go.Proofs.YtpbkkjiikhjanaaGreatDoor
open Go.RowKit Exs


set_option maxHeartbeats 1000000 in
theorem szFr_any (s : Fr) (A1 : Option Addr) (n1 c1 : Nat) (A2 : Option Addr) (n2 c2 : Nat) (A3 : Option Addr) (n3 c3 : Nat) (left : Int) (w : World) (e1 : s.pile.length = n1) (e2 : s.vars.length = n2) (e3 : s.flags.length = n3) (hl : LongFr s) (h0 : 0 ≤ left) (h1 : left ≤ 1048576) :
    Calls Tryz.prog 50 #[frV s A1 n1 c1 A2 n2 c2 A3 n3 c3, .int .i64 left] w fun e w' => e = .returned (.int .i64 (szA (manyFr s) left)) ∧ Below w.heap.size w w' := by
  obtain ⟨l1, l2, l3⟩ := hl
  have hm := put (show manyFr s = n1 + n2 + n3 by simp only [manyFr, e1, e2, e3])
  rw [e1] at l1
  rw [e2] at l2
  rw [e3] at l3
  have z1 := fun (W : World) (left : Int) (h0 : 0 ≤ left) (h1 : left ≤ 1048576) => szInts_any A1 n1 c1 left W l1 h0 h1
  have z2 := fun (W : World) (left : Int) (h0 : 0 ≤ left) (h1 : left ≤ 1048576) => szInts_any A2 n2 c2 left W l2 h0 h1
  have z3 := fun (W : World) (left : Int) (h0 : 0 ≤ left) (h1 : left ≤ 1048576) => szBools_any A3 n3 c3 left W l3 h0 h1
  clear  e1 e2 e3
  have hb0 : Below w.heap.size w (w.alloc (.cells #[.int .i64 s.ide, .int .i64 s.fn, .int .i64 s.pla, .slice A1 n1 c1, .slice A2 n2 c2, .slice A3 n3 c3, .int .i64 s.result, .int .i64 s.mode, .int .i64 s.value, .int .i64 s.base, .bool s.off] 96)) := (Below.refl _ _).alloc (Nat.le_refl _) _
  have hk0 := Keep.new w #[.int .i64 s.ide, .int .i64 s.fn, .int .i64 s.pla, .slice A1 n1 c1, .slice A2 n2 c2, .slice A3 n3 c3, .int .i64 s.result, .int .i64 s.mode, .int .i64 s.value, .int .i64 s.base, .bool s.off] 96
  have Z1 := put z1
  have Z2 := put z2
  have Z3 := put z3
  clear z1 z2 z3
  unfold frV
  by_cases k1 : ((n1 : Nat) : Int) ≤ left
  · by_cases k2 : ((n2 : Nat) : Int) ≤ left - n1
    · by_cases k3 : ((n3 : Nat) : Int) ≤ left - n1 - n2
      · rw [szA_fit (by rw [hm.out]; omega)]
        go_enter Tryz.func50, Tryz.ntmps50
        go_wp2_with fail
        generalize hW : w.alloc (.cells #[.int .i64 s.ide, .int .i64 s.fn, .int .i64 s.pla, .slice A1 n1 c1, .slice A2 n2 c2, .slice A3 n3 c3, .int .i64 s.result, .int .i64 s.mode, .int .i64 s.value, .int .i64 s.base, .bool s.off] 96) = W0 at hb0 hk0 ⊢
        clear hW
        refine (Z1.out _ (left) (by omega) (by omega)).mono ?_
        rintro e W1 ⟨rfl, rfl⟩
        have hb1 := hb0
        have hk1 := hk0
        rw [szA_fit k1]
        clear hb0 hk0
        have y := hk1.cell 4
        simp at y
        go_wp2_with fail
        clear y
        refine (Z2.out _ (left - n1) (by omega) (by omega)).mono ?_
        rintro e W2 ⟨rfl, rfl⟩
        have hb2 := hb1
        have hk2 := hk1
        rw [szA_fit k2]
        clear hb1 hk1
        have y := hk2.cell 5
        simp at y
        go_wp2_with fail
        clear y
        refine (Z3.out _ (left - n1 - n2) (by omega) (by omega)).mono ?_
        rintro e W3 ⟨rfl, rfl⟩
        have hb3 := hb2
        have hk3 := hk2
        rw [szA_fit k3]
        clear hb2 hk2
        go_wp2
        go_ret
        exact ⟨ret_int (by rw [hm.out]; omega), hb3⟩
      · have k3 := Int.not_le.1 k3
        rw [szA_no (by rw [hm.out]; omega)]
        go_enter Tryz.func50, Tryz.ntmps50
        go_wp2_with fail
        generalize hW : w.alloc (.cells #[.int .i64 s.ide, .int .i64 s.fn, .int .i64 s.pla, .slice A1 n1 c1, .slice A2 n2 c2, .slice A3 n3 c3, .int .i64 s.result, .int .i64 s.mode, .int .i64 s.value, .int .i64 s.base, .bool s.off] 96) = W0 at hb0 hk0 ⊢
        clear hW
        refine (Z1.out _ (left) (by omega) (by omega)).mono ?_
        rintro e W1 ⟨rfl, rfl⟩
        have hb1 := hb0
        have hk1 := hk0
        rw [szA_fit k1]
        clear hb0 hk0
        have y := hk1.cell 4
        simp at y
        go_wp2_with fail
        clear y
        refine (Z2.out _ (left - n1) (by omega) (by omega)).mono ?_
        rintro e W2 ⟨rfl, rfl⟩
        have hb2 := hb1
        have hk2 := hk1
        rw [szA_fit k2]
        clear hb1 hk1
        have y := hk2.cell 5
        simp at y
        go_wp2_with fail
        clear y
        refine (Z3.out _ (left - n1 - n2) (by omega) (by omega)).mono ?_
        rintro e W3 ⟨rfl, rfl⟩
        have hb3 := hb2
        have hk3 := hk2
        rw [szA_no k3]
        clear hb2 hk2
        go_wp2
        go_ret
        exact ⟨rfl, hb3⟩
    · have k2 := Int.not_le.1 k2
      rw [szA_no (by rw [hm.out]; omega)]
      go_enter Tryz.func50, Tryz.ntmps50
      go_wp2_with fail
      generalize hW : w.alloc (.cells #[.int .i64 s.ide, .int .i64 s.fn, .int .i64 s.pla, .slice A1 n1 c1, .slice A2 n2 c2, .slice A3 n3 c3, .int .i64 s.result, .int .i64 s.mode, .int .i64 s.value, .int .i64 s.base, .bool s.off] 96) = W0 at hb0 hk0 ⊢
      clear hW
      refine (Z1.out _ (left) (by omega) (by omega)).mono ?_
      rintro e W1 ⟨rfl, rfl⟩
      have hb1 := hb0
      have hk1 := hk0
      rw [szA_fit k1]
      clear hb0 hk0
      have y := hk1.cell 4
      simp at y
      go_wp2_with fail
      clear y
      refine (Z2.out _ (left - n1) (by omega) (by omega)).mono ?_
      rintro e W2 ⟨rfl, rfl⟩
      have hb2 := hb1
      have hk2 := hk1
      rw [szA_no k2]
      clear hb1 hk1
      go_wp2
      go_ret
      exact ⟨rfl, hb2⟩
  · have k1 := Int.not_le.1 k1
    rw [szA_no (by rw [hm.out]; omega)]
    go_enter Tryz.func50, Tryz.ntmps50
    go_wp2_with fail
    generalize hW : w.alloc (.cells #[.int .i64 s.ide, .int .i64 s.fn, .int .i64 s.pla, .slice A1 n1 c1, .slice A2 n2 c2, .slice A3 n3 c3, .int .i64 s.result, .int .i64 s.mode, .int .i64 s.value, .int .i64 s.base, .bool s.off] 96) = W0 at hb0 hk0 ⊢
    clear hW
    refine (Z1.out _ (left) (by omega) (by omega)).mono ?_
    rintro e W1 ⟨rfl, rfl⟩
    have hb1 := hb0
    have hk1 := hk0
    rw [szA_no k1]
    clear hb0 hk0
    go_wp2
    go_ret
    exact ⟨rfl, hb1⟩

set_option maxHeartbeats 1000000 in
set_option maxRecDepth 100000 in
theorem szFrs_any (A : Option Addr) (n c : Nat) (ss : List Fr) (left : Int) (w : World) (hr : ReadsFr w w.heap.size A n ss) (hn : n ≤ maxLen) (hl : ∀ s ∈ ss, LongFr s) (h0 : 0 ≤ left) (h1 : left ≤ 1048576) :
    Calls Tryz.prog 24 #[.slice A n c, .int .i64 left] w fun e w' => e = .returned (.int .i64 (szA (n + manyFrs ss) left)) ∧ Below w.heap.size w w' := by
  unfold maxLen at hn
  by_cases h : (n : Int) ≤ left
  · go_enter Tryz.func24, Tryz.ntmps24
    go_wp2
    go_loopw [1, 5] (fun l i wr => ∃ k : Nat, k ≤ n ∧ i = .int .i64 k ∧ Hid (((n + manyFrs (ss.take k) : Nat) : Int) ≤ left) ∧ l = .int .i64 (left - n - manyFrs (ss.take k)) ∧ Below w.heap.size w wr) (fun _ i _ => n - (intOf i).toNat)
    case atStart => exact ⟨0, Nat.zero_le _, rfl, put (by simp [manyFrs]; exact h), by simp [manyFrs], Below.refl _ _⟩
    case round =>
      obtain ⟨k, hk, rfl, hfit, rfl, hbel⟩ := hrel
      obtain ⟨m, hm⟩ : ∃ m : Nat, manyFrs (ss.take k) = m := ⟨_, rfl⟩
      rw [hm] at hfit ⊢
      have hfit := hfit.out
      by_cases hlt : k < n
      · obtain ⟨b, off, s, A1, n1, c1, A2, n2, c2, A3, n3, c3, rfl, hb, g0, g1, g2, g3, g4, g5, g6, g7, g8, g9, g10, rr, hx⟩ := (hr.below hbel).at_ hlt
        have hmore := put (show manyFrs (ss.take (k + 1)) = m + manyFr s by rw [takeA_more hx.out, manyFrs_append, hm]; simp [manyFrs])
        have hall := put (show m + manyFr s ≤ manyFrs ss by
          have e : ss = ss.take (k + 1) ++ ss.drop (k + 1) := (List.take_append_drop _ _).symm
          rw [← hmore.out]; conv => rhs; rw [e, manyFrs_append]
          omega)
        clear hm
        have RR := put rr
        clear rr
        by_cases hf : ((manyFr s : Nat) : Int) ≤ left - n - m
        · have hsz := szA_fit hf
          go_wp2_with fail
          have rr := RR.out
          refine (szFr_any s A1 n1 c1 A2 n2 c2 A3 n3 c3 _ _ rr.pile.1 rr.vars.1 rr.flags.1 (hl _ (mem_of_at hx.out)) (by omega) (by omega)).mono ?_
          rintro e w1 ⟨rfl, hb1⟩
          rw [hsz]
          clear hsz rr RR g0 g1 g2 g3 g4 g5 g6 g7 g8 g9 g10
          go_wp2
          go_roundw
          case rel => exact ⟨k + 1, by omega, by go_num, put (by rw [hmore.out]; omega), by rw [hmore.out]; exact congrArg _ (by omega), hbel.trans (hb1.mono hbel.size)⟩
          case measure => simp [intOf]; omega
        · have hf := Int.not_le.1 hf
          have hsz := szA_no hf
          go_wp2_with fail
          have rr := RR.out
          refine (szFr_any s A1 n1 c1 A2 n2 c2 A3 n3 c3 _ _ rr.pile.1 rr.vars.1 rr.flags.1 (hl _ (mem_of_at hx.out)) (by omega) (by omega)).mono ?_
          rintro e w1 ⟨rfl, hb1⟩
          rw [hsz]
          clear hsz rr RR g0 g1 g2 g3 g4 g5 g6 g7 g8 g9 g10
          go_wp2
          go_ret
          exact ⟨ret_int (szA_no (by have := hall.out; omega)).symm, hbel.trans (hb1.mono hbel.size)⟩
      · have hfin := put (show manyFrs ss = m by rw [← hm, List.take_of_length_le (by rw [hr.1]; omega)])
        clear hm
        go_wp2
        go_ret
        exact ⟨ret_int (by rw [hfin.out, szA_fit hfit]; omega), hbel⟩
  · have h := Int.not_le.1 h
    rw [szA_no (by omega)]
    go_enter Tryz.func24, Tryz.ntmps24
    go_wp2
    go_ret
    exact ⟨rfl, Below.refl _ _⟩

end Go.Proofs.YtpbkkjiikhjanaaGreatDoor

/-
  The laws' counting of a machine's values.
-/
namespace Go.Proofs.YtpbkkjiikhjanaaGreatDoor
open Go.RowKit Exs


set_option maxHeartbeats 1000000 in
theorem szMc_any (s : Mc) (A1 : Option Addr) (n1 c1 : Nat) (A2 : Option Addr) (n2 c2 : Nat) (A3 : Option Addr) (n3 c3 : Nat) (left : Int) (w : World) (hr : IsMc w w.heap.size s A1 n1 A2 n2 A3 n3) (hl : LongMc s) (h0 : 0 ≤ left) (h1 : left ≤ 1048576) :
    Calls Tryz.prog 7 #[mcV s A1 n1 c1 A2 n2 c2 A3 n3 c3, .int .i64 left] w fun e w' => e = .returned (.int .i64 (szA (manyMc s) left)) ∧ Below w.heap.size w w' := by
  obtain ⟨l1, q1, l2, l3⟩ := hl
  have e1 : s.frames.length = n1 := hr.frames.1
  have e2 : s.trace.length = n2 := hr.trace.1
  have e3 : s.notes.length = n3 := hr.notes.1
  obtain ⟨t1, ht1⟩ : ∃ t : Nat, n1 + manyFrs s.frames = t := ⟨_, rfl⟩
  have hm := put (show manyMc s = t1 + n2 + n3 by simp only [manyMc, ← ht1, e1, e2, e3])
  rw [e1] at l1
  rw [e2] at l2
  rw [e3] at l3
  have z1 := fun (W : World) (hW : Below w.heap.size w W) (left : Int) (h0 : 0 ≤ left) (h1 : left ≤ 1048576) => szFrs_any A1 n1 c1 s.frames left W (hr.frames.now hW) l1 q1 h0 h1
  rw [ht1] at z1
  have z2 := fun (W : World) (left : Int) (h0 : 0 ≤ left) (h1 : left ≤ 1048576) => szInts_any A2 n2 c2 left W l2 h0 h1
  have z3 := fun (W : World) (left : Int) (h0 : 0 ≤ left) (h1 : left ≤ 1048576) => szNotes_any A3 n3 c3 left W l3 h0 h1
  clear ht1 e1 e2 e3
  have hb0 : Below w.heap.size w (w.alloc (.cells #[.slice A1 n1 c1, .slice A2 n2 c2, .int .i64 s.used, .int .i64 s.code, .int .i64 s.value, .int .i64 s.made, .slice A3 n3 c3] 29)) := (Below.refl _ _).alloc (Nat.le_refl _) _
  have hk0 := Keep.new w #[.slice A1 n1 c1, .slice A2 n2 c2, .int .i64 s.used, .int .i64 s.code, .int .i64 s.value, .int .i64 s.made, .slice A3 n3 c3] 29
  have Z1 := put z1
  have Z2 := put z2
  have Z3 := put z3
  clear z1 z2 z3
  unfold mcV
  by_cases k1 : ((t1 : Nat) : Int) ≤ left
  · by_cases k2 : ((n2 : Nat) : Int) ≤ left - t1
    · by_cases k3 : ((n3 : Nat) : Int) ≤ left - t1 - n2
      · rw [szA_fit (by rw [hm.out]; omega)]
        go_enter Tryz.func7, Tryz.ntmps7
        go_wp2_with fail
        generalize hW : w.alloc (.cells #[.slice A1 n1 c1, .slice A2 n2 c2, .int .i64 s.used, .int .i64 s.code, .int .i64 s.value, .int .i64 s.made, .slice A3 n3 c3] 29) = W0 at hb0 hk0 ⊢
        clear hW
        refine (Z1.out _ hb0 (left) (by omega) (by omega)).mono ?_
        rintro e W1 ⟨rfl, hc0⟩
        have hb1 : Below w.heap.size w W1 := hb0.trans (hc0.mono hb0.size)
        have hk1 := hk0.below hc0
        rw [szA_fit k1]
        clear hb0 hk0
        have y := hk1.cell 1
        simp at y
        go_wp2_with fail
        clear y
        refine (Z2.out _ (left - t1) (by omega) (by omega)).mono ?_
        rintro e W2 ⟨rfl, rfl⟩
        have hb2 := hb1
        have hk2 := hk1
        rw [szA_fit k2]
        clear hb1 hk1
        have y := hk2.cell 6
        simp at y
        go_wp2_with fail
        clear y
        refine (Z3.out _ (left - t1 - n2) (by omega) (by omega)).mono ?_
        rintro e W3 ⟨rfl, rfl⟩
        have hb3 := hb2
        have hk3 := hk2
        rw [szA_fit k3]
        clear hb2 hk2
        go_wp2
        go_ret
        exact ⟨ret_int (by rw [hm.out]; omega), hb3⟩
      · have k3 := Int.not_le.1 k3
        rw [szA_no (by rw [hm.out]; omega)]
        go_enter Tryz.func7, Tryz.ntmps7
        go_wp2_with fail
        generalize hW : w.alloc (.cells #[.slice A1 n1 c1, .slice A2 n2 c2, .int .i64 s.used, .int .i64 s.code, .int .i64 s.value, .int .i64 s.made, .slice A3 n3 c3] 29) = W0 at hb0 hk0 ⊢
        clear hW
        refine (Z1.out _ hb0 (left) (by omega) (by omega)).mono ?_
        rintro e W1 ⟨rfl, hc0⟩
        have hb1 : Below w.heap.size w W1 := hb0.trans (hc0.mono hb0.size)
        have hk1 := hk0.below hc0
        rw [szA_fit k1]
        clear hb0 hk0
        have y := hk1.cell 1
        simp at y
        go_wp2_with fail
        clear y
        refine (Z2.out _ (left - t1) (by omega) (by omega)).mono ?_
        rintro e W2 ⟨rfl, rfl⟩
        have hb2 := hb1
        have hk2 := hk1
        rw [szA_fit k2]
        clear hb1 hk1
        have y := hk2.cell 6
        simp at y
        go_wp2_with fail
        clear y
        refine (Z3.out _ (left - t1 - n2) (by omega) (by omega)).mono ?_
        rintro e W3 ⟨rfl, rfl⟩
        have hb3 := hb2
        have hk3 := hk2
        rw [szA_no k3]
        clear hb2 hk2
        go_wp2
        go_ret
        exact ⟨rfl, hb3⟩
    · have k2 := Int.not_le.1 k2
      rw [szA_no (by rw [hm.out]; omega)]
      go_enter Tryz.func7, Tryz.ntmps7
      go_wp2_with fail
      generalize hW : w.alloc (.cells #[.slice A1 n1 c1, .slice A2 n2 c2, .int .i64 s.used, .int .i64 s.code, .int .i64 s.value, .int .i64 s.made, .slice A3 n3 c3] 29) = W0 at hb0 hk0 ⊢
      clear hW
      refine (Z1.out _ hb0 (left) (by omega) (by omega)).mono ?_
      rintro e W1 ⟨rfl, hc0⟩
      have hb1 : Below w.heap.size w W1 := hb0.trans (hc0.mono hb0.size)
      have hk1 := hk0.below hc0
      rw [szA_fit k1]
      clear hb0 hk0
      have y := hk1.cell 1
      simp at y
      go_wp2_with fail
      clear y
      refine (Z2.out _ (left - t1) (by omega) (by omega)).mono ?_
      rintro e W2 ⟨rfl, rfl⟩
      have hb2 := hb1
      have hk2 := hk1
      rw [szA_no k2]
      clear hb1 hk1
      go_wp2
      go_ret
      exact ⟨rfl, hb2⟩
  · have k1 := Int.not_le.1 k1
    rw [szA_no (by rw [hm.out]; omega)]
    go_enter Tryz.func7, Tryz.ntmps7
    go_wp2_with fail
    generalize hW : w.alloc (.cells #[.slice A1 n1 c1, .slice A2 n2 c2, .int .i64 s.used, .int .i64 s.code, .int .i64 s.value, .int .i64 s.made, .slice A3 n3 c3] 29) = W0 at hb0 hk0 ⊢
    clear hW
    refine (Z1.out _ hb0 (left) (by omega) (by omega)).mono ?_
    rintro e W1 ⟨rfl, hc0⟩
    have hb1 : Below w.heap.size w W1 := hb0.trans (hc0.mono hb0.size)
    have hk1 := hk0.below hc0
    rw [szA_no k1]
    clear hb0 hk0
    go_wp2
    go_ret
    exact ⟨rfl, hb1⟩

end Go.Proofs.YtpbkkjiikhjanaaGreatDoor

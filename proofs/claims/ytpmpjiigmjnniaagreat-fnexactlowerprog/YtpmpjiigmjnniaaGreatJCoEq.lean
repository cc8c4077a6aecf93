/-
  The laws' comparing of images: one that reads the same is the same.
-/
import Derived.Test.YtpmpjiigmjnniaaGreatJCoTo
import Derived.Test.YtpmpjiigmjnniaaGreatJTokMem
import Derived.Test.YtpmpjiigmjnniaaGreatJLoM
namespace Go.Proofs.YtpmpjiigmjnniaaGreat
open Go.RowKit Exs

set_option maxHeartbeats 400000 in
theorem eqTok_sameI (op x : Int) (w : World) : Calls Tryz.prog 52 #[.agg #[.int .i64 op, .int .i64 x], .agg #[.int .i64 op, .int .i64 x]] w fun e w' => e = .returned (.bool true) ∧ Below w.heap.size w w' := by
  go_enter Tryz.func52, Tryz.ntmps52
  go_wp2
  go_ret
  exact ⟨rfl, ((Below.refl _ _).alloc (Nat.le_refl _) _).alloc (by simp) _⟩

set_option maxHeartbeats 400000 in
set_option maxRecDepth 100000 in
theorem eqToks_sameI (A A' : Option Addr) (n c c' : Nat) (ts : List Token) (w : World) (hr : ReadsT w w.heap.size A n ts) (hr' : ReadsT w w.heap.size A' n ts) (hn : n ≤ 1048576) :
    Calls Tryz.prog 27 #[.slice A n c, .slice A' n c'] w fun e w' => e = .returned (.bool true) ∧ Below w.heap.size w w' := by
  go_enter Tryz.func27, Tryz.ntmps27
  go_wp2
  go_loopw [5] (fun i wr => ∃ k : Nat, k ≤ n ∧ i = .int .i64 k ∧ Below w.heap.size w wr) (fun i _ => n - (intOf i).toNat)
  case atStart => exact ⟨0, Nat.zero_le _, rfl, Below.refl _ _⟩
  case round =>
    obtain ⟨k, hk, rfl, hbel⟩ := hrel
    by_cases hlt : k < n
    · obtain ⟨b, off, op, x, rfl, hb, hc1, hc2, hx⟩ := (hr.below hbel).at_ hlt
      obtain ⟨b', off', op', x', rfl, hb', hc1', hc2', hx'⟩ := (hr'.below hbel).at_ hlt
      obtain ⟨rfl, rfl⟩ : op = op' ∧ x = x' := by have := hx.out; rw [hx'.out] at this; injection this with this; injection this with a b; exact ⟨a.symm, b.symm⟩
      have g1 := cell_regrown hc1
      have g2 := cell_regrown hc2
      have g3 := cell_regrown hc1'
      have g4 := cell_regrown hc2'
      go_wp2
      refine wp_region_quiet_below (by kernel_rfl) (by kernel_rfl) ?_
      repeat (first | go_big_quiet_step ((go_at_call 52; exact Calls.regrown_of (eqTok_sameI op x _))) | quiet_step (fail))
      refine wpQuiet_nil ?_
      intro _ hw'
      obtain ⟨⟨dq, osq⟩, hw''⟩ := hw'
      subst hw''
      go_wp2
      go_roundw
      case rel => exact ⟨k + 1, by omega, by go_num, hbel.trans ((below_regrown wr dq osq).mono hbel.size)⟩
      case measure => simp [intOf]; omega
    · go_wp2
      go_ret
      exact ⟨rfl, hbel⟩

set_option maxHeartbeats 400000 in
theorem eqRow_same (x y z : Int) (w : World) : Calls Tryz.prog 53 #[.agg #[.int .i64 x, .int .i64 y, .int .i64 z], .agg #[.int .i64 x, .int .i64 y, .int .i64 z]] w fun e w' => e = .returned (.bool true) ∧ Below w.heap.size w w' := by
  go_enter Tryz.func53, Tryz.ntmps53
  go_wp2
  go_ret
  exact ⟨rfl, ((Below.refl _ _).alloc (Nat.le_refl _) _).alloc (by simp) _⟩

set_option maxHeartbeats 400000 in
set_option maxRecDepth 100000 in
theorem eqRows_same (A A' : Option Addr) (n c c' : Nat) (ts : List Row3) (w : World) (hr : ReadsR w w.heap.size A n ts) (hr' : ReadsR w w.heap.size A' n ts) (hn : n ≤ 1048576) :
    Calls Tryz.prog 28 #[.slice A n c, .slice A' n c'] w fun e w' => e = .returned (.bool true) ∧ Below w.heap.size w w' := by
  go_enter Tryz.func28, Tryz.ntmps28
  go_wp2
  go_loopw [5] (fun i wr => ∃ k : Nat, k ≤ n ∧ i = .int .i64 k ∧ Below w.heap.size w wr) (fun i _ => n - (intOf i).toNat)
  case atStart => exact ⟨0, Nat.zero_le _, rfl, Below.refl _ _⟩
  case round =>
    obtain ⟨k, hk, rfl, hbel⟩ := hrel
    by_cases hlt : k < n
    · obtain ⟨b, off, x, y, z, rfl, hb, hc1, hc2, hc3, hx⟩ := (hr.below hbel).at_ hlt
      obtain ⟨b', off', x', y', z', rfl, hb', hc1', hc2', hc3', hx'⟩ := (hr'.below hbel).at_ hlt
      obtain ⟨rfl, rfl, rfl⟩ : x = x' ∧ y = y' ∧ z = z' := by have := hx.out; rw [hx'.out] at this; injection this with this; injection this with a b; injection b with b c; exact ⟨a.symm, b.symm, c.symm⟩
      have g1 := cell_regrown hc1
      have g2 := cell_regrown hc2
      have g3 := cell_regrown hc3
      have g4 := cell_regrown hc1'
      have g5 := cell_regrown hc2'
      have g6 := cell_regrown hc3'
      go_wp2
      refine wp_region_quiet_below (by kernel_rfl) (by kernel_rfl) ?_
      repeat (first | go_big_quiet_step ((go_at_call 53; exact Calls.regrown_of (eqRow_same x y z _))) | quiet_step (fail))
      refine wpQuiet_nil ?_
      intro _ hw'
      obtain ⟨⟨dq, osq⟩, hw''⟩ := hw'
      subst hw''
      go_wp2
      go_roundw
      case rel => exact ⟨k + 1, by omega, by go_num, hbel.trans ((below_regrown wr dq osq).mono hbel.size)⟩
      case measure => simp [intOf]; omega
    · go_wp2
      go_ret
      exact ⟨rfl, hbel⟩

set_option maxHeartbeats 1000000 in
set_option maxRecDepth 100000 in
theorem eqCode_same (s : Cd) (A1 : Option Addr) (n1 c1 : Nat) (A2 : Option Addr) (n2 c2 : Nat) (A3 : Option Addr) (n3 c3 : Nat) (B1 : Option Addr) (d1 : Nat) (B2 : Option Addr) (d2 : Nat) (B3 : Option Addr) (d3 : Nat) (w : World)
    (hr : IsCd w w.heap.size s A1 n1 A2 n2 A3 n3) (hr' : IsCd w w.heap.size s B1 n1 B2 n2 B3 n3) (hs : SmallC s) :
    Calls Tryz.prog 9 #[cdV s A1 n1 c1 A2 n2 c2 A3 n3 c3, cdV s B1 n1 d1 B2 n2 d2 B3 n3 d3] w fun e w' => e = .returned (.bool true) ∧ Below w.heap.size w w' := by
  obtain ⟨l1, l2, l3⟩ := hs
  rw [hr.sites.1] at l1; rw [hr.ins.1] at l2; rw [hr.rows.1] at l3
  unfold cdV
  go_enter Tryz.func9, Tryz.ntmps9
  go_wp2_with fail
  have hb0 : Below w.heap.size w ((w.alloc (.cells #[.int .i64 s.params, .int .i64 s.vars, .slice A1 n1 c1, .slice A2 n2 c2, .slice A3 n3 c3] 30)).alloc (.cells #[.int .i64 s.params, .int .i64 s.vars, .slice B1 n1 d1, .slice B2 n2 d2, .slice B3 n3 d3] 30)) := ((Below.refl _ _).alloc (Nat.le_refl _) _).alloc (by simp) _
  have hx0 : Keep ((w.alloc (.cells #[.int .i64 s.params, .int .i64 s.vars, .slice A1 n1 c1, .slice A2 n2 c2, .slice A3 n3 c3] 30)).alloc (.cells #[.int .i64 s.params, .int .i64 s.vars, .slice B1 n1 d1, .slice B2 n2 d2, .slice B3 n3 d3] 30)) w.heap.size #[.int .i64 s.params, .int .i64 s.vars, .slice A1 n1 c1, .slice A2 n2 c2, .slice A3 n3 c3] 30 := (Keep.new _ _ _).alloc _
  have hy0 : Keep ((w.alloc (.cells #[.int .i64 s.params, .int .i64 s.vars, .slice A1 n1 c1, .slice A2 n2 c2, .slice A3 n3 c3] 30)).alloc (.cells #[.int .i64 s.params, .int .i64 s.vars, .slice B1 n1 d1, .slice B2 n2 d2, .slice B3 n3 d3] 30)) (w.heap.size + 1) #[.int .i64 s.params, .int .i64 s.vars, .slice B1 n1 d1, .slice B2 n2 d2, .slice B3 n3 d3] 30 := by
    have := Keep.new (w.alloc (.cells #[.int .i64 s.params, .int .i64 s.vars, .slice A1 n1 c1, .slice A2 n2 c2, .slice A3 n3 c3] 30)) #[.int .i64 s.params, .int .i64 s.vars, .slice B1 n1 d1, .slice B2 n2 d2, .slice B3 n3 d3] 30
    rw [World.size_alloc] at this
    exact this
  generalize hW0 : (w.alloc (.cells #[.int .i64 s.params, .int .i64 s.vars, .slice A1 n1 c1, .slice A2 n2 c2, .slice A3 n3 c3] 30)).alloc (.cells #[.int .i64 s.params, .int .i64 s.vars, .slice B1 n1 d1, .slice B2 n2 d2, .slice B3 n3 d3] 30) = W0 at hb0 hx0 hy0 ⊢
  clear hW0
  refine (eqInts_below A1 B1 n1 c1 d1 s.sites _ (hr.sites.now hb0) (hr'.sites.now hb0) l1).mono ?_
  rintro e W1 ⟨rfl, hc0⟩
  have hb1 : Below w.heap.size w W1 := hb0.trans (hc0.mono hb0.size)
  have hx1 := hx0.below hc0
  have hy1 := hy0.below hc0
  clear hx0 hy0 hc0 hb0
  have q1 := hx1.cell 3
  have q2 := hy1.cell 3
  simp at q1 q2
  go_wp2_with fail
  clear q1 q2
  refine (eqToks_sameI A2 B2 n2 c2 d2 s.ins _ (hr.ins.now hb1) (hr'.ins.now hb1) l2).mono ?_
  rintro e W2 ⟨rfl, hc1⟩
  have hb2 : Below w.heap.size w W2 := hb1.trans (hc1.mono hb1.size)
  have hx2 := hx1.below hc1
  have hy2 := hy1.below hc1
  clear hx1 hy1 hc1 hb1
  have q1 := hx2.cell 4
  have q2 := hy2.cell 4
  simp at q1 q2
  go_wp2_with fail
  clear q1 q2
  refine (eqRows_same A3 B3 n3 c3 d3 s.rows _ (hr.rows.now hb2) (hr'.rows.now hb2) l3).mono ?_
  rintro e W3 ⟨rfl, hc2⟩
  have hb3 : Below w.heap.size w W3 := hb2.trans (hc2.mono hb2.size)
  have hx3 := hx2.below hc2
  have hy3 := hy2.below hc2
  clear hx2 hy2 hc2 hb2
  go_wp2
  go_ret
  exact ⟨rfl, hb3⟩

end Go.Proofs.YtpmpjiigmjnniaaGreat

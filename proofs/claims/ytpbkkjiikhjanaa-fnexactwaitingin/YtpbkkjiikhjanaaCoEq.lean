/-
  The laws' comparing of images: one that reads the same is the same.
-/
import Derived.Test.YtpbkkjiikhjanaaCoTo2
namespace Go.Proofs.Ytpbkkjiikhjanaa
open Go.RowKit Exs

theorem eqInts_below (A A' : Option Addr) (n c c' : Nat) (xs : List Int) (w : World) (hr : Reads w w.heap.size .i64 A n xs) (hr' : Reads w w.heap.size .i64 A' n xs) (hn : n ≤ 1048576) :
    Calls Try.prog 8 #[.slice A n c, .slice A' n c'] w fun e w' => e = .returned (.bool true) ∧ Below w.heap.size w w' :=
  (eqInts_same A A' n c c' xs w hr hr' hn).mono fun _ _ ⟨he, q, hq⟩ => ⟨he, by rw [hq]; exact below_drewN (Below.refl _ _) _⟩

set_option maxHeartbeats 400000 in
theorem eqRow_same (x y z : Int) (w : World) : Calls Try.prog 32 #[.agg #[.int .i64 x, .int .i64 y, .int .i64 z], .agg #[.int .i64 x, .int .i64 y, .int .i64 z]] w fun e w' => e = .returned (.bool true) ∧ Below w.heap.size w w' := by
  go_enter Try.func32, Try.ntmps32
  go_wp2
  go_ret
  exact ⟨rfl, ((Below.refl _ _).alloc (Nat.le_refl _) _).alloc (by simp) _⟩

set_option maxHeartbeats 400000 in
set_option maxRecDepth 100000 in
theorem eqRows_same (A A' : Option Addr) (n c c' : Nat) (ts : List Row3) (w : World) (hr : ReadsR w w.heap.size A n ts) (hr' : ReadsR w w.heap.size A' n ts) (hn : n ≤ 1048576) :
    Calls Try.prog 24 #[.slice A n c, .slice A' n c'] w fun e w' => e = .returned (.bool true) ∧ Below w.heap.size w w' := by
  go_enter Try.func24, Try.ntmps24
  go_wp2
  go_loopw [5] (fun i wr => ∃ k : Nat, k ≤ n ∧ i = .int .i64 k ∧ Below w.heap.size w wr) (fun i _ => n - (intOf i).toNat)
  case atStart => exact ⟨0, Nat.zero_le _, rfl, Below.refl _ _⟩
  case round =>
    obtain ⟨k, hk, rfl, hbel⟩ := hrel
    by_cases hlt : k < n
    · obtain ⟨b, off, x, y, z, rfl, hb, hc1, hc2, hc3, hx⟩ := (hr.below hbel).at_ hlt
      obtain ⟨b', off', x', y', z', rfl, hb', hc1', hc2', hc3', hx'⟩ := (hr'.below hbel).at_ hlt
      obtain ⟨rfl, rfl, rfl⟩ : x = x' ∧ y = y' ∧ z = z' := by have := hx.out; rw [hx'.out] at this; injection this with this; injection this with a b; injection b with b c; exact ⟨a.symm, b.symm, c.symm⟩
      have g1 := cell_regrown hc1
      have g2 := cell_regrown hc2
      have g3 := cell_regrown hc3
      have g4 := cell_regrown hc1'
      have g5 := cell_regrown hc2'
      have g6 := cell_regrown hc3'
      go_wp2
      refine wp_region_quiet_below (by kernel_rfl) (by kernel_rfl) ?_
      repeat (first | go_big_quiet_step ((go_at_call 32; exact Calls.regrown_of (eqRow_same x y z _))) | quiet_step (fail))
      refine wpQuiet_nil ?_
      intro _ hw'
      obtain ⟨⟨dq, osq⟩, hw''⟩ := hw'
      subst hw''
      go_wp2
      go_roundw
      case rel => exact ⟨k + 1, by omega, by go_num, hbel.trans ((below_regrown wr dq osq).mono hbel.size)⟩
      case measure => simp [intOf]; omega
    · go_wp2
      go_ret
      exact ⟨rfl, hbel⟩

end Go.Proofs.Ytpbkkjiikhjanaa

/-
  Contracts of the laws' own marks on instructions.
-/
import Derived.Test.YtfdijeeilfhjeaaDoorMarks
namespace Go.Proofs.YtfdijeeilfhjeaaDoor
open Go.RowKit Exs

set_option maxHeartbeats 400000 in
set_option maxRecDepth 100000 in
theorem markI_any (g n : Nat) (xs : List Int) (w : World) (hr : Room w g 42 (2 * n) .i64 xs) (hn : n ≤ 1048576) :
    Calls Tryd.prog 11 #[.slice (some ⟨g, 0, none⟩) n n, .int .i64 1] w fun e w' => e = .returned (.int .i64 (2 * (n : Int) + 1)) ∧ Room w' g 42 (2 * n) .i64 (ups (2 * n)) ∧ w.grownBy w' (some g) := by
  go_enter Tryd.func11, Tryd.ntmps11
  go_wp2
  go_loopw [1, 5] (fun u i wr => ∃ k : Nat, k ≤ n ∧ i = .int .i64 k ∧ u = .int .i64 (2 * (k : Int) + 1) ∧ Room wr g 42 (2 * n) .i64 (ups (2 * k)) ∧ w.grownBy wr (some g)) (fun _ i _ => n - (intOf i).toNat)
  case atStart => exact ⟨0, Nat.zero_le _, rfl, rfl, hr.none_, World.grownBy.refl _ _⟩
  case round =>
    obtain ⟨k, hk, rfl, rfl, hroom, hg⟩ := hrel
    by_cases hlt : k < n
    · obtain ⟨c0, hc0⟩ := hroom.at_ (k * 2) (by omega)
      have hfr := hroom.frozen (k * 2)
      have hpush := hroom.push (by rw [ups_length]; omega) (2 * (k : Int) + 1)
      rw [ups_length, Nat.mul_comm 2 k, show (2 * (k : Int) + 1) = ((k * 2 : Nat) : Int) + 1 by omega, ← ups_more, show ((k * 2 : Nat) : Int) + 1 = 2 * (k : Int) + 1 by omega] at hpush
      have hpush2 := hpush.push (by rw [ups_length]; omega) (2 * (k : Int) + 1 + 1)
      rw [ups_length, show (2 * (k : Int) + 1 + 1) = ((k * 2 + 1 : Nat) : Int) + 1 by omega, ← ups_more, show ((k * 2 + 1 : Nat) : Int) + 1 = 2 * (k : Int) + 1 + 1 by omega, show k * 2 + 1 + 1 = 2 * (k + 1) by omega] at hpush2
      obtain ⟨c1, hc1⟩ := hroom.at_ (k * 2 + 1) (by omega)
      have hfr1 := hroom.frozen (k * 2 + 1)
      have HP := put hpush2; clear hpush hpush2
      go_wp2
      go_roundw
      case rel => exact ⟨k + 1, by omega, by go_num, by first | (congr 1; done) | (congr 1; omega), HP.out, grownBy_set (grownBy_set hg (k * 2) _) (k * 2 + 1) _⟩
      case measure => simp [intOf]; omega
    · obtain rfl : k = n := by omega
      go_wp2
      go_ret
      exact ⟨rfl, hroom, hg⟩

set_option maxHeartbeats 400000 in
set_option maxRecDepth 100000 in
theorem heldI_any (g n : Nat) (w : World) (hr : Room w g 42 (2 * n) .i64 (ups (2 * n))) (hn : n ≤ 1048576) :
    Calls Tryd.prog 12 #[.slice (some ⟨g, 0, none⟩) n n, .int .i64 1] w fun e w' => e = .returned (.int .i64 (2 * (n : Int) + 1)) ∧ w = w' := by
  go_enter Tryd.func12, Tryd.ntmps12
  go_wp2
  go_loop [1, 5] (fun u i => ∃ k : Nat, k ≤ n ∧ i = .int .i64 k ∧ u = .int .i64 (2 * (k : Int) + 1)) (fun _ i => n - (intOf i).toNat)
  case atStart => exact ⟨0, Nat.zero_le _, rfl, rfl⟩
  case round =>
    obtain ⟨k, hk, rfl, rfl⟩ := hrel
    by_cases hlt : k < n
    · have hc := hr.cell (k * 2) (by rw [ups_length]; omega)
      rw [ups_get (by omega), show ((k * 2 : Nat) : Int) + 1 = 2 * (k : Int) + 1 by omega] at hc
      have hc2 := hr.cell (k * 2 + 1) (by rw [ups_length]; omega)
      rw [ups_get (by omega), show ((k * 2 + 1 : Nat) : Int) + 1 = 2 * (k : Int) + 1 + 1 by omega] at hc2
      go_wp2
      go_round
      case rel => exact ⟨k + 1, by omega, by go_num, by first | (congr 1; done) | (congr 1; omega)⟩
      case measure => simp [intOf]; omega
    · obtain rfl : k = n := by omega
      go_wp2
      go_ret
      exact ⟨rfl, rfl⟩

set_option maxHeartbeats 400000 in
set_option maxRecDepth 100000 in
theorem markI_nil (w : World) : Calls Tryd.prog 11 #[.slice none 0 0, .int .i64 1] w fun e w' => e = .returned (.int .i64 1) ∧ w = w' := by
  go_enter Tryd.func11, Tryd.ntmps11
  go_wp2
  refine wp_loop_rounds 1 ?_
  rw [rounds_succ]
  go_wp2
  go_ret
  exact ⟨rfl, rfl⟩

set_option maxHeartbeats 400000 in
set_option maxRecDepth 100000 in
theorem heldI_nil (w : World) : Calls Tryd.prog 12 #[.slice none 0 0, .int .i64 1] w fun e w' => e = .returned (.int .i64 1) ∧ w = w' := by
  go_enter Tryd.func12, Tryd.ntmps12
  go_wp2
  refine wp_loop_rounds 1 ?_
  rw [rounds_succ]
  go_wp2
  go_ret
  exact ⟨rfl, rfl⟩

end Go.Proofs.YtfdijeeilfhjeaaDoor

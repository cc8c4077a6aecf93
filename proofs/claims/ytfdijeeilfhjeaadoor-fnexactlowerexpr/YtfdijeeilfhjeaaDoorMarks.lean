/-
  Contracts of the laws' own marks on tokens.
-/
import Derived.Test.YtfdijeeilfhjeaaDoorTokMem
namespace Go.Proofs.YtfdijeeilfhjeaaDoor
open Go.RowKit Exs

/-- The numbers 1, 2, .. -/
def ups (n : Nat) : List Int := (List.range n).map fun j => ((j + 1 : Nat) : Int)
theorem ups_more (n : Nat) : ups (n + 1) = ups n ++ [(n : Int) + 1] := by simp [ups, List.range_succ]
theorem ups_length (n : Nat) : (ups n).length = n := by simp [ups]
theorem ups_get {n i : Nat} (h : i < n) : (ups n).getD i 0 = (i : Int) + 1 := by
  simp [ups, List.getD, h]

theorem Room.none_ {w : World} {g : Nat} {t : TypeId} {c : Nat} {k : IntKind} {xs : List Int} (h : Room w g t c k xs) : Room w g t c k [] := by
  obtain ⟨cs, h1, h2, _⟩ := h
  exact ⟨cs, h1, h2, rfl⟩

theorem grownBy_set {a w : World} {g : Nat} (h : a.grownBy w (some g)) (j : Nat) (u : Value) : a.grownBy (w.setCell ⟨g, j, none⟩ u) (some g) :=
  ⟨h.os, h.tape, h.output, by simpa [World.setCell] using h.size, fun i hi hne => (Below.heap_setCell w ⟨g, j, none⟩ u i (fun e => hne (by rw [e]))).trans (h.block i hi hne)⟩

set_option maxHeartbeats 400000 in
set_option maxRecDepth 100000 in
theorem mark_any (g n : Nat) (xs : List Int) (w : World) (hr : Room w g 38 (2 * n) .i64 xs) (hn : n ≤ 1048576) :
    Calls Tryd.prog 10 #[.slice (some ⟨g, 0, none⟩) n n, .int .i64 1] w fun e w' => e = .returned (.int .i64 (2 * (n : Int) + 1)) ∧ Room w' g 38 (2 * n) .i64 (ups (2 * n)) ∧ w.grownBy w' (some g) := by
  go_enter Tryd.func10, Tryd.ntmps10
  go_wp2
  go_loopw [1, 5] (fun u i wr => ∃ k : Nat, k ≤ n ∧ i = .int .i64 k ∧ u = .int .i64 (2 * (k : Int) + 1) ∧ Room wr g 38 (2 * n) .i64 (ups (2 * k)) ∧ w.grownBy wr (some g)) (fun _ i _ => n - (intOf i).toNat)
  case atStart => exact ⟨0, Nat.zero_le _, rfl, rfl, hr.none_, World.grownBy.refl _ _⟩
  case round =>
    obtain ⟨k, hk, rfl, rfl, hroom, hg⟩ := hrel
    by_cases hlt : k < n
    · obtain ⟨c0, hc0⟩ := hroom.at_ (k * 2) (by omega)
      have hfr := hroom.frozen (k * 2)
      have hpush := hroom.push (by rw [ups_length]; omega) (2 * (k : Int) + 1)
      rw [ups_length, Nat.mul_comm 2 k, show (2 * (k : Int) + 1) = ((k * 2 : Nat) : Int) + 1 by omega, ← ups_more, show ((k * 2 : Nat) : Int) + 1 = 2 * (k : Int) + 1 by omega] at hpush
      have hpush2 := hpush.push (by rw [ups_length]; omega) (2 * (k : Int) + 1 + 1)
      rw [ups_length, show (2 * (k : Int) + 1 + 1) = ((k * 2 + 1 : Nat) : Int) + 1 by omega, ← ups_more, show ((k * 2 + 1 : Nat) : Int) + 1 = 2 * (k : Int) + 1 + 1 by omega, show k * 2 + 1 + 1 = 2 * (k + 1) by omega] at hpush2
      obtain ⟨c1, hc1⟩ := hroom.at_ (k * 2 + 1) (by omega)
      have hfr1 := hroom.frozen (k * 2 + 1)
      have HP := put hpush2; clear hpush hpush2
      go_wp2
      go_roundw
      case rel => exact ⟨k + 1, by omega, by go_num, by first | (congr 1; done) | (congr 1; omega), HP.out, grownBy_set (grownBy_set hg (k * 2) _) (k * 2 + 1) _⟩
      case measure => simp [intOf]; omega
    · obtain rfl : k = n := by omega
      go_wp2
      go_ret
      exact ⟨rfl, hroom, hg⟩

set_option maxHeartbeats 400000 in
set_option maxRecDepth 100000 in
theorem mark_nil (w : World) : Calls Tryd.prog 10 #[.slice none 0 0, .int .i64 1] w fun e w' => e = .returned (.int .i64 1) ∧ w = w' := by
  go_enter Tryd.func10, Tryd.ntmps10
  go_wp2
  refine wp_loop_rounds 1 ?_
  rw [rounds_succ]
  go_wp2
  go_ret
  exact ⟨rfl, rfl⟩

end Go.Proofs.YtfdijeeilfhjeaaDoor

/-
  The laws' own sameInts and big.
-/
import Derived.Test.YtfdijeeilfhjeaaPrMath
import Derived.Deep.QuietTactic
namespace Go.Proofs.Ytfdijeeilfhjeaa
open Go.RowKit Exs

set_option maxHeartbeats 400000 in
set_option maxRecDepth 100000 in
theorem sameInts_same (A A' : Option Addr) (n c c' : Nat) (xs : List Int) (w : World) (hr : Reads w w.heap.size .i64 A n xs) (hr' : Reads w w.heap.size .i64 A' n xs) (hn : n ≤ 1048576) :
    Calls Try.prog 37 #[.slice A n c, .slice A' n c'] w fun e w' => e = .returned (.bool true) ∧ ∃ q, w' = w.drewN q := by
  go_enter Try.func37, Try.ntmps37
  go_wp2
  go_loopw [13] (fun i wr => ∃ k q : Nat, k ≤ n ∧ i = .int .i64 k ∧ wr = w.drewN q) (fun i _ => n - (intOf i).toNat)
  case atStart => exact ⟨0, 0, Nat.zero_le _, rfl, rfl⟩
  case round =>
    obtain ⟨k, q, hk, rfl, rfl⟩ := hrel
    by_cases hlt : k < n
    · obtain ⟨b, off, x, rfl, hb, hc, hx⟩ := hr.at_ hlt
      obtain ⟨b', off', x', rfl, hb', hc', hx'⟩ := hr'.at_ hlt
      obtain rfl : x = x' := by have := hx.out; rw [hx'.out] at this; injection this with this; exact this.symm
      go_wp2
      go_quiet (fail)
      go_wp2
      go_roundw
      case rel => exact ⟨k + 1, _, by omega, by go_num, rfl⟩
      case measure => simp [intOf]; omega
    · go_wp2
      go_ret
      exact ⟨rfl, _, rfl⟩
theorem sameNums_any (v v' : Value) (xs : List Int) (B B' : Nat) (w : World) (h : Nums w B 3 .i64 v xs) (h' : Nums w B' 3 .i64 v' xs) (hn : xs.length ≤ 1048576) :
    Calls Try.prog 37 #[v, v'] w fun e w' => e = .returned (.bool true) ∧ Below w.heap.size w w' := by
  obtain ⟨A, c, rfl, hr⟩ := h.reads
  obtain ⟨A', c', rfl, hr'⟩ := h'.reads
  refine (sameInts_same A A' _ c c' xs w hr hr' hn).mono ?_
  rintro e w' ⟨rfl, q, rfl⟩
  exact ⟨rfl, rfl, rfl, rfl, Nat.le_refl _, fun _ _ => rfl⟩

set_option maxHeartbeats 400000 in
set_option maxRecDepth 100000 in
theorem big_no (A A' : Option Addr) (n n' c c' : Nat) (w : World) (h : n + n' ≤ 1048576) :
    Calls Try.prog 29 #[.slice A n c, .slice A' n' c'] w fun e w' => e = .returned (.bool false) ∧ w = w' := by
  have b1 : decide ((1048576 : Int) < (n : Int)) = false := by simp; omega
  have b2 : decide ((1048576 : Int) - (n : Int) < (n' : Int)) = false := by simp; omega
  go_enter Try.func29, Try.ntmps29
  go_wp2
  go_ret
  exact ⟨rfl, rfl⟩

set_option maxHeartbeats 400000 in
set_option maxRecDepth 100000 in
theorem big_yes (A A' : Option Addr) (n n' c c' : Nat) (w : World) (h : 1048576 < n + n') (hn : n ≤ 9223372036854775807) (_hn' : n' ≤ 9223372036854775807) :
    Calls Try.prog 29 #[.slice A n c, .slice A' n' c'] w fun e w' => e = .returned (.bool true) ∧ w = w' := by
  by_cases h1 : (1048576 : Int) < (n : Int)
  · have b1 : decide ((1048576 : Int) < (n : Int)) = true := by simpa using h1
    go_enter Try.func29, Try.ntmps29
    go_wp2
    go_ret
    exact ⟨rfl, rfl⟩
  · have b1 : decide ((1048576 : Int) < (n : Int)) = false := by simpa using h1
    have b2 : decide ((1048576 : Int) - (n : Int) < (n' : Int)) = true := by simp; omega
    go_enter Try.func29, Try.ntmps29
    go_wp2
    go_ret
    exact ⟨rfl, rfl⟩

end Go.Proofs.Ytfdijeeilfhjeaa

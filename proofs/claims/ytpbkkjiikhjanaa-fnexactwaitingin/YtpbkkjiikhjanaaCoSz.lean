/-
  The laws' counting of an image's values.
-/
import Derived.Test.YtpbkkjiikhjanaaCod
namespace Go.Proofs.Ytpbkkjiikhjanaa
open Go.RowKit Exs

def szA (m : Nat) (left : Int) : Int := if (m : Int) ≤ left then left - m else -1
theorem szA_fit {m : Nat} {left : Int} (h : (m : Int) ≤ left) : szA m left = left - m := by simp [szA, h]
theorem szA_no {m : Nat} {left : Int} (h : left < (m : Int)) : szA m left = -1 := by simp [szA]; omega

set_option maxHeartbeats 400000 in
theorem szInts_any (A : Option Addr) (n c : Nat) (left : Int) (w : World) (hn : n ≤ maxLen) (h0 : 0 ≤ left) (h1 : left ≤ 1048576) : Calls Try.prog 14 #[.slice A n c, .int .i64 left] w fun e w' => e = .returned (.int .i64 (szA n left)) ∧ w = w' := by
  unfold maxLen at hn
  by_cases h : (n : Int) ≤ left
  · rw [szA_fit h]
    go_enter Try.func14, Try.ntmps14
    go_wp2
    go_ret
    exact ⟨rfl, rfl⟩
  · have h := Int.not_le.1 h
    rw [szA_no h]
    go_enter Try.func14, Try.ntmps14
    go_wp2
    go_ret
    exact ⟨rfl, rfl⟩
set_option maxHeartbeats 400000 in
theorem szRows_any (A : Option Addr) (n c : Nat) (left : Int) (w : World) (hn : n ≤ maxLen) (h0 : 0 ≤ left) (h1 : left ≤ 1048576) : Calls Try.prog 15 #[.slice A n c, .int .i64 left] w fun e w' => e = .returned (.int .i64 (szA n left)) ∧ w = w' := by
  unfold maxLen at hn
  by_cases h : (n : Int) ≤ left
  · rw [szA_fit h]
    go_enter Try.func15, Try.ntmps15
    go_wp2
    go_ret
    exact ⟨rfl, rfl⟩
  · have h := Int.not_le.1 h
    rw [szA_no h]
    go_enter Try.func15, Try.ntmps15
    go_wp2
    go_ret
    exact ⟨rfl, rfl⟩

/-- Slices no longer than memory lets them be. -/
def LongC (s : Cd) : Prop := s.sites.length ≤ maxLen ∧ s.ins.length ≤ maxLen ∧ s.rows.length ≤ maxLen
def LongI (cs : List Cd) : Prop := cs.length ≤ maxLen ∧ ∀ c ∈ cs, LongC c

end Go.Proofs.Ytpbkkjiikhjanaa

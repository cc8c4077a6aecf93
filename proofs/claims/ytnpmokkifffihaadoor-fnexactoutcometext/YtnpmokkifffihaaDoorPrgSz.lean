/-
  The laws' counting of a program's values.
-/
import Derived.Test.YtnpmokkifffihaaDoorPrg
namespace Go.Proofs.YtnpmokkifffihaaDoor
open Go.RowKit Exs

def szA (m : Nat) (left : Int) : Int := if (m : Int) ≤ left then left - m else -1
theorem szA_fit {m : Nat} {left : Int} (h : (m : Int) ≤ left) : szA m left = left - m := by simp [szA, h]
theorem szA_no {m : Nat} {left : Int} (h : left < (m : Int)) : szA m left = -1 := by simp [szA]; omega

set_option maxHeartbeats 400000 in
theorem szInts_any (A : Option Addr) (n c : Nat) (left : Int) (w : World) (hn : n ≤ maxLen) (h0 : 0 ≤ left) (h1 : left ≤ 1048576) : Calls Tryd.prog 9 #[.slice A n c, .int .i64 left] w fun e w' => e = .returned (.int .i64 (szA n left)) ∧ w = w' := by
  unfold maxLen at hn
  by_cases h : (n : Int) ≤ left
  · rw [szA_fit h]
    go_enter Tryd.func9, Tryd.ntmps9
    go_wp2
    go_ret
    exact ⟨rfl, rfl⟩
  · have h := Int.not_le.1 h
    rw [szA_no h]
    go_enter Tryd.func9, Tryd.ntmps9
    go_wp2
    go_ret
    exact ⟨rfl, rfl⟩
/-- Slices no longer than memory lets them be. -/
def LongS (s : St) : Prop := s.ex.length ≤ maxLen ∧ s.th.length ≤ maxLen ∧ s.el.length ≤ maxLen
def LongF (f : Fc) : Prop := f.body.length ≤ maxLen ∧ f.stmts.length ≤ maxLen ∧ ∀ s ∈ f.stmts, LongS s
def LongP (fs : List Fc) : Prop := fs.length ≤ maxLen ∧ ∀ f ∈ fs, LongF f

end Go.Proofs.YtnpmokkifffihaaDoor

/-
  The laws' counting of a program's values.
-/
import Derived.Test.YtkfdehmmhgcapaaPrg
namespace Go.Proofs.Ytkfdehmmhgcapaa
open Go.RowKit Exs

def szA (m : Nat) (left : Int) : Int := if (m : Int) ≤ left then left - m else -1
theorem szA_fit {m : Nat} {left : Int} (h : (m : Int) ≤ left) : szA m left = left - m := by simp [szA, h]
theorem szA_no {m : Nat} {left : Int} (h : left < (m : Int)) : szA m left = -1 := by simp [szA]; omega

/-- Slices no longer than memory lets them be. -/
def LongS (s : St) : Prop := s.ex.length ≤ maxLen ∧ s.th.length ≤ maxLen ∧ s.el.length ≤ maxLen
def LongF (f : Fc) : Prop := f.body.length ≤ maxLen ∧ f.stmts.length ≤ maxLen ∧ ∀ s ∈ f.stmts, LongS s
def LongP (fs : List Fc) : Prop := fs.length ≤ maxLen ∧ ∀ f ∈ fs, LongF f

end Go.Proofs.Ytkfdehmmhgcapaa

/-
  The program's small functions on statements: contracts.
-/
import Derived.Test.YtaogdaoiijmmhaaPrgTo2
import Derived.Test.YtaogdaoiijmmhaaHigh
namespace Go.Proofs.Ytaogdaoiijmmhaa
open Go.RowKit Exs

/-- Whether an expression is good, as both sides say it. -/
def ge (ts : List Token) (vars : Int) (ps : List Int) : Bool := (highAns ts vars ps).2

def hasEx (s : St) : Bool := decide (s.kind ≠ 3 ∧ s.kind ≠ 6)
def manyN (kind vars : Int) : Int := if kind = 1 then vars else if kind = 3 then 5 else 1

set_option maxHeartbeats 400000 in
theorem hasExpr_any (s : St) (A1 : Option Addr) (n1 c1 : Nat) (A2 : Option Addr) (n2 c2 : Nat) (A3 : Option Addr) (n3 c3 : Nat) (w : World) :
    Calls Try.prog 49 #[stV s A1 n1 c1 A2 n2 c2 A3 n3 c3] w fun e w' => e = .returned (.bool (hasEx s)) ∧ Below w.heap.size w w' := by
  unfold stV
  go_enter Try.func49, Try.ntmps49
  go_wp2
  all_goals go_ret
  all_goals refine ⟨ret_bool ?_, (Below.refl _ _).alloc (Nat.le_refl _) _⟩
  all_goals rw [Bool.eq_iff_iff]
  all_goals simp [hasEx]
  all_goals (try omega)

set_option maxHeartbeats 400000 in
theorem manyNamed_any (kind vars : Int) (w : World) : Calls Try.prog 59 #[.int .i64 kind, .int .i64 vars] w fun e w' => e = .returned (.int .i64 (manyN kind vars)) ∧ Below w.heap.size w w' := by
  go_enter Try.func59, Try.ntmps59
  go_wp2
  all_goals go_ret
  all_goals refine ⟨ret_int ?_, Below.refl _ _⟩
  all_goals simp only [beq_iff_eq, beq_eq_false_iff_ne] at *
  all_goals simp [manyN, *]

def fieldsB (s : St) (vars : Int) : Bool :=
  decide (1 ≤ s.kind ∧ s.kind ≤ 9 ∧ (0 < s.th.length → s.kind = 7 ∨ s.kind = 8) ∧ (0 < s.el.length → s.kind = 7) ∧ (s.kind = 3 ∨ s.kind = 6 → s.ex.length = 0) ∧ 0 ≤ s.n ∧ s.n < manyN s.kind vars)
theorem fieldsB_iff (s : St) (vars : Int) : fieldsB s vars = true ↔ (1 ≤ s.kind ∧ s.kind ≤ 9 ∧ (0 < s.th.length → s.kind = 7 ∨ s.kind = 8) ∧ (0 < s.el.length → s.kind = 7) ∧ (s.kind = 3 ∨ s.kind = 6 → s.ex.length = 0) ∧ 0 ≤ s.n ∧ s.n < manyN s.kind vars) := by
  unfold fieldsB; exact decide_eq_true_iff
theorem hasEx_iff (s : St) : hasEx s = true ↔ s.kind ≠ 3 ∧ s.kind ≠ 6 := by simp [hasEx]

end Go.Proofs.Ytaogdaoiijmmhaa

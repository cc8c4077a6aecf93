/-
  ParamsOf on both sides: contracts.
-/
import Derived.Test.YtaogdaoiijmmhaaPEq4
import Derived.Test.YtaogdaoiijmmhaaOwn
namespace Go.Proofs.Ytaogdaoiijmmhaa
open Go.RowKit Exs

theorem retL {v : Value} {b b' : Bool} (h : b = b') : Ending.returned (.tuple #[v, .bool b]) = .returned (.tuple #[v, .bool b']) := by rw [h]
def parAns (fs : List Fc) : List Int × Bool := if progB fs then (paramsL fs, true) else ([], false)
theorem progB_len {fs : List Fc} (h : progB fs = true) : fs.length ≤ 5 := by
  simp only [progB, Bool.and_eq_true, decide_eq_true_eq] at h
  exact h.1.1.2
theorem parAns_len (fs : List Fc) : (parAns fs).1.length ≤ 1048576 := by
  unfold parAns
  split
  · rename_i h
    have := progB_len h
    simp [paramsL]; omega
  · simp

end Go.Proofs.Ytaogdaoiijmmhaa

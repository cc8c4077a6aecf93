/-
  The program's search for params that fit: its contract.
-/
import Derived.Test.YtaogdaoiijmmhaaFork
import Derived.Test.YtaogdaoiijmmhaaShape
import Derived.Deep.RegionLaw
namespace Go.Proofs.Ytaogdaoiijmmhaa
open Go.RowKit Exs

/-- Whether params of which the first ones are these fit. -/
def fit (f : Fc) : Nat → List Int → Bool
  | 0, ps => exprsB f ps
  | k + 1, ps => fit f k (ps ++ [0]) || (fit f k (ps ++ [1]) || fit f k (ps ++ [2]))
theorem fit_at {f : Fc} {k : Nat} {ps : List Int} {j : Nat} (hj : j < 3) (h : fit f k (ps ++ [(j : Int)]) = true) : fit f (k + 1) ps = true := by
  unfold fit
  match j, hj, h with
  | 0, _, h => simp at h; simp [h]
  | 1, _, h => simp at h; simp [h]
  | 2, _, h => simp at h; simp [h]
theorem fit_none {f : Fc} {k : Nat} {ps : List Int} (h : ∀ j : Nat, j < 3 → fit f k (ps ++ [(j : Int)]) = false) : fit f (k + 1) ps = false := by
  unfold fit
  have h0 := h 0 (by omega)
  have h1 := h 1 (by omega)
  have h2 := h 2 (by omega)
  simp at h0 h1 h2
  simp [h0, h1, h2]

end Go.Proofs.Ytaogdaoiijmmhaa

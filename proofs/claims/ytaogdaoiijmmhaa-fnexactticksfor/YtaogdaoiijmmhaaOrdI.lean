/-
  The program's OrderOf: its contract.
-/
import Derived.Test.YtaogdaoiijmmhaaColl
import Derived.Test.YtaogdaoiijmmhaaAlo
namespace Go.Proofs.Ytaogdaoiijmmhaa
open Go.RowKit Go.Shelf Exs
attribute [local go_sem] Oper.semAt_some

def ordAns (f : Fc) : List Int × Bool := if aloneB f then (run 0 f.stmts.length, true) else ([], false)
theorem run_more (m : Nat) : run 0 (m + 1) = run 0 m ++ [(m : Int)] := by simp [run, List.range'_concat]
theorem ordAns_len (f : Fc) : (ordAns f).1.length ≤ 1048576 := by
  unfold ordAns
  split
  · rename_i h
    have := (alone_head h).1
    simp only [run_length]; omega
  · simp
theorem alone_go {f : Fc} (h : aloneB f = true) : go f f.stmts.length f.body false 0 = some f.stmts.length := by
  have h1 := (alone_head h).2
  simp only [shapeB, Bool.and_eq_true] at h1
  have h2 := h1.2
  unfold placesB at h2
  simpa using h2

end Go.Proofs.Ytaogdaoiijmmhaa

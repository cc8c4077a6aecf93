/-
  Rows that came in, opened to what the walks ask.
-/
import Derived.Test.YtkfdehmmhgcapaaArgsC
namespace Go.Proofs.Ytkfdehmmhgcapaa
open Go.ChangeShapes Go.WideShapes Go.ChangeAt Go.RowKit Go.Deep Exs

set_option maxRecDepth 100000 in
theorem open_rowsA {H : Type} {enc : TypeId × Value → H} {w : World} {held : Bool} {r : Reach} {b0 : Nat} {v : Value} {d : DataW H} {p : List MemPlace} (hv : Value.okWide Try.prog w r b0 22 v) (h : DataW.Trod enc Try.prog w 0 (fun _ => true) held 22 v d p) :
    ∃ A n c rs, v = .slice A n c ∧ ReadsR w w.heap.size A n rs ∧ n ≤ maxLen := by
  obtain ⟨A, n, c, rfl⟩ := okWide_slice Try.underlying22 hv
  obtain ⟨fuel, hf⟩ := h
  obtain ⟨A', m, c', rs, e, hr, hm⟩ := cell_rows (v := .slice A n c) (show DataW.trod enc Try.prog w 0 (fun _ => true) held fuel 22 [.slice A n c] = some (d, p) from hf)
  injection e with e1 e2 e3
  subst e1 e2 e3
  exact ⟨_, _, _, rs, rfl, hr, hm⟩

end Go.Proofs.Ytkfdehmmhgcapaa

/-
  The laws' comparing of programs: one that reads the same is the same.
-/
import Derived.Test.YtkfdehmmhgcapaaPrgTo2
import Derived.Test.YtkfdehmmhgcapaaNeeds
namespace Go.Proofs.Ytkfdehmmhgcapaa
open Go.RowKit Exs

theorem eqInts_below (A A' : Option Addr) (n c c' : Nat) (xs : List Int) (w : World) (hr : Reads w w.heap.size .i64 A n xs) (hr' : Reads w w.heap.size .i64 A' n xs) (hn : n ≤ 1048576) :
    Calls Try.prog 20 #[.slice A n c, .slice A' n c'] w fun e w' => e = .returned (.bool true) ∧ Below w.heap.size w w' :=
  (eqInts_same A A' n c c' xs w hr hr' hn).mono fun _ _ ⟨he, q, hq⟩ => ⟨he, by rw [hq]; exact below_drewN (Below.refl _ _) _⟩

end Go.Proofs.Ytkfdehmmhgcapaa

/-
  The contracts of SameOutcome and TraceBegins at outcomes that the law has copied.
-/
import Derived.Test.YtnpmokkifffihaaOcT
namespace Go.Proofs.Ytnpmokkifffihaa
open Go.RowKit Go.Deep Exs

theorem specSameOutcome_m (o p : Oc) (A : Option Addr) (n c : Nat) (B : Option Addr) (m : Nat) (w : World) (L : Nat) (hr : Reads w w.heap.size .i64 A n o.trace) (hr' : MInts w L B m p.trace) (hs : n ≤ 1048576) (hs' : m ≤ 1048576) :
    Calls Try.prog 7 #[ocV o A n c, ocV p B m m] w fun e w' => e = .returned (.bool (sameAns o p)) ∧ Below w.heap.size w w' := specSameOutcome_any o p A n c B m m w hr hr'.reads hs hs'
theorem sameOutcome_m (o p : Oc) (A : Option Addr) (n c : Nat) (B : Option Addr) (m : Nat) (w : World) (L : Nat) (hr : Reads w w.heap.size .i64 A n o.trace) (hr' : MInts w L B m p.trace) (hs : n ≤ 1048576) (hs' : m ≤ 1048576) :
    Calls Try.prog 9 #[ocV o A n c, ocV p B m m] w fun e w' => e = .returned (.bool (sameAns o p)) ∧ Below w.heap.size w w' := sameOutcome_any o p A n c B m m w hr hr'.reads hs hs'
theorem specTraceBegins_m (o p : Oc) (A : Option Addr) (n c : Nat) (B : Option Addr) (m : Nat) (w : World) (L : Nat) (hr : Reads w w.heap.size .i64 A n o.trace) (hr' : MInts w L B m p.trace) (hs : n ≤ 1048576) (_ : m ≤ 1048576) :
    Calls Try.prog 11 #[ocV o A n c, ocV p B m m] w fun e w' => e = .returned (.bool (beginsAns o p)) ∧ Below w.heap.size w w' := by
  have h := hr'.reads
  obtain ⟨g, rfl, _⟩ := hr'
  exact specTraceBegins_any o p A n c g 0 m m w hr h hs (Nat.le_refl _)
theorem traceBegins_m (o p : Oc) (A : Option Addr) (n c : Nat) (B : Option Addr) (m : Nat) (w : World) (L : Nat) (hr : Reads w w.heap.size .i64 A n o.trace) (hr' : MInts w L B m p.trace) (hs : n ≤ 1048576) (_ : m ≤ 1048576) :
    Calls Try.prog 12 #[ocV o A n c, ocV p B m m] w fun e w' => e = .returned (.bool (beginsAns o p)) ∧ Below w.heap.size w w' := by
  have h := hr'.reads
  obtain ⟨g, rfl, _⟩ := hr'
  exact traceBegins_any o p A n c g 0 m m w hr h hs (Nat.le_refl _)

theorem toOutcome_v (o : Oc) (A : Option Addr) (n c : Nat) (w : World) (hr : Reads w w.heap.size .i64 A n o.trace) (hs : n ≤ 1048576) :
    Calls Try.prog 8 #[ocV o A n c] w fun e w' => ∃ B, e = .returned (.agg #[.int .i64 o.code, .int .i64 o.value, .slice B n n, .int .i64 o.used]) ∧ MInts w' w.heap.size B n o.trace ∧ Below w.heap.size w w' := toOutcome_any o A n c w hr hs

end Go.Proofs.Ytnpmokkifffihaa

/-
  The contracts of FirstApart at outcomes that the law has copied.
-/
import Derived.Test.YtaogdaoiijmmhaaFa
namespace Go.Proofs.Ytaogdaoiijmmhaa
open Go.RowKit Go.Deep Exs

theorem specFirstApart_m (o p : Oc) (A : Option Addr) (n c : Nat) (B : Option Addr) (m : Nat) (w : World) (L : Nat) (hr : Reads w w.heap.size .i64 A n o.trace) (hr' : MInts w L B m p.trace) (hs : n ≤ 1048576) (hs' : m ≤ 1048576) :
    Calls Try.prog 6 #[ocV o A n c, ocV p B m m] w fun e w' => e = .returned (.tuple #[.int .i64 (faAns o p).1, .bool (faAns o p).2]) ∧ Below w.heap.size w w' := specFirstApart_any o p A n c B m m w hr hr'.reads hs hs'
theorem firstApart_m (o p : Oc) (A : Option Addr) (n c : Nat) (B : Option Addr) (m : Nat) (w : World) (L : Nat) (hr : Reads w w.heap.size .i64 A n o.trace) (hr' : MInts w L B m p.trace) (hs : n ≤ 1048576) (hs' : m ≤ 1048576) :
    Calls Try.prog 8 #[ocV o A n c, ocV p B m m] w fun e w' => e = .returned (.tuple #[.int .i64 (faAns o p).1, .bool (faAns o p).2]) ∧ Below w.heap.size w w' := firstApart_any o p A n c B m m w hr hr'.reads hs hs'
theorem toOutcome_v (o : Oc) (A : Option Addr) (n c : Nat) (w : World) (hr : Reads w w.heap.size .i64 A n o.trace) (hs : n ≤ 1048576) :
    Calls Try.prog 7 #[ocV o A n c] w fun e w' => ∃ B, e = .returned (.agg #[.int .i64 o.code, .int .i64 o.value, .slice B n n, .int .i64 o.used]) ∧ MInts w' w.heap.size B n o.trace ∧ Below w.heap.size w w' := toOutcome_any o A n c w hr hs

end Go.Proofs.Ytaogdaoiijmmhaa

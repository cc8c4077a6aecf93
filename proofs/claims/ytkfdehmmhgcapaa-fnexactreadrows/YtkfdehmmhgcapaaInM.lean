/-
  Slices of tokens that are read, and the laws' own functions on tokens and on lists of ints.
-/
import Derived.Test.YtkfdehmmhgcapaaTokMem
import Derived.Test.YtkfdehmmhgcapaaMem
import Derived.Test.YtkfdehmmhgcapaaKit
import Derived.Deep.QuietTactic
import Derived.BigQuiet
import Derived.Laws.MakeOwn
import Derived.Deep.RegionWith
import Derived.Lib.QuietBelow
import Derived.Laws.Entries
namespace Go.Proofs.Ytkfdehmmhgcapaa
open Go.RowKit Exs

section
variable {w w' : World} {B B' : Nat} {A : Option Addr} {n : Nat} {ts : List Token}
end

theorem Try.info136 : (Try.prog.info? 136).map (fun i => (i.zero, i.size, i.bytes)) = some (some (.agg #[.int .i64 0, .int .i64 0]), 2, 16) := by kernel_rfl

end Go.Proofs.Ytkfdehmmhgcapaa

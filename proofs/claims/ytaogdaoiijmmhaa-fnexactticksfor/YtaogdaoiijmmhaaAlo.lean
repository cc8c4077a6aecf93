/-
  Whether a function is good by itself, on both sides: contracts.
-/
import Derived.Test.YtaogdaoiijmmhaaAlM
import Derived.Test.YtaogdaoiijmmhaaPar
namespace Go.Proofs.Ytaogdaoiijmmhaa
open Go.RowKit Exs

end Go.Proofs.Ytaogdaoiijmmhaa

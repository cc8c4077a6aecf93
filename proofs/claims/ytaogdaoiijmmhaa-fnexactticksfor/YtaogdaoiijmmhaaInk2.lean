/-
  The laws' marks on a copied program, and on a row of numbers of the call's own: contracts.
-/
import Derived.Test.YtaogdaoiijmmhaaInk
import Derived.Test.YtaogdaoiijmmhaaSpA
namespace Go.Proofs.Ytaogdaoiijmmhaa
open Go.RowKit Exs

end Go.Proofs.Ytaogdaoiijmmhaa

/-
  The contracts on a function, its value written out.
-/
import Derived.Test.YtfdijeeilfhjeaaAlone
import Derived.Test.YtfdijeeilfhjeaaPrgEq
import Derived.Test.YtfdijeeilfhjeaaPrgSz
namespace Go.Proofs.Ytfdijeeilfhjeaa
open Go.RowKit Exs

theorem szFunc_g (f : Fc) (A1 : Option Addr) (n1 c1 : Nat) (A2 : Option Addr) (n2 c2 : Nat) (left : Int) (w : World) (hr : IsFc w w.heap.size f A1 n1 A2 n2) (hl : LongF f) (h0 : 0 ≤ left) (h1 : left ≤ 1048576) :
    Calls Try.prog 20 #[.agg #[.int .i64 f.params, .int .i64 f.vars, .slice A1 n1 c1, .slice A2 n2 c2], .int .i64 left] w fun e w' => e = .returned (.int .i64 (szA (manyF f) left)) ∧ Below w.heap.size w w' := szFunc_any f A1 n1 c1 A2 n2 c2 left w hr hl h0 h1
theorem toFunc_g (f : Fc) (A1 : Option Addr) (n1 c1 : Nat) (A2 : Option Addr) (n2 c2 : Nat) (w : World) (hr : IsFc w w.heap.size f A1 n1 A2 n2) (hs : SmallF f) :
    Calls Try.prog 22 #[.agg #[.int .i64 f.params, .int .i64 f.vars, .slice A1 n1 c1, .slice A2 n2 c2]] w fun e w' => ∃ B1 B2, e = .returned (.agg #[.int .i64 f.params, .int .i64 f.vars, .slice B1 n1 n1, .slice B2 n2 n2]) ∧ MFc w' w.heap.size f B1 n1 B2 n2 ∧ Below w.heap.size w w' := toFunc_any f A1 n1 c1 A2 n2 c2 w hr hs
theorem eqFunc_g (f : Fc) (A1 : Option Addr) (n1 c1 : Nat) (A2 : Option Addr) (n2 c2 : Nat) (B1 : Option Addr) (d1 : Nat) (B2 : Option Addr) (d2 : Nat) (w : World) (hr : IsFc w w.heap.size f A1 n1 A2 n2) (hr' : IsFc w w.heap.size f B1 n1 B2 n2) (hs : SmallF f) :
    Calls Try.prog 25 #[.agg #[.int .i64 f.params, .int .i64 f.vars, .slice A1 n1 c1, .slice A2 n2 c2], .agg #[.int .i64 f.params, .int .i64 f.vars, .slice B1 n1 d1, .slice B2 n2 d2]] w fun e w' => e = .returned (.bool true) ∧ Below w.heap.size w w' := eqFunc_same f A1 n1 c1 A2 n2 c2 B1 d1 B2 d2 w hr hr' hs
theorem markFunc_g (f : Fc) (A1 : Option Addr) (n1 c1 : Nat) (A2 : Option Addr) (n2 c2 : Nat) (k : Int) (L : Nat) (wc w : World) (m : MFc wc L f A1 n1 A2 n2) (hL : L ≤ wc.heap.size) (hw : Below wc.heap.size wc w) (hs : SmallF f) (hk0 : 0 ≤ k) (hk1 : k + (inkF f : Int) ≤ 1000000000) :
    Calls Try.prog 26 #[.agg #[.int .i64 f.params, .int .i64 f.vars, .slice A1 n1 c1, .slice A2 n2 c2], .int .i64 k] w fun e w' => e = .returned (.int .i64 (k + (inkF f : Int))) ∧ Inked L wc.heap.size w w' := markFunc_ink f A1 n1 c1 A2 n2 c2 k L wc w m hL hw hs hk0 hk1
theorem sitesOf_g (f : Fc) (A1 : Option Addr) (n1 c1 : Nat) (A2 : Option Addr) (n2 c2 : Nat) (w : World) (hr : IsFc w w.heap.size f A1 n1 A2 n2) (hs : SmallF f) :
    Calls Try.prog 23 #[.agg #[.int .i64 f.params, .int .i64 f.vars, .slice A1 n1 c1, .slice A2 n2 c2]] w fun e w' => ∃ v, e = .returned (.tuple #[v, .bool (siteAns f).2]) ∧ Nums w' w.heap.size 3 .i64 v (siteAns f).1 ∧ Below w.heap.size w w' := sitesOf_any f A1 n1 c1 A2 n2 c2 w hr hs
theorem orderOf_g (f : Fc) (A1 : Option Addr) (n1 c1 : Nat) (A2 : Option Addr) (n2 c2 : Nat) (w : World) (hr : IsFc w w.heap.size f A1 n1 A2 n2) (hs : SmallF f) :
    Calls Try.prog 40 #[.agg #[.int .i64 f.params, .int .i64 f.vars, .slice A1 n1 c1, .slice A2 n2 c2]] w fun e w' => ∃ v, e = .returned (.tuple #[v, .bool (ordAns f).2]) ∧ Nums w' w.heap.size 3 .i64 v (ordAns f).1 ∧ Below w.heap.size w w' := orderOf_any f A1 n1 c1 A2 n2 c2 w hr hs
theorem specSitesOf_g (f : Fc) (A1 : Option Addr) (n1 c1 : Nat) (A2 : Option Addr) (n2 c2 : Nat) (w : World) (hr : IsFc w w.heap.size f A1 n1 A2 n2) (hs : SmallF f) :
    Calls Try.prog 21 #[.agg #[.int .i64 f.params, .int .i64 f.vars, .slice A1 n1 c1, .slice A2 n2 c2]] w fun e w' => ∃ v, e = .returned (.tuple #[v, .bool (siteAns f).2]) ∧ Nums w' w.heap.size 3 .i64 v (siteAns f).1 ∧ Below w.heap.size w w' := specSitesOf_any f A1 n1 c1 A2 n2 c2 w hr hs
theorem specOrderOf_g (f : Fc) (A1 : Option Addr) (n1 c1 : Nat) (A2 : Option Addr) (n2 c2 : Nat) (w : World) (hr : IsFc w w.heap.size f A1 n1 A2 n2) (hs : SmallF f) :
    Calls Try.prog 42 #[.agg #[.int .i64 f.params, .int .i64 f.vars, .slice A1 n1 c1, .slice A2 n2 c2]] w fun e w' => ∃ v, e = .returned (.tuple #[v, .bool (ordAns f).2]) ∧ Nums w' w.heap.size 3 .i64 v (ordAns f).1 ∧ Below w.heap.size w w' := specOrderOf_any f A1 n1 c1 A2 n2 c2 w hr hs

end Go.Proofs.Ytfdijeeilfhjeaa

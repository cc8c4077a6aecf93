/-
  No cell of these rows narrows 'for every input' (looked for: loops, veiled, ifaces, maps, wideKeys, modest, calm, conditions, laid).
  DERIVED. THE GIVEN ROWS OF THIS SEAT. 6 by the template 'for every input the law returns true; each argument reads behind the call as it read before'; 0 by the template 'total and deterministic' (their statements: YtpknbdaicmacjaaTotals.lean).
  GIVEN WITH THE SEED: the statements are not yours to turn. If you find one false, say at which input.
  Laid BY PROGRAM, IN A SANDBOX (cutbox-rows.mjs): the forced cells as the released guide's own fill.sh prints them over the translation 359d304d859f6792… (all of the seat's roots in one cut). By AI agents, Wed Nov 11 2026. No macro, syntax, notation, axiom, sorry.
-/
import Derived.Test.YtpknbdaicmacjaaChecked
import GoSem.Claim
import GoSem.ClaimJoined
import GoSem.ClaimMapViews
import Derived.JoinedTies
import Derived.KernelRfl
namespace Go.Proofs.Ytpknbdaicmacjaa
/- THE CELL 'sum', in the pinned program and in every row, IS THE sha256 OF THE DUMP (.gsa) THAT YtpknbdaicmacjaaProg.lean LOADS. Nothing in Lean hashes anything: it is a label: what it is worth is what the hold of that sum in a sandbox is worth. -/
noncomputable def Try.pinned : Pinned := { name := "ytpknbdaicmacjaa", sum := "359d304d859f6792be84448e43a550bd49e6d4a3a984205477d389e65d522f9b", checked := Try.checked }
namespace Rows
def none {H : Type} : Left H := { results := [], args := [] }

/-- 'laws.FnExactWrapOf': WHATEVER THE INPUT: true; the input reads as it did. -/
def fnExactWrapOfSpec : ChangeSpec := { name := "fnExactWrapOf", fn := fun _ => fun
  | [d] => { results := [.lit (.bool true)], args := [d] }
  | _ => none }
def fnExactWrapOfRow : OpenClaim := { program := "ytpknbdaicmacjaa", sum := "359d304d859f6792be84448e43a550bd49e6d4a3a984205477d389e65d522f9b", func := "loop.example/g00745/laws.FnExactWrapOf", spec := "fnExactWrapOf", apart := false }
def FnExactWrapOfSaid : Prop := fnExactWrapOfRow.holds Try.pinned (OpenSpec.ofChange fnExactWrapOfSpec)

/-- ITS FALSE NEIGHBOUR: 'it returns false'. Refute it at one input. -/
def fnExactWrapOfWrong : ChangeSpec := { name := "fnExactWrapOf", fn := fun _ => fun
  | [d] => { results := [.lit (.bool false)], args := [d] }
  | _ => none }
def FnExactWrapOfWrongFalsely : Prop := fnExactWrapOfRow.holds Try.pinned (OpenSpec.ofChange fnExactWrapOfWrong)

/-- 'laws.FnExactNeedsOf': WHATEVER THE INPUT: true; the input reads as it did. -/
def fnExactNeedsOfSpec : ChangeSpec := { name := "fnExactNeedsOf", fn := fun _ => fun
  | [d1, d2] => { results := [.lit (.bool true)], args := [d1, d2] }
  | _ => none }
def fnExactNeedsOfRow : OpenClaim := { program := "ytpknbdaicmacjaa", sum := "359d304d859f6792be84448e43a550bd49e6d4a3a984205477d389e65d522f9b", func := "loop.example/g00745/laws.FnExactNeedsOf", spec := "fnExactNeedsOf", apart := false }
def FnExactNeedsOfSaid : Prop := fnExactNeedsOfRow.holds Try.pinned (OpenSpec.ofChange fnExactNeedsOfSpec)

/-- ITS FALSE NEIGHBOUR: 'it returns false'. Refute it at one input. -/
def fnExactNeedsOfWrong : ChangeSpec := { name := "fnExactNeedsOf", fn := fun _ => fun
  | [d1, d2] => { results := [.lit (.bool false)], args := [d1, d2] }
  | _ => none }
def FnExactNeedsOfWrongFalsely : Prop := fnExactNeedsOfRow.holds Try.pinned (OpenSpec.ofChange fnExactNeedsOfWrong)

/-- 'laws.FnExactGoodExpr': WHATEVER THE INPUT: true; the input reads as it did. -/
def fnExactGoodExprSpec : ChangeSpec := { name := "fnExactGoodExpr", fn := fun _ => fun
  | [d1, d2, d3] => { results := [.lit (.bool true)], args := [d1, d2, d3] }
  | _ => none }
def fnExactGoodExprRow : OpenClaim := { program := "ytpknbdaicmacjaa", sum := "359d304d859f6792be84448e43a550bd49e6d4a3a984205477d389e65d522f9b", func := "loop.example/g00745/laws.FnExactGoodExpr", spec := "fnExactGoodExpr", apart := false }
def FnExactGoodExprSaid : Prop := fnExactGoodExprRow.holds Try.pinned (OpenSpec.ofChange fnExactGoodExprSpec)

/-- ITS FALSE NEIGHBOUR: 'it returns false'. Refute it at one input. -/
def fnExactGoodExprWrong : ChangeSpec := { name := "fnExactGoodExpr", fn := fun _ => fun
  | [d1, d2, d3] => { results := [.lit (.bool false)], args := [d1, d2, d3] }
  | _ => none }
def FnExactGoodExprWrongFalsely : Prop := fnExactGoodExprRow.holds Try.pinned (OpenSpec.ofChange fnExactGoodExprWrong)

/-- 'laws.FnExactHighOf': WHATEVER THE INPUT: true; the input reads as it did. -/
def fnExactHighOfSpec : ChangeSpec := { name := "fnExactHighOf", fn := fun _ => fun
  | [d1, d2] => { results := [.lit (.bool true)], args := [d1, d2] }
  | _ => none }
def fnExactHighOfRow : OpenClaim := { program := "ytpknbdaicmacjaa", sum := "359d304d859f6792be84448e43a550bd49e6d4a3a984205477d389e65d522f9b", func := "loop.example/g00745/laws.FnExactHighOf", spec := "fnExactHighOf", apart := false }
def FnExactHighOfSaid : Prop := fnExactHighOfRow.holds Try.pinned (OpenSpec.ofChange fnExactHighOfSpec)

/-- ITS FALSE NEIGHBOUR: 'it returns false'. Refute it at one input. -/
def fnExactHighOfWrong : ChangeSpec := { name := "fnExactHighOf", fn := fun _ => fun
  | [d1, d2] => { results := [.lit (.bool false)], args := [d1, d2] }
  | _ => none }
def FnExactHighOfWrongFalsely : Prop := fnExactHighOfRow.holds Try.pinned (OpenSpec.ofChange fnExactHighOfWrong)

/-- 'laws.FnExactReckon': WHATEVER THE INPUT: true; the input reads as it did. -/
def fnExactReckonSpec : ChangeSpec := { name := "fnExactReckon", fn := fun _ => fun
  | [d1, d2, d3] => { results := [.lit (.bool true)], args := [d1, d2, d3] }
  | _ => none }
def fnExactReckonRow : OpenClaim := { program := "ytpknbdaicmacjaa", sum := "359d304d859f6792be84448e43a550bd49e6d4a3a984205477d389e65d522f9b", func := "loop.example/g00745/laws.FnExactReckon", spec := "fnExactReckon", apart := false }
def FnExactReckonSaid : Prop := fnExactReckonRow.holds Try.pinned (OpenSpec.ofChange fnExactReckonSpec)

/-- ITS FALSE NEIGHBOUR: 'it returns false'. Refute it at one input. -/
def fnExactReckonWrong : ChangeSpec := { name := "fnExactReckon", fn := fun _ => fun
  | [d1, d2, d3] => { results := [.lit (.bool false)], args := [d1, d2, d3] }
  | _ => none }
def FnExactReckonWrongFalsely : Prop := fnExactReckonRow.holds Try.pinned (OpenSpec.ofChange fnExactReckonWrong)

/-- 'laws.FnExactEvalPure': WHATEVER THE INPUT: true; the input reads as it did. -/
def fnExactEvalPureSpec : ChangeSpec := { name := "fnExactEvalPure", fn := fun _ => fun
  | [d1, d2] => { results := [.lit (.bool true)], args := [d1, d2] }
  | _ => none }
def fnExactEvalPureRow : OpenClaim := { program := "ytpknbdaicmacjaa", sum := "359d304d859f6792be84448e43a550bd49e6d4a3a984205477d389e65d522f9b", func := "loop.example/g00745/laws.FnExactEvalPure", spec := "fnExactEvalPure", unfollowed := true, recurses := true, apart := false }
def FnExactEvalPureSaid : Prop := fnExactEvalPureRow.holds Try.pinned (OpenSpec.ofChange fnExactEvalPureSpec)

/-- ITS FALSE NEIGHBOUR: 'it returns false'. Refute it at one input. -/
def fnExactEvalPureWrong : ChangeSpec := { name := "fnExactEvalPure", fn := fun _ => fun
  | [d1, d2] => { results := [.lit (.bool false)], args := [d1, d2] }
  | _ => none }
def FnExactEvalPureWrongFalsely : Prop := fnExactEvalPureRow.holds Try.pinned (OpenSpec.ofChange fnExactEvalPureWrong)

/- THE SECOND FORM. 'bulk': how many values and letters a reading holds, each counted each time it is reached (what is shared counts as often as it is met; a slice's spare places count too). A statement '..UptoSaid' is the law's where the arguments, and the package variables that the reading takes, are together of bulk at most 1048576: NARROWER than '..Said'. Prove '..Said' where nothing that the law and all that it calls make is longer than what came in: it says more and counts as full. Else prove '..UptoSaid'. A law counts once. -/
mutual
def uptoBulk {H : Type} : DataW H → Nat
  | .lit (.string bytes) => bytes.length + 1
  | .lit _ => 1
  | .nil => 1
  | .ptr d => uptoBulk d + 1
  | .slice elems spare => uptoBulkAll elems + uptoBulkAll spare + 1
  | .agg parts => uptoBulkAll parts + 1
  | .iface _ d => uptoBulk d + 1
  | .map entries => uptoBulkEntries entries + 1
  | .held _ => 1
def uptoBulkAll {H : Type} : List (DataW H) → Nat
  | [] => 0
  | d :: r => uptoBulk d + uptoBulkAll r
def uptoBulkEntries {H : Type} : List (Lit × DataW H) → Nat
  | [] => 0
  | x :: r => uptoBulkEntry x + uptoBulkEntries r
def uptoBulkEntry {H : Type} : Lit × DataW H → Nat
  | (.string bytes, d) => bytes.length + uptoBulk d + 1
  | (_, d) => uptoBulk d + 1
 end
def uptoSmall : (H : Type) → List (DataW H) → Bool := fun _ ds => decide (uptoBulkAll ds ≤ 1048576)
def OpenSpec.upto (s : _root_.Go.ChangeSpec) : _root_.Go.OpenSpec := { _root_.Go.OpenSpec.ofChange s with cond := some uptoSmall }

/-- 'laws.FnExactWrapOf', WHERE WHAT IT READS IS OF BULK AT MOST 1048576: true; the input reads as it did. -/
def fnExactWrapOfUptoRow : OpenClaim := { program := "ytpknbdaicmacjaa", sum := "359d304d859f6792be84448e43a550bd49e6d4a3a984205477d389e65d522f9b", func := "loop.example/g00745/laws.FnExactWrapOf", spec := "fnExactWrapOf", apart := false, narrowed := true }
def FnExactWrapOfUptoSaid : Prop := fnExactWrapOfUptoRow.holds Try.pinned (OpenSpec.upto fnExactWrapOfSpec)

/-- 'laws.FnExactNeedsOf', WHERE WHAT IT READS IS OF BULK AT MOST 1048576: true; the input reads as it did. -/
def fnExactNeedsOfUptoRow : OpenClaim := { program := "ytpknbdaicmacjaa", sum := "359d304d859f6792be84448e43a550bd49e6d4a3a984205477d389e65d522f9b", func := "loop.example/g00745/laws.FnExactNeedsOf", spec := "fnExactNeedsOf", apart := false, narrowed := true }
def FnExactNeedsOfUptoSaid : Prop := fnExactNeedsOfUptoRow.holds Try.pinned (OpenSpec.upto fnExactNeedsOfSpec)

/-- 'laws.FnExactGoodExpr', WHERE WHAT IT READS IS OF BULK AT MOST 1048576: true; the input reads as it did. -/
def fnExactGoodExprUptoRow : OpenClaim := { program := "ytpknbdaicmacjaa", sum := "359d304d859f6792be84448e43a550bd49e6d4a3a984205477d389e65d522f9b", func := "loop.example/g00745/laws.FnExactGoodExpr", spec := "fnExactGoodExpr", apart := false, narrowed := true }
def FnExactGoodExprUptoSaid : Prop := fnExactGoodExprUptoRow.holds Try.pinned (OpenSpec.upto fnExactGoodExprSpec)

/-- 'laws.FnExactHighOf', WHERE WHAT IT READS IS OF BULK AT MOST 1048576: true; the input reads as it did. -/
def fnExactHighOfUptoRow : OpenClaim := { program := "ytpknbdaicmacjaa", sum := "359d304d859f6792be84448e43a550bd49e6d4a3a984205477d389e65d522f9b", func := "loop.example/g00745/laws.FnExactHighOf", spec := "fnExactHighOf", apart := false, narrowed := true }
def FnExactHighOfUptoSaid : Prop := fnExactHighOfUptoRow.holds Try.pinned (OpenSpec.upto fnExactHighOfSpec)

/-- 'laws.FnExactReckon', WHERE WHAT IT READS IS OF BULK AT MOST 1048576: true; the input reads as it did. -/
def fnExactReckonUptoRow : OpenClaim := { program := "ytpknbdaicmacjaa", sum := "359d304d859f6792be84448e43a550bd49e6d4a3a984205477d389e65d522f9b", func := "loop.example/g00745/laws.FnExactReckon", spec := "fnExactReckon", apart := false, narrowed := true }
def FnExactReckonUptoSaid : Prop := fnExactReckonUptoRow.holds Try.pinned (OpenSpec.upto fnExactReckonSpec)

/-- 'laws.FnExactEvalPure', WHERE WHAT IT READS IS OF BULK AT MOST 1048576: true; the input reads as it did. -/
def fnExactEvalPureUptoRow : OpenClaim := { program := "ytpknbdaicmacjaa", sum := "359d304d859f6792be84448e43a550bd49e6d4a3a984205477d389e65d522f9b", func := "loop.example/g00745/laws.FnExactEvalPure", spec := "fnExactEvalPure", unfollowed := true, recurses := true, apart := false, narrowed := true }
def FnExactEvalPureUptoSaid : Prop := fnExactEvalPureUptoRow.holds Try.pinned (OpenSpec.upto fnExactEvalPureSpec)

end Rows
end Go.Proofs.Ytpknbdaicmacjaa

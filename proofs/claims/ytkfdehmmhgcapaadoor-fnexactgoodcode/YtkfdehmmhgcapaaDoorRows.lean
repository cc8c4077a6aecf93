/-
  NARROWER THAN 'FOR EVERY INPUT', by the rows' own cells (each row's printed sentence says how): FnExactHeightsOf: laid · FnExactGoodCode: laid · FnExactGoodImage: laid.
  DERIVED. THE GIVEN ROWS OF THIS SEAT. 3 by the template 'for every input the law returns true; each argument reads behind the call as it read before'; 0 by the template 'total and deterministic' (their statements: YtkfdehmmhgcapaaDoorTotals.lean).
  GIVEN WITH THE SEED: the statements are not yours to turn. If you find one false, say at which input.
  Laid BY PROGRAM, IN A SANDBOX (cutbox-rows.mjs): the forced cells as the released guide's own fill.sh prints them over the translation 291ee7b545d5d1ca… (all of the seat's roots in one cut). By AI agents, Wed Nov 11 2026. No macro, syntax, notation, axiom, sorry.
-/
import Derived.Test.YtkfdehmmhgcapaaDoorChecked
import GoSem.Claim
import GoSem.ClaimJoined
import GoSem.ClaimMapViews
import Derived.JoinedTies
import Derived.KernelRfl
namespace Go.Proofs.YtkfdehmmhgcapaaDoor
/- THE CELL 'sum', in the pinned program and in every row, IS THE sha256 OF THE DUMP (.gsa) THAT YtkfdehmmhgcapaaDoorProg.lean LOADS. Nothing in Lean hashes anything: it is a label: what it is worth is what the hold of that sum in a sandbox is worth. -/
noncomputable def Tryd.pinned : Pinned := { name := "ytkfdehmmhgcapaadoor", sum := "291ee7b545d5d1cad3e5fcc9b8f5e6d5ea71b75ba2535b6c92bc1c0f06b2e302", checked := Tryd.checked }
namespace Rows
def none {H : Type} : Left H := { results := [], args := [] }

/- WHAT THE LISTED PACKAGE-LEVEL VARIABLES READ AS WHEN THE CALL BEGINS. Each datum BY PROGRAM (the guide's laid-datum.mjs) off the statement by which the dump's own 'gosem.cut.vars' lays the variable. In a bare row this is a premise. The card (YtkfdehmmhgcapaaDoorCards.lean) ties it to the program's text. -/
def laid_loop_example_g00745_impl_insKinds {H : Type} : DataW H := .agg [.agg [.lit (.string []), .lit (.int .i64 0), .lit (.int .i64 0), .lit (.int .i64 0), .lit (.int .i64 0)], .agg [.lit (.string [110, 117, 109]), .lit (.int .i64 0), .lit (.int .i64 1), .lit (.int .i64 (-2147483648)), .lit (.int .i64 2147483647)], .agg [.lit (.string [118, 97, 114]), .lit (.int .i64 0), .lit (.int .i64 1), .lit (.int .i64 0), .lit (.int .i64 1000000)], .agg [.lit (.string [115, 101, 116]), .lit (.int .i64 1), .lit (.int .i64 0), .lit (.int .i64 0), .lit (.int .i64 1000000)], .agg [.lit (.string [114, 101, 99, 107, 111, 110]), .lit (.int .i64 2), .lit (.int .i64 1), .lit (.int .i64 3), .lit (.int .i64 8)], .agg [.lit (.string [105, 110, 112, 117, 116]), .lit (.int .i64 0), .lit (.int .i64 1), .lit (.int .i64 0), .lit (.int .i64 0)], .agg [.lit (.string [114, 101, 99, 111, 118, 101, 114]), .lit (.int .i64 0), .lit (.int .i64 1), .lit (.int .i64 0), .lit (.int .i64 0)], .agg [.lit (.string [99, 97, 108, 108]), .lit (.int .i64 0), .lit (.int .i64 1), .lit (.int .i64 0), .lit (.int .i64 1000000)], .agg [.lit (.string [112, 114, 105, 110, 116]), .lit (.int .i64 1), .lit (.int .i64 0), .lit (.int .i64 0), .lit (.int .i64 0)], .agg [.lit (.string [100, 114, 111, 112]), .lit (.int .i64 1), .lit (.int .i64 0), .lit (.int .i64 0), .lit (.int .i64 0)], .agg [.lit (.string [106, 117, 109, 112]), .lit (.int .i64 0), .lit (.int .i64 0), .lit (.int .i64 0), .lit (.int .i64 1000000)], .agg [.lit (.string [117, 110, 108, 101, 115, 115]), .lit (.int .i64 1), .lit (.int .i64 0), .lit (.int .i64 0), .lit (.int .i64 1000000)], .agg [.lit (.string [112, 117, 116]), .lit (.int .i64 0), .lit (.int .i64 0), .lit (.int .i64 0), .lit (.int .i64 1000000)], .agg [.lit (.string [112, 97, 110, 105, 99]), .lit (.int .i64 1), .lit (.int .i64 0), .lit (.int .i64 0), .lit (.int .i64 0)], .agg [.lit (.string [101, 120, 105, 116]), .lit (.int .i64 0), .lit (.int .i64 0), .lit (.int .i64 0), .lit (.int .i64 0)], .agg [.lit (.string [114, 101, 115, 117, 108, 116]), .lit (.int .i64 1), .lit (.int .i64 0), .lit (.int .i64 0), .lit (.int .i64 0)], .agg [.lit (.string [108, 101, 97, 118, 101]), .lit (.int .i64 0), .lit (.int .i64 0), .lit (.int .i64 0), .lit (.int .i64 0)], .agg [.lit (.string [111, 102, 102]), .lit (.int .i64 0), .lit (.int .i64 0), .lit (.int .i64 0), .lit (.int .i64 1000000)], .agg [.lit (.string [101, 110, 100]), .lit (.int .i64 0), .lit (.int .i64 0), .lit (.int .i64 0), .lit (.int .i64 0)]]

/-- 'laws.FnExactHeightsOf': WHATEVER THE INPUT: true; the input reads as it did. -/
def fnExactHeightsOfSpec : ChangeSpec := { name := "fnExactHeightsOf", vars := ["loop.example/g00745/impl.insKinds"], fn := fun _ => fun
  | [d1, d2, g1] => { results := [.lit (.bool true)], args := [d1, d2], vars := [g1] }
  | _ => none }
def fnExactHeightsOfRow : OpenClaim := { program := "ytkfdehmmhgcapaadoor", sum := "291ee7b545d5d1cad3e5fcc9b8f5e6d5ea71b75ba2535b6c92bc1c0f06b2e302", func := "loop.example/g00745/laws.FnExactHeightsOf", spec := "fnExactHeightsOf", named := ["loop.example/g00745/impl.insKinds"], apart := false, laid := [("loop.example/g00745/impl.insKinds", laid_loop_example_g00745_impl_insKinds)] }
def FnExactHeightsOfSaid : Prop := fnExactHeightsOfRow.holds Tryd.pinned (OpenSpec.ofChange fnExactHeightsOfSpec)

/-- ITS FALSE NEIGHBOUR: 'it returns false'. Refute it at one input. -/
def fnExactHeightsOfWrong : ChangeSpec := { name := "fnExactHeightsOf", vars := ["loop.example/g00745/impl.insKinds"], fn := fun _ => fun
  | [d1, d2, g1] => { results := [.lit (.bool false)], args := [d1, d2], vars := [g1] }
  | _ => none }
def FnExactHeightsOfWrongFalsely : Prop := fnExactHeightsOfRow.holds Tryd.pinned (OpenSpec.ofChange fnExactHeightsOfWrong)

/-- 'laws.FnExactGoodCode': WHATEVER THE INPUT: true; the input reads as it did. -/
def fnExactGoodCodeSpec : ChangeSpec := { name := "fnExactGoodCode", vars := ["loop.example/g00745/impl.insKinds"], fn := fun _ => fun
  | [d1, d2, g1] => { results := [.lit (.bool true)], args := [d1, d2], vars := [g1] }
  | _ => none }
def fnExactGoodCodeRow : OpenClaim := { program := "ytkfdehmmhgcapaadoor", sum := "291ee7b545d5d1cad3e5fcc9b8f5e6d5ea71b75ba2535b6c92bc1c0f06b2e302", func := "loop.example/g00745/laws.FnExactGoodCode", spec := "fnExactGoodCode", named := ["loop.example/g00745/impl.insKinds"], apart := false, laid := [("loop.example/g00745/impl.insKinds", laid_loop_example_g00745_impl_insKinds)] }
def FnExactGoodCodeSaid : Prop := fnExactGoodCodeRow.holds Tryd.pinned (OpenSpec.ofChange fnExactGoodCodeSpec)

/-- ITS FALSE NEIGHBOUR: 'it returns false'. Refute it at one input. -/
def fnExactGoodCodeWrong : ChangeSpec := { name := "fnExactGoodCode", vars := ["loop.example/g00745/impl.insKinds"], fn := fun _ => fun
  | [d1, d2, g1] => { results := [.lit (.bool false)], args := [d1, d2], vars := [g1] }
  | _ => none }
def FnExactGoodCodeWrongFalsely : Prop := fnExactGoodCodeRow.holds Tryd.pinned (OpenSpec.ofChange fnExactGoodCodeWrong)

/-- 'laws.FnExactGoodImage': WHATEVER THE INPUT: true; the input reads as it did. -/
def fnExactGoodImageSpec : ChangeSpec := { name := "fnExactGoodImage", vars := ["loop.example/g00745/impl.insKinds"], fn := fun _ => fun
  | [d, g1] => { results := [.lit (.bool true)], args := [d], vars := [g1] }
  | _ => none }
def fnExactGoodImageRow : OpenClaim := { program := "ytkfdehmmhgcapaadoor", sum := "291ee7b545d5d1cad3e5fcc9b8f5e6d5ea71b75ba2535b6c92bc1c0f06b2e302", func := "loop.example/g00745/laws.FnExactGoodImage", spec := "fnExactGoodImage", named := ["loop.example/g00745/impl.insKinds"], apart := false, laid := [("loop.example/g00745/impl.insKinds", laid_loop_example_g00745_impl_insKinds)] }
def FnExactGoodImageSaid : Prop := fnExactGoodImageRow.holds Tryd.pinned (OpenSpec.ofChange fnExactGoodImageSpec)

/-- ITS FALSE NEIGHBOUR: 'it returns false'. Refute it at one input. -/
def fnExactGoodImageWrong : ChangeSpec := { name := "fnExactGoodImage", vars := ["loop.example/g00745/impl.insKinds"], fn := fun _ => fun
  | [d, g1] => { results := [.lit (.bool false)], args := [d], vars := [g1] }
  | _ => none }
def FnExactGoodImageWrongFalsely : Prop := fnExactGoodImageRow.holds Tryd.pinned (OpenSpec.ofChange fnExactGoodImageWrong)

/- THE SECOND FORM. 'bulk': how many values and letters a reading holds, each counted each time it is reached (what is shared counts as often as it is met; a slice's spare places count too). A statement '..UptoSaid' is the law's where the arguments, and the package variables that the reading takes, are together of bulk at most 1048576: NARROWER than '..Said'. Prove '..Said' where nothing that the law and all that it calls make is longer than what came in: it says more and counts as full. Else prove '..UptoSaid'. A law counts once. -/
mutual
def uptoBulk {H : Type} : DataW H → Nat
  | .lit (.string bytes) => bytes.length + 1
  | .lit _ => 1
  | .nil => 1
  | .ptr d => uptoBulk d + 1
  | .slice elems spare => uptoBulkAll elems + uptoBulkAll spare + 1
  | .agg parts => uptoBulkAll parts + 1
  | .iface _ d => uptoBulk d + 1
  | .map entries => uptoBulkEntries entries + 1
  | .held _ => 1
def uptoBulkAll {H : Type} : List (DataW H) → Nat
  | [] => 0
  | d :: r => uptoBulk d + uptoBulkAll r
def uptoBulkEntries {H : Type} : List (Lit × DataW H) → Nat
  | [] => 0
  | x :: r => uptoBulkEntry x + uptoBulkEntries r
def uptoBulkEntry {H : Type} : Lit × DataW H → Nat
  | (.string bytes, d) => bytes.length + uptoBulk d + 1
  | (_, d) => uptoBulk d + 1
 end
def uptoSmall : (H : Type) → List (DataW H) → Bool := fun _ ds => decide (uptoBulkAll ds ≤ 1048576)
def OpenSpec.upto (s : _root_.Go.ChangeSpec) : _root_.Go.OpenSpec := { _root_.Go.OpenSpec.ofChange s with cond := some uptoSmall }

/-- 'laws.FnExactHeightsOf', WHERE WHAT IT READS IS OF BULK AT MOST 1048576: true; the input reads as it did. -/
def fnExactHeightsOfUptoRow : OpenClaim := { program := "ytkfdehmmhgcapaadoor", sum := "291ee7b545d5d1cad3e5fcc9b8f5e6d5ea71b75ba2535b6c92bc1c0f06b2e302", func := "loop.example/g00745/laws.FnExactHeightsOf", spec := "fnExactHeightsOf", named := ["loop.example/g00745/impl.insKinds"], apart := false, laid := [("loop.example/g00745/impl.insKinds", laid_loop_example_g00745_impl_insKinds)], narrowed := true }
def FnExactHeightsOfUptoSaid : Prop := fnExactHeightsOfUptoRow.holds Tryd.pinned (OpenSpec.upto fnExactHeightsOfSpec)

/-- 'laws.FnExactGoodCode', WHERE WHAT IT READS IS OF BULK AT MOST 1048576: true; the input reads as it did. -/
def fnExactGoodCodeUptoRow : OpenClaim := { program := "ytkfdehmmhgcapaadoor", sum := "291ee7b545d5d1cad3e5fcc9b8f5e6d5ea71b75ba2535b6c92bc1c0f06b2e302", func := "loop.example/g00745/laws.FnExactGoodCode", spec := "fnExactGoodCode", named := ["loop.example/g00745/impl.insKinds"], apart := false, laid := [("loop.example/g00745/impl.insKinds", laid_loop_example_g00745_impl_insKinds)], narrowed := true }
def FnExactGoodCodeUptoSaid : Prop := fnExactGoodCodeUptoRow.holds Tryd.pinned (OpenSpec.upto fnExactGoodCodeSpec)

/-- 'laws.FnExactGoodImage', WHERE WHAT IT READS IS OF BULK AT MOST 1048576: true; the input reads as it did. -/
def fnExactGoodImageUptoRow : OpenClaim := { program := "ytkfdehmmhgcapaadoor", sum := "291ee7b545d5d1cad3e5fcc9b8f5e6d5ea71b75ba2535b6c92bc1c0f06b2e302", func := "loop.example/g00745/laws.FnExactGoodImage", spec := "fnExactGoodImage", named := ["loop.example/g00745/impl.insKinds"], apart := false, laid := [("loop.example/g00745/impl.insKinds", laid_loop_example_g00745_impl_insKinds)], narrowed := true }
def FnExactGoodImageUptoSaid : Prop := fnExactGoodImageUptoRow.holds Tryd.pinned (OpenSpec.upto fnExactGoodImageSpec)

end Rows
end Go.Proofs.YtkfdehmmhgcapaaDoor

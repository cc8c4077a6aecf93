/-
  NARROWER THAN 'FOR EVERY INPUT', by the rows' own cells (each row's printed sentence says how): FnExactMayStop: laid · FnExactSearchUp: laid · FnExactPadsUp: laid.
  DERIVED. THE GIVEN ROWS OF THIS SEAT. 3 by the template 'for every input the law returns true; each argument reads behind the call as it read before'; 0 by the template 'total and deterministic' (their statements: YtpbkkjiikhjanaaGreatDoorTotals.lean).
  GIVEN WITH THE SEED: the statements are not yours to turn. If you find one false, say at which input.
  Laid BY PROGRAM, IN A SANDBOX (cutbox-rows.mjs): the forced cells as the released guide's own fill.sh prints them over the translation 98e3b49688fb5a80… (all of the seat's roots in one cut). By AI agents, Wed Nov 11 2026. No macro, syntax, notation, axiom, sorry.
-/
import Derived.Test.YtpbkkjiikhjanaaGreatDoorChecked
import GoSem.Claim
import GoSem.ClaimJoined
import GoSem.ClaimMapViews
import Derived.JoinedTies
import Derived.KernelRfl
namespace Go.Proofs.YtpbkkjiikhjanaaGreatDoor
/- THE CELL 'sum', in the pinned program and in every row, IS THE sha256 OF THE DUMP (.gsa) THAT YtpbkkjiikhjanaaGreatDoorProg.lean LOADS. Nothing in Lean hashes anything: it is a label: what it is worth is what the hold of that sum in a sandbox is worth. -/
noncomputable def Tryz.pinned : Pinned := { name := "ytpbkkjiikhjanaagreatdoor", sum := "98e3b49688fb5a8025160eefc2270f6dcdf303cefc75c347b149358dde61dd36", checked := Tryz.checked }
namespace Rows
def none {H : Type} : Left H := { results := [], args := [] }

/- WHAT THE LISTED PACKAGE-LEVEL VARIABLES READ AS WHEN THE CALL BEGINS. Each datum BY PROGRAM (the guide's laid-datum.mjs) off the statement by which the dump's own 'gosem.cut.vars' lays the variable. In a bare row this is a premise. The card (YtpbkkjiikhjanaaGreatDoorCards.lean) ties it to the program's text. -/
def laid_loop_example_g00745_impl_insKinds {H : Type} : DataW H := .agg [.agg [.lit (.string []), .lit (.int .i64 0), .lit (.int .i64 0), .lit (.int .i64 0), .lit (.int .i64 0)], .agg [.lit (.string [110, 117, 109]), .lit (.int .i64 0), .lit (.int .i64 1), .lit (.int .i64 (-2147483648)), .lit (.int .i64 2147483647)], .agg [.lit (.string [118, 97, 114]), .lit (.int .i64 0), .lit (.int .i64 1), .lit (.int .i64 0), .lit (.int .i64 1000000)], .agg [.lit (.string [115, 101, 116]), .lit (.int .i64 1), .lit (.int .i64 0), .lit (.int .i64 0), .lit (.int .i64 1000000)], .agg [.lit (.string [114, 101, 99, 107, 111, 110]), .lit (.int .i64 2), .lit (.int .i64 1), .lit (.int .i64 3), .lit (.int .i64 8)], .agg [.lit (.string [105, 110, 112, 117, 116]), .lit (.int .i64 0), .lit (.int .i64 1), .lit (.int .i64 0), .lit (.int .i64 0)], .agg [.lit (.string [114, 101, 99, 111, 118, 101, 114]), .lit (.int .i64 0), .lit (.int .i64 1), .lit (.int .i64 0), .lit (.int .i64 0)], .agg [.lit (.string [99, 97, 108, 108]), .lit (.int .i64 0), .lit (.int .i64 1), .lit (.int .i64 0), .lit (.int .i64 1000000)], .agg [.lit (.string [112, 114, 105, 110, 116]), .lit (.int .i64 1), .lit (.int .i64 0), .lit (.int .i64 0), .lit (.int .i64 0)], .agg [.lit (.string [100, 114, 111, 112]), .lit (.int .i64 1), .lit (.int .i64 0), .lit (.int .i64 0), .lit (.int .i64 0)], .agg [.lit (.string [106, 117, 109, 112]), .lit (.int .i64 0), .lit (.int .i64 0), .lit (.int .i64 0), .lit (.int .i64 1000000)], .agg [.lit (.string [117, 110, 108, 101, 115, 115]), .lit (.int .i64 1), .lit (.int .i64 0), .lit (.int .i64 0), .lit (.int .i64 1000000)], .agg [.lit (.string [112, 117, 116]), .lit (.int .i64 0), .lit (.int .i64 0), .lit (.int .i64 0), .lit (.int .i64 1000000)], .agg [.lit (.string [112, 97, 110, 105, 99]), .lit (.int .i64 1), .lit (.int .i64 0), .lit (.int .i64 0), .lit (.int .i64 0)], .agg [.lit (.string [101, 120, 105, 116]), .lit (.int .i64 0), .lit (.int .i64 0), .lit (.int .i64 0), .lit (.int .i64 0)], .agg [.lit (.string [114, 101, 115, 117, 108, 116]), .lit (.int .i64 1), .lit (.int .i64 0), .lit (.int .i64 0), .lit (.int .i64 0)], .agg [.lit (.string [108, 101, 97, 118, 101]), .lit (.int .i64 0), .lit (.int .i64 0), .lit (.int .i64 0), .lit (.int .i64 0)], .agg [.lit (.string [111, 102, 102]), .lit (.int .i64 0), .lit (.int .i64 0), .lit (.int .i64 0), .lit (.int .i64 1000000)], .agg [.lit (.string [101, 110, 100]), .lit (.int .i64 0), .lit (.int .i64 0), .lit (.int .i64 0), .lit (.int .i64 0)]]

/-- 'laws.FnExactMayStop': WHATEVER THE INPUT: true; the input reads as it did. -/
def fnExactMayStopSpec : ChangeSpec := { name := "fnExactMayStop", vars := ["loop.example/g00745/impl.insKinds"], fn := fun _ => fun
  | [d1, d2, d3, g1] => { results := [.lit (.bool true)], args := [d1, d2, d3], vars := [g1] }
  | _ => none }
def fnExactMayStopRow : OpenClaim := { program := "ytpbkkjiikhjanaagreatdoor", sum := "98e3b49688fb5a8025160eefc2270f6dcdf303cefc75c347b149358dde61dd36", func := "loop.example/g00745/laws.FnExactMayStop", spec := "fnExactMayStop", unfollowed := true, recurses := true, named := ["loop.example/g00745/impl.insKinds"], apart := false, laid := [("loop.example/g00745/impl.insKinds", laid_loop_example_g00745_impl_insKinds)] }
def FnExactMayStopSaid : Prop := fnExactMayStopRow.holds Tryz.pinned (OpenSpec.ofChange fnExactMayStopSpec)

/-- ITS FALSE NEIGHBOUR: 'it returns false'. Refute it at one input. -/
def fnExactMayStopWrong : ChangeSpec := { name := "fnExactMayStop", vars := ["loop.example/g00745/impl.insKinds"], fn := fun _ => fun
  | [d1, d2, d3, g1] => { results := [.lit (.bool false)], args := [d1, d2, d3], vars := [g1] }
  | _ => none }
def FnExactMayStopWrongFalsely : Prop := fnExactMayStopRow.holds Tryz.pinned (OpenSpec.ofChange fnExactMayStopWrong)

/-- 'laws.FnExactSearchUp': WHATEVER THE INPUT: true; the input reads as it did. -/
def fnExactSearchUpSpec : ChangeSpec := { name := "fnExactSearchUp", vars := ["loop.example/g00745/impl.insKinds"], fn := fun _ => fun
  | [d1, d2, g1] => { results := [.lit (.bool true)], args := [d1, d2], vars := [g1] }
  | _ => none }
def fnExactSearchUpRow : OpenClaim := { program := "ytpbkkjiikhjanaagreatdoor", sum := "98e3b49688fb5a8025160eefc2270f6dcdf303cefc75c347b149358dde61dd36", func := "loop.example/g00745/laws.FnExactSearchUp", spec := "fnExactSearchUp", unfollowed := true, recurses := true, named := ["loop.example/g00745/impl.insKinds"], apart := false, laid := [("loop.example/g00745/impl.insKinds", laid_loop_example_g00745_impl_insKinds)] }
def FnExactSearchUpSaid : Prop := fnExactSearchUpRow.holds Tryz.pinned (OpenSpec.ofChange fnExactSearchUpSpec)

/-- ITS FALSE NEIGHBOUR: 'it returns false'. Refute it at one input. -/
def fnExactSearchUpWrong : ChangeSpec := { name := "fnExactSearchUp", vars := ["loop.example/g00745/impl.insKinds"], fn := fun _ => fun
  | [d1, d2, g1] => { results := [.lit (.bool false)], args := [d1, d2], vars := [g1] }
  | _ => none }
def FnExactSearchUpWrongFalsely : Prop := fnExactSearchUpRow.holds Tryz.pinned (OpenSpec.ofChange fnExactSearchUpWrong)

/-- 'laws.FnExactPadsUp': WHATEVER THE INPUT: true; the input reads as it did. -/
def fnExactPadsUpSpec : ChangeSpec := { name := "fnExactPadsUp", vars := ["loop.example/g00745/impl.insKinds"], fn := fun _ => fun
  | [d1, d2, g1] => { results := [.lit (.bool true)], args := [d1, d2], vars := [g1] }
  | _ => none }
def fnExactPadsUpRow : OpenClaim := { program := "ytpbkkjiikhjanaagreatdoor", sum := "98e3b49688fb5a8025160eefc2270f6dcdf303cefc75c347b149358dde61dd36", func := "loop.example/g00745/laws.FnExactPadsUp", spec := "fnExactPadsUp", unfollowed := true, recurses := true, named := ["loop.example/g00745/impl.insKinds"], apart := false, laid := [("loop.example/g00745/impl.insKinds", laid_loop_example_g00745_impl_insKinds)] }
def FnExactPadsUpSaid : Prop := fnExactPadsUpRow.holds Tryz.pinned (OpenSpec.ofChange fnExactPadsUpSpec)

/-- ITS FALSE NEIGHBOUR: 'it returns false'. Refute it at one input. -/
def fnExactPadsUpWrong : ChangeSpec := { name := "fnExactPadsUp", vars := ["loop.example/g00745/impl.insKinds"], fn := fun _ => fun
  | [d1, d2, g1] => { results := [.lit (.bool false)], args := [d1, d2], vars := [g1] }
  | _ => none }
def FnExactPadsUpWrongFalsely : Prop := fnExactPadsUpRow.holds Tryz.pinned (OpenSpec.ofChange fnExactPadsUpWrong)

/- THE SECOND FORM. 'bulk': how many values and letters a reading holds, each counted each time it is reached (what is shared counts as often as it is met; a slice's spare places count too). A statement '..UptoSaid' is the law's where the arguments, and the package variables that the reading takes, are together of bulk at most 1048576: NARROWER than '..Said'. Prove '..Said' where nothing that the law and all that it calls make is longer than what came in: it says more and counts as full. Else prove '..UptoSaid'. A law counts once. -/
mutual
def uptoBulk {H : Type} : DataW H → Nat
  | .lit (.string bytes) => bytes.length + 1
  | .lit _ => 1
  | .nil => 1
  | .ptr d => uptoBulk d + 1
  | .slice elems spare => uptoBulkAll elems + uptoBulkAll spare + 1
  | .agg parts => uptoBulkAll parts + 1
  | .iface _ d => uptoBulk d + 1
  | .map entries => uptoBulkEntries entries + 1
  | .held _ => 1
def uptoBulkAll {H : Type} : List (DataW H) → Nat
  | [] => 0
  | d :: r => uptoBulk d + uptoBulkAll r
def uptoBulkEntries {H : Type} : List (Lit × DataW H) → Nat
  | [] => 0
  | x :: r => uptoBulkEntry x + uptoBulkEntries r
def uptoBulkEntry {H : Type} : Lit × DataW H → Nat
  | (.string bytes, d) => bytes.length + uptoBulk d + 1
  | (_, d) => uptoBulk d + 1
 end
def uptoSmall : (H : Type) → List (DataW H) → Bool := fun _ ds => decide (uptoBulkAll ds ≤ 1048576)
def OpenSpec.upto (s : _root_.Go.ChangeSpec) : _root_.Go.OpenSpec := { _root_.Go.OpenSpec.ofChange s with cond := some uptoSmall }

/-- 'laws.FnExactMayStop', WHERE WHAT IT READS IS OF BULK AT MOST 1048576: true; the input reads as it did. -/
def fnExactMayStopUptoRow : OpenClaim := { program := "ytpbkkjiikhjanaagreatdoor", sum := "98e3b49688fb5a8025160eefc2270f6dcdf303cefc75c347b149358dde61dd36", func := "loop.example/g00745/laws.FnExactMayStop", spec := "fnExactMayStop", unfollowed := true, recurses := true, named := ["loop.example/g00745/impl.insKinds"], apart := false, laid := [("loop.example/g00745/impl.insKinds", laid_loop_example_g00745_impl_insKinds)], narrowed := true }
def FnExactMayStopUptoSaid : Prop := fnExactMayStopUptoRow.holds Tryz.pinned (OpenSpec.upto fnExactMayStopSpec)

/-- 'laws.FnExactSearchUp', WHERE WHAT IT READS IS OF BULK AT MOST 1048576: true; the input reads as it did. -/
def fnExactSearchUpUptoRow : OpenClaim := { program := "ytpbkkjiikhjanaagreatdoor", sum := "98e3b49688fb5a8025160eefc2270f6dcdf303cefc75c347b149358dde61dd36", func := "loop.example/g00745/laws.FnExactSearchUp", spec := "fnExactSearchUp", unfollowed := true, recurses := true, named := ["loop.example/g00745/impl.insKinds"], apart := false, laid := [("loop.example/g00745/impl.insKinds", laid_loop_example_g00745_impl_insKinds)], narrowed := true }
def FnExactSearchUpUptoSaid : Prop := fnExactSearchUpUptoRow.holds Tryz.pinned (OpenSpec.upto fnExactSearchUpSpec)

/-- 'laws.FnExactPadsUp', WHERE WHAT IT READS IS OF BULK AT MOST 1048576: true; the input reads as it did. -/
def fnExactPadsUpUptoRow : OpenClaim := { program := "ytpbkkjiikhjanaagreatdoor", sum := "98e3b49688fb5a8025160eefc2270f6dcdf303cefc75c347b149358dde61dd36", func := "loop.example/g00745/laws.FnExactPadsUp", spec := "fnExactPadsUp", unfollowed := true, recurses := true, named := ["loop.example/g00745/impl.insKinds"], apart := false, laid := [("loop.example/g00745/impl.insKinds", laid_loop_example_g00745_impl_insKinds)], narrowed := true }
def FnExactPadsUpUptoSaid : Prop := fnExactPadsUpUptoRow.holds Tryz.pinned (OpenSpec.upto fnExactPadsUpSpec)

end Rows
end Go.Proofs.YtpbkkjiikhjanaaGreatDoor

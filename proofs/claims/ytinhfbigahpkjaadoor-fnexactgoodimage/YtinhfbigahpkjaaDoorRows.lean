/-
  NARROWER THAN 'FOR EVERY INPUT', by the rows' own cells (each row's printed sentence says how): FnExactHeightsOf: laid · FnExactGoodCode: laid · FnExactGoodImage: laid · FnExactNextOf: laid · FnExactTakesPuts: laid · FnExactInsText: laid.
  DERIVED. THE GIVEN ROWS OF THIS SEAT. 6 by the template 'for every input the law returns true; each argument reads behind the call as it read before'; 0 by the template 'total and deterministic' (their statements: YtinhfbigahpkjaaDoorTotals.lean).
  GIVEN WITH THE SEED: the statements are not yours to turn. If you find one false, say at which input.
  Laid BY PROGRAM, IN A SANDBOX (cutbox-rows.mjs): the forced cells as the released guide's own fill.sh prints them over the translation a663a0a8984db721… (all of the seat's roots in one cut). By AI agents, Wed Nov 11 2026. No macro, syntax, notation, axiom, sorry.
-/
import Derived.Test.YtinhfbigahpkjaaDoorChecked
import GoSem.Claim
import GoSem.ClaimJoined
import GoSem.ClaimMapViews
import Derived.JoinedTies
import Derived.KernelRfl
namespace Go.Proofs.YtinhfbigahpkjaaDoor
/- THE CELL 'sum', in the pinned program and in every row, IS THE sha256 OF THE DUMP (.gsa) THAT YtinhfbigahpkjaaDoorProg.lean LOADS. Nothing in Lean hashes anything: it is a label: what it is worth is what the hold of that sum in a sandbox is worth. -/
noncomputable def Tryd.pinned : Pinned := { name := "ytinhfbigahpkjaadoor", sum := "a663a0a8984db721bab4f3f5ac1439d0dde6925aed12fc629bc839f74660e4e7", checked := Tryd.checked }
namespace Rows
def none {H : Type} : Left H := { results := [], args := [] }

/- WHAT THE LISTED PACKAGE-LEVEL VARIABLES READ AS WHEN THE CALL BEGINS. Each datum BY PROGRAM (the guide's laid-datum.mjs) off the statement by which the dump's own 'gosem.cut.vars' lays the variable. In a bare row this is a premise. The card (YtinhfbigahpkjaaDoorCards.lean) ties it to the program's text. -/
def laid_loop_example_g00745_impl_insKinds {H : Type} : DataW H := .agg [.agg [.lit (.string []), .lit (.int .i64 0), .lit (.int .i64 0), .lit (.int .i64 0), .lit (.int .i64 0)], .agg [.lit (.string [110, 117, 109]), .lit (.int .i64 0), .lit (.int .i64 1), .lit (.int .i64 (-2147483648)), .lit (.int .i64 2147483647)], .agg [.lit (.string [118, 97, 114]), .lit (.int .i64 0), .lit (.int .i64 1), .lit (.int .i64 0), .lit (.int .i64 1000000)], .agg [.lit (.string [115, 101, 116]), .lit (.int .i64 1), .lit (.int .i64 0), .lit (.int .i64 0), .lit (.int .i64 1000000)], .agg [.lit (.string [114, 101, 99, 107, 111, 110]), .lit (.int .i64 2), .lit (.int .i64 1), .lit (.int .i64 3), .lit (.int .i64 8)], .agg [.lit (.string [105, 110, 112, 117, 116]), .lit (.int .i64 0), .lit (.int .i64 1), .lit (.int .i64 0), .lit (.int .i64 0)], .agg [.lit (.string [114, 101, 99, 111, 118, 101, 114]), .lit (.int .i64 0), .lit (.int .i64 1), .lit (.int .i64 0), .lit (.int .i64 0)], .agg [.lit (.string [99, 97, 108, 108]), .lit (.int .i64 0), .lit (.int .i64 1), .lit (.int .i64 0), .lit (.int .i64 1000000)], .agg [.lit (.string [112, 114, 105, 110, 116]), .lit (.int .i64 1), .lit (.int .i64 0), .lit (.int .i64 0), .lit (.int .i64 0)], .agg [.lit (.string [100, 114, 111, 112]), .lit (.int .i64 1), .lit (.int .i64 0), .lit (.int .i64 0), .lit (.int .i64 0)], .agg [.lit (.string [106, 117, 109, 112]), .lit (.int .i64 0), .lit (.int .i64 0), .lit (.int .i64 0), .lit (.int .i64 1000000)], .agg [.lit (.string [117, 110, 108, 101, 115, 115]), .lit (.int .i64 1), .lit (.int .i64 0), .lit (.int .i64 0), .lit (.int .i64 1000000)], .agg [.lit (.string [112, 117, 116]), .lit (.int .i64 0), .lit (.int .i64 0), .lit (.int .i64 0), .lit (.int .i64 1000000)], .agg [.lit (.string [112, 97, 110, 105, 99]), .lit (.int .i64 1), .lit (.int .i64 0), .lit (.int .i64 0), .lit (.int .i64 0)], .agg [.lit (.string [101, 120, 105, 116]), .lit (.int .i64 0), .lit (.int .i64 0), .lit (.int .i64 0), .lit (.int .i64 0)], .agg [.lit (.string [114, 101, 115, 117, 108, 116]), .lit (.int .i64 1), .lit (.int .i64 0), .lit (.int .i64 0), .lit (.int .i64 0)], .agg [.lit (.string [108, 101, 97, 118, 101]), .lit (.int .i64 0), .lit (.int .i64 0), .lit (.int .i64 0), .lit (.int .i64 0)], .agg [.lit (.string [111, 102, 102]), .lit (.int .i64 0), .lit (.int .i64 0), .lit (.int .i64 0), .lit (.int .i64 1000000)], .agg [.lit (.string [101, 110, 100]), .lit (.int .i64 0), .lit (.int .i64 0), .lit (.int .i64 0), .lit (.int .i64 0)]]
def laid_math_bits_deBruijn32tab {H : Type} : DataW H := .agg [.lit (.int .u8 0), .lit (.int .u8 1), .lit (.int .u8 28), .lit (.int .u8 2), .lit (.int .u8 29), .lit (.int .u8 14), .lit (.int .u8 24), .lit (.int .u8 3), .lit (.int .u8 30), .lit (.int .u8 22), .lit (.int .u8 20), .lit (.int .u8 15), .lit (.int .u8 25), .lit (.int .u8 17), .lit (.int .u8 4), .lit (.int .u8 8), .lit (.int .u8 31), .lit (.int .u8 27), .lit (.int .u8 13), .lit (.int .u8 23), .lit (.int .u8 21), .lit (.int .u8 19), .lit (.int .u8 16), .lit (.int .u8 7), .lit (.int .u8 26), .lit (.int .u8 12), .lit (.int .u8 18), .lit (.int .u8 6), .lit (.int .u8 11), .lit (.int .u8 5), .lit (.int .u8 10), .lit (.int .u8 9)]
def laid_math_bits_deBruijn64tab {H : Type} : DataW H := .agg [.lit (.int .u8 0), .lit (.int .u8 1), .lit (.int .u8 56), .lit (.int .u8 2), .lit (.int .u8 57), .lit (.int .u8 49), .lit (.int .u8 28), .lit (.int .u8 3), .lit (.int .u8 61), .lit (.int .u8 58), .lit (.int .u8 42), .lit (.int .u8 50), .lit (.int .u8 38), .lit (.int .u8 29), .lit (.int .u8 17), .lit (.int .u8 4), .lit (.int .u8 62), .lit (.int .u8 47), .lit (.int .u8 59), .lit (.int .u8 36), .lit (.int .u8 45), .lit (.int .u8 43), .lit (.int .u8 51), .lit (.int .u8 22), .lit (.int .u8 53), .lit (.int .u8 39), .lit (.int .u8 33), .lit (.int .u8 30), .lit (.int .u8 24), .lit (.int .u8 18), .lit (.int .u8 12), .lit (.int .u8 5), .lit (.int .u8 63), .lit (.int .u8 55), .lit (.int .u8 48), .lit (.int .u8 27), .lit (.int .u8 60), .lit (.int .u8 41), .lit (.int .u8 37), .lit (.int .u8 16), .lit (.int .u8 46), .lit (.int .u8 35), .lit (.int .u8 44), .lit (.int .u8 21), .lit (.int .u8 52), .lit (.int .u8 32), .lit (.int .u8 23), .lit (.int .u8 11), .lit (.int .u8 54), .lit (.int .u8 26), .lit (.int .u8 40), .lit (.int .u8 15), .lit (.int .u8 34), .lit (.int .u8 20), .lit (.int .u8 31), .lit (.int .u8 10), .lit (.int .u8 25), .lit (.int .u8 14), .lit (.int .u8 19), .lit (.int .u8 9), .lit (.int .u8 13), .lit (.int .u8 8), .lit (.int .u8 7), .lit (.int .u8 6)]
def laid_internal_strconv_uint64pow10 {H : Type} : DataW H := .agg [.lit (.int .u64 1), .lit (.int .u64 10), .lit (.int .u64 100), .lit (.int .u64 1000), .lit (.int .u64 10000), .lit (.int .u64 100000), .lit (.int .u64 1000000), .lit (.int .u64 10000000), .lit (.int .u64 100000000), .lit (.int .u64 1000000000), .lit (.int .u64 10000000000), .lit (.int .u64 100000000000), .lit (.int .u64 1000000000000), .lit (.int .u64 10000000000000), .lit (.int .u64 100000000000000), .lit (.int .u64 1000000000000000), .lit (.int .u64 10000000000000000), .lit (.int .u64 100000000000000000), .lit (.int .u64 1000000000000000000), .lit (.int .u64 10000000000000000000)]

/-- 'laws.FnExactHeightsOf': WHATEVER THE INPUT: true; the input reads as it did. -/
def fnExactHeightsOfSpec : ChangeSpec := { name := "fnExactHeightsOf", vars := ["loop.example/g00745/impl.insKinds"], fn := fun _ => fun
  | [d1, d2, g1] => { results := [.lit (.bool true)], args := [d1, d2], vars := [g1] }
  | _ => none }
def fnExactHeightsOfRow : OpenClaim := { program := "ytinhfbigahpkjaadoor", sum := "a663a0a8984db721bab4f3f5ac1439d0dde6925aed12fc629bc839f74660e4e7", func := "loop.example/g00745/laws.FnExactHeightsOf", spec := "fnExactHeightsOf", named := ["loop.example/g00745/impl.insKinds"], apart := false, laid := [("loop.example/g00745/impl.insKinds", laid_loop_example_g00745_impl_insKinds)] }
def FnExactHeightsOfSaid : Prop := fnExactHeightsOfRow.holds Tryd.pinned (OpenSpec.ofChange fnExactHeightsOfSpec)

/-- ITS FALSE NEIGHBOUR: 'it returns false'. Refute it at one input. -/
def fnExactHeightsOfWrong : ChangeSpec := { name := "fnExactHeightsOf", vars := ["loop.example/g00745/impl.insKinds"], fn := fun _ => fun
  | [d1, d2, g1] => { results := [.lit (.bool false)], args := [d1, d2], vars := [g1] }
  | _ => none }
def FnExactHeightsOfWrongFalsely : Prop := fnExactHeightsOfRow.holds Tryd.pinned (OpenSpec.ofChange fnExactHeightsOfWrong)

/-- 'laws.FnExactGoodCode': WHATEVER THE INPUT: true; the input reads as it did. -/
def fnExactGoodCodeSpec : ChangeSpec := { name := "fnExactGoodCode", vars := ["loop.example/g00745/impl.insKinds"], fn := fun _ => fun
  | [d1, d2, g1] => { results := [.lit (.bool true)], args := [d1, d2], vars := [g1] }
  | _ => none }
def fnExactGoodCodeRow : OpenClaim := { program := "ytinhfbigahpkjaadoor", sum := "a663a0a8984db721bab4f3f5ac1439d0dde6925aed12fc629bc839f74660e4e7", func := "loop.example/g00745/laws.FnExactGoodCode", spec := "fnExactGoodCode", named := ["loop.example/g00745/impl.insKinds"], apart := false, laid := [("loop.example/g00745/impl.insKinds", laid_loop_example_g00745_impl_insKinds)] }
def FnExactGoodCodeSaid : Prop := fnExactGoodCodeRow.holds Tryd.pinned (OpenSpec.ofChange fnExactGoodCodeSpec)

/-- ITS FALSE NEIGHBOUR: 'it returns false'. Refute it at one input. -/
def fnExactGoodCodeWrong : ChangeSpec := { name := "fnExactGoodCode", vars := ["loop.example/g00745/impl.insKinds"], fn := fun _ => fun
  | [d1, d2, g1] => { results := [.lit (.bool false)], args := [d1, d2], vars := [g1] }
  | _ => none }
def FnExactGoodCodeWrongFalsely : Prop := fnExactGoodCodeRow.holds Tryd.pinned (OpenSpec.ofChange fnExactGoodCodeWrong)

/-- 'laws.FnExactGoodImage': WHATEVER THE INPUT: true; the input reads as it did. -/
def fnExactGoodImageSpec : ChangeSpec := { name := "fnExactGoodImage", vars := ["loop.example/g00745/impl.insKinds"], fn := fun _ => fun
  | [d, g1] => { results := [.lit (.bool true)], args := [d], vars := [g1] }
  | _ => none }
def fnExactGoodImageRow : OpenClaim := { program := "ytinhfbigahpkjaadoor", sum := "a663a0a8984db721bab4f3f5ac1439d0dde6925aed12fc629bc839f74660e4e7", func := "loop.example/g00745/laws.FnExactGoodImage", spec := "fnExactGoodImage", named := ["loop.example/g00745/impl.insKinds"], apart := false, laid := [("loop.example/g00745/impl.insKinds", laid_loop_example_g00745_impl_insKinds)] }
def FnExactGoodImageSaid : Prop := fnExactGoodImageRow.holds Tryd.pinned (OpenSpec.ofChange fnExactGoodImageSpec)

/-- ITS FALSE NEIGHBOUR: 'it returns false'. Refute it at one input. -/
def fnExactGoodImageWrong : ChangeSpec := { name := "fnExactGoodImage", vars := ["loop.example/g00745/impl.insKinds"], fn := fun _ => fun
  | [d, g1] => { results := [.lit (.bool false)], args := [d], vars := [g1] }
  | _ => none }
def FnExactGoodImageWrongFalsely : Prop := fnExactGoodImageRow.holds Tryd.pinned (OpenSpec.ofChange fnExactGoodImageWrong)

/-- 'laws.FnExactNextOf': WHATEVER THE INPUT: true; the input reads as it did. -/
def fnExactNextOfSpec : ChangeSpec := { name := "fnExactNextOf", vars := ["loop.example/g00745/impl.insKinds"], fn := fun _ => fun
  | [d1, d2, g1] => { results := [.lit (.bool true)], args := [d1, d2], vars := [g1] }
  | _ => none }
def fnExactNextOfRow : OpenClaim := { program := "ytinhfbigahpkjaadoor", sum := "a663a0a8984db721bab4f3f5ac1439d0dde6925aed12fc629bc839f74660e4e7", func := "loop.example/g00745/laws.FnExactNextOf", spec := "fnExactNextOf", named := ["loop.example/g00745/impl.insKinds"], apart := false, laid := [("loop.example/g00745/impl.insKinds", laid_loop_example_g00745_impl_insKinds)] }
def FnExactNextOfSaid : Prop := fnExactNextOfRow.holds Tryd.pinned (OpenSpec.ofChange fnExactNextOfSpec)

/-- ITS FALSE NEIGHBOUR: 'it returns false'. Refute it at one input. -/
def fnExactNextOfWrong : ChangeSpec := { name := "fnExactNextOf", vars := ["loop.example/g00745/impl.insKinds"], fn := fun _ => fun
  | [d1, d2, g1] => { results := [.lit (.bool false)], args := [d1, d2], vars := [g1] }
  | _ => none }
def FnExactNextOfWrongFalsely : Prop := fnExactNextOfRow.holds Tryd.pinned (OpenSpec.ofChange fnExactNextOfWrong)

/-- 'laws.FnExactTakesPuts': WHATEVER THE INPUT: true; the input reads as it did. -/
def fnExactTakesPutsSpec : ChangeSpec := { name := "fnExactTakesPuts", vars := ["loop.example/g00745/impl.insKinds"], fn := fun _ => fun
  | [d1, d2, g1] => { results := [.lit (.bool true)], args := [d1, d2], vars := [g1] }
  | _ => none }
def fnExactTakesPutsRow : OpenClaim := { program := "ytinhfbigahpkjaadoor", sum := "a663a0a8984db721bab4f3f5ac1439d0dde6925aed12fc629bc839f74660e4e7", func := "loop.example/g00745/laws.FnExactTakesPuts", spec := "fnExactTakesPuts", named := ["loop.example/g00745/impl.insKinds"], apart := false, laid := [("loop.example/g00745/impl.insKinds", laid_loop_example_g00745_impl_insKinds)] }
def FnExactTakesPutsSaid : Prop := fnExactTakesPutsRow.holds Tryd.pinned (OpenSpec.ofChange fnExactTakesPutsSpec)

/-- ITS FALSE NEIGHBOUR: 'it returns false'. Refute it at one input. -/
def fnExactTakesPutsWrong : ChangeSpec := { name := "fnExactTakesPuts", vars := ["loop.example/g00745/impl.insKinds"], fn := fun _ => fun
  | [d1, d2, g1] => { results := [.lit (.bool false)], args := [d1, d2], vars := [g1] }
  | _ => none }
def FnExactTakesPutsWrongFalsely : Prop := fnExactTakesPutsRow.holds Tryd.pinned (OpenSpec.ofChange fnExactTakesPutsWrong)

/-- 'laws.FnExactInsText': WHATEVER THE INPUT: true; the input reads as it did. -/
def fnExactInsTextSpec : ChangeSpec := { name := "fnExactInsText", vars := ["loop.example/g00745/impl.insKinds"], fn := fun _ => fun
  | [d, g1] => { results := [.lit (.bool true)], args := [d], vars := [g1] }
  | _ => none }
def fnExactInsTextRow : OpenClaim := { program := "ytinhfbigahpkjaadoor", sum := "a663a0a8984db721bab4f3f5ac1439d0dde6925aed12fc629bc839f74660e4e7", func := "loop.example/g00745/laws.FnExactInsText", spec := "fnExactInsText", recurses := true, named := ["loop.example/g00745/impl.insKinds", "internal/strconv.uint64pow10", "math/bits.deBruijn32tab", "math/bits.deBruijn64tab"], apart := false, laid := [("math/bits.deBruijn32tab", laid_math_bits_deBruijn32tab), ("math/bits.deBruijn64tab", laid_math_bits_deBruijn64tab), ("internal/strconv.uint64pow10", laid_internal_strconv_uint64pow10), ("loop.example/g00745/impl.insKinds", laid_loop_example_g00745_impl_insKinds)] }
def FnExactInsTextSaid : Prop := fnExactInsTextRow.holds Tryd.pinned (OpenSpec.ofChange fnExactInsTextSpec)

/-- ITS FALSE NEIGHBOUR: 'it returns false'. Refute it at one input. -/
def fnExactInsTextWrong : ChangeSpec := { name := "fnExactInsText", vars := ["loop.example/g00745/impl.insKinds"], fn := fun _ => fun
  | [d, g1] => { results := [.lit (.bool false)], args := [d], vars := [g1] }
  | _ => none }
def FnExactInsTextWrongFalsely : Prop := fnExactInsTextRow.holds Tryd.pinned (OpenSpec.ofChange fnExactInsTextWrong)

/- THE SECOND FORM. 'bulk': how many values and letters a reading holds, each counted each time it is reached (what is shared counts as often as it is met; a slice's spare places count too). A statement '..UptoSaid' is the law's where the arguments, and the package variables that the reading takes, are together of bulk at most 1048576: NARROWER than '..Said'. Prove '..Said' where nothing that the law and all that it calls make is longer than what came in: it says more and counts as full. Else prove '..UptoSaid'. A law counts once. -/
mutual
def uptoBulk {H : Type} : DataW H → Nat
  | .lit (.string bytes) => bytes.length + 1
  | .lit _ => 1
  | .nil => 1
  | .ptr d => uptoBulk d + 1
  | .slice elems spare => uptoBulkAll elems + uptoBulkAll spare + 1
  | .agg parts => uptoBulkAll parts + 1
  | .iface _ d => uptoBulk d + 1
  | .map entries => uptoBulkEntries entries + 1
  | .held _ => 1
def uptoBulkAll {H : Type} : List (DataW H) → Nat
  | [] => 0
  | d :: r => uptoBulk d + uptoBulkAll r
def uptoBulkEntries {H : Type} : List (Lit × DataW H) → Nat
  | [] => 0
  | x :: r => uptoBulkEntry x + uptoBulkEntries r
def uptoBulkEntry {H : Type} : Lit × DataW H → Nat
  | (.string bytes, d) => bytes.length + uptoBulk d + 1
  | (_, d) => uptoBulk d + 1
 end
def uptoSmall : (H : Type) → List (DataW H) → Bool := fun _ ds => decide (uptoBulkAll ds ≤ 1048576)
def OpenSpec.upto (s : _root_.Go.ChangeSpec) : _root_.Go.OpenSpec := { _root_.Go.OpenSpec.ofChange s with cond := some uptoSmall }

/-- 'laws.FnExactHeightsOf', WHERE WHAT IT READS IS OF BULK AT MOST 1048576: true; the input reads as it did. -/
def fnExactHeightsOfUptoRow : OpenClaim := { program := "ytinhfbigahpkjaadoor", sum := "a663a0a8984db721bab4f3f5ac1439d0dde6925aed12fc629bc839f74660e4e7", func := "loop.example/g00745/laws.FnExactHeightsOf", spec := "fnExactHeightsOf", named := ["loop.example/g00745/impl.insKinds"], apart := false, laid := [("loop.example/g00745/impl.insKinds", laid_loop_example_g00745_impl_insKinds)], narrowed := true }
def FnExactHeightsOfUptoSaid : Prop := fnExactHeightsOfUptoRow.holds Tryd.pinned (OpenSpec.upto fnExactHeightsOfSpec)

/-- 'laws.FnExactGoodCode', WHERE WHAT IT READS IS OF BULK AT MOST 1048576: true; the input reads as it did. -/
def fnExactGoodCodeUptoRow : OpenClaim := { program := "ytinhfbigahpkjaadoor", sum := "a663a0a8984db721bab4f3f5ac1439d0dde6925aed12fc629bc839f74660e4e7", func := "loop.example/g00745/laws.FnExactGoodCode", spec := "fnExactGoodCode", named := ["loop.example/g00745/impl.insKinds"], apart := false, laid := [("loop.example/g00745/impl.insKinds", laid_loop_example_g00745_impl_insKinds)], narrowed := true }
def FnExactGoodCodeUptoSaid : Prop := fnExactGoodCodeUptoRow.holds Tryd.pinned (OpenSpec.upto fnExactGoodCodeSpec)

/-- 'laws.FnExactGoodImage', WHERE WHAT IT READS IS OF BULK AT MOST 1048576: true; the input reads as it did. -/
def fnExactGoodImageUptoRow : OpenClaim := { program := "ytinhfbigahpkjaadoor", sum := "a663a0a8984db721bab4f3f5ac1439d0dde6925aed12fc629bc839f74660e4e7", func := "loop.example/g00745/laws.FnExactGoodImage", spec := "fnExactGoodImage", named := ["loop.example/g00745/impl.insKinds"], apart := false, laid := [("loop.example/g00745/impl.insKinds", laid_loop_example_g00745_impl_insKinds)], narrowed := true }
def FnExactGoodImageUptoSaid : Prop := fnExactGoodImageUptoRow.holds Tryd.pinned (OpenSpec.upto fnExactGoodImageSpec)

/-- 'laws.FnExactNextOf', WHERE WHAT IT READS IS OF BULK AT MOST 1048576: true; the input reads as it did. -/
def fnExactNextOfUptoRow : OpenClaim := { program := "ytinhfbigahpkjaadoor", sum := "a663a0a8984db721bab4f3f5ac1439d0dde6925aed12fc629bc839f74660e4e7", func := "loop.example/g00745/laws.FnExactNextOf", spec := "fnExactNextOf", named := ["loop.example/g00745/impl.insKinds"], apart := false, laid := [("loop.example/g00745/impl.insKinds", laid_loop_example_g00745_impl_insKinds)], narrowed := true }
def FnExactNextOfUptoSaid : Prop := fnExactNextOfUptoRow.holds Tryd.pinned (OpenSpec.upto fnExactNextOfSpec)

/-- 'laws.FnExactTakesPuts', WHERE WHAT IT READS IS OF BULK AT MOST 1048576: true; the input reads as it did. -/
def fnExactTakesPutsUptoRow : OpenClaim := { program := "ytinhfbigahpkjaadoor", sum := "a663a0a8984db721bab4f3f5ac1439d0dde6925aed12fc629bc839f74660e4e7", func := "loop.example/g00745/laws.FnExactTakesPuts", spec := "fnExactTakesPuts", named := ["loop.example/g00745/impl.insKinds"], apart := false, laid := [("loop.example/g00745/impl.insKinds", laid_loop_example_g00745_impl_insKinds)], narrowed := true }
def FnExactTakesPutsUptoSaid : Prop := fnExactTakesPutsUptoRow.holds Tryd.pinned (OpenSpec.upto fnExactTakesPutsSpec)

/-- 'laws.FnExactInsText', WHERE WHAT IT READS IS OF BULK AT MOST 1048576: true; the input reads as it did. -/
def fnExactInsTextUptoRow : OpenClaim := { program := "ytinhfbigahpkjaadoor", sum := "a663a0a8984db721bab4f3f5ac1439d0dde6925aed12fc629bc839f74660e4e7", func := "loop.example/g00745/laws.FnExactInsText", spec := "fnExactInsText", recurses := true, named := ["loop.example/g00745/impl.insKinds", "internal/strconv.uint64pow10", "math/bits.deBruijn32tab", "math/bits.deBruijn64tab"], apart := false, laid := [("math/bits.deBruijn32tab", laid_math_bits_deBruijn32tab), ("math/bits.deBruijn64tab", laid_math_bits_deBruijn64tab), ("internal/strconv.uint64pow10", laid_internal_strconv_uint64pow10), ("loop.example/g00745/impl.insKinds", laid_loop_example_g00745_impl_insKinds)], narrowed := true }
def FnExactInsTextUptoSaid : Prop := fnExactInsTextUptoRow.holds Tryd.pinned (OpenSpec.upto fnExactInsTextSpec)

end Rows
end Go.Proofs.YtinhfbigahpkjaaDoor

/-
  No cell of these rows narrows 'for every input' (looked for: loops, veiled, ifaces, maps, wideKeys, modest, calm, conditions, laid).
  DERIVED. THE GIVEN ROWS OF THIS SEAT. 5 by the template 'for every input the law returns true; each argument reads behind the call as it read before'; 0 by the template 'total and deterministic' (their statements: YtfdijeeilfhjeaaTotals.lean).
  GIVEN WITH THE SEED: the statements are not yours to turn. If you find one false, say at which input.
  Laid BY PROGRAM, IN A SANDBOX (cutbox-rows.mjs): the forced cells as the released guide's own fill.sh prints them over the translation f9eb1f606c79d38f… (all of the seat's roots in one cut). By AI agents, Wed Nov 11 2026. No macro, syntax, notation, axiom, sorry.
-/
import Derived.Test.YtfdijeeilfhjeaaChecked
import GoSem.Claim
import GoSem.ClaimJoined
import GoSem.ClaimMapViews
import Derived.JoinedTies
import Derived.KernelRfl
namespace Go.Proofs.Ytfdijeeilfhjeaa
/- THE CELL 'sum', in the pinned program and in every row, IS THE sha256 OF THE DUMP (.gsa) THAT YtfdijeeilfhjeaaProg.lean LOADS. Nothing in Lean hashes anything: it is a label: what it is worth is what the hold of that sum in a sandbox is worth. -/
noncomputable def Try.pinned : Pinned := { name := "ytfdijeeilfhjeaa", sum := "f9eb1f606c79d38f6734a6066b83e1482c09840d3f96dd7541e43df0d9a4f835", checked := Try.checked }
namespace Rows
def none {H : Type} : Left H := { results := [], args := [] }

/-- 'laws.FnExactPadOf': WHATEVER THE INPUT: true; the input reads as it did. -/
def fnExactPadOfSpec : ChangeSpec := { name := "fnExactPadOf", fn := fun _ => fun
  | [d] => { results := [.lit (.bool true)], args := [d] }
  | _ => none }
def fnExactPadOfRow : OpenClaim := { program := "ytfdijeeilfhjeaa", sum := "f9eb1f606c79d38f6734a6066b83e1482c09840d3f96dd7541e43df0d9a4f835", func := "loop.example/g00745/laws.FnExactPadOf", spec := "fnExactPadOf", apart := false }
def FnExactPadOfSaid : Prop := fnExactPadOfRow.holds Try.pinned (OpenSpec.ofChange fnExactPadOfSpec)

/-- ITS FALSE NEIGHBOUR: 'it returns false'. Refute it at one input. -/
def fnExactPadOfWrong : ChangeSpec := { name := "fnExactPadOf", fn := fun _ => fun
  | [d] => { results := [.lit (.bool false)], args := [d] }
  | _ => none }
def FnExactPadOfWrongFalsely : Prop := fnExactPadOfRow.holds Try.pinned (OpenSpec.ofChange fnExactPadOfWrong)

/-- 'laws.FnExactSiteOf': WHATEVER THE INPUT: true; the input reads as it did. -/
def fnExactSiteOfSpec : ChangeSpec := { name := "fnExactSiteOf", fn := fun _ => fun
  | [d1, d2, d3] => { results := [.lit (.bool true)], args := [d1, d2, d3] }
  | _ => none }
def fnExactSiteOfRow : OpenClaim := { program := "ytfdijeeilfhjeaa", sum := "f9eb1f606c79d38f6734a6066b83e1482c09840d3f96dd7541e43df0d9a4f835", func := "loop.example/g00745/laws.FnExactSiteOf", spec := "fnExactSiteOf", unfollowed := true, recurses := true, apart := false }
def FnExactSiteOfSaid : Prop := fnExactSiteOfRow.holds Try.pinned (OpenSpec.ofChange fnExactSiteOfSpec)

/-- ITS FALSE NEIGHBOUR: 'it returns false'. Refute it at one input. -/
def fnExactSiteOfWrong : ChangeSpec := { name := "fnExactSiteOf", fn := fun _ => fun
  | [d1, d2, d3] => { results := [.lit (.bool false)], args := [d1, d2, d3] }
  | _ => none }
def FnExactSiteOfWrongFalsely : Prop := fnExactSiteOfRow.holds Try.pinned (OpenSpec.ofChange fnExactSiteOfWrong)

/-- 'laws.FnExactLongOf': WHATEVER THE INPUT: true; the input reads as it did. -/
def fnExactLongOfSpec : ChangeSpec := { name := "fnExactLongOf", fn := fun _ => fun
  | [d1, d2] => { results := [.lit (.bool true)], args := [d1, d2] }
  | _ => none }
def fnExactLongOfRow : OpenClaim := { program := "ytfdijeeilfhjeaa", sum := "f9eb1f606c79d38f6734a6066b83e1482c09840d3f96dd7541e43df0d9a4f835", func := "loop.example/g00745/laws.FnExactLongOf", spec := "fnExactLongOf", unfollowed := true, recurses := true, apart := false }
def FnExactLongOfSaid : Prop := fnExactLongOfRow.holds Try.pinned (OpenSpec.ofChange fnExactLongOfSpec)

/-- ITS FALSE NEIGHBOUR: 'it returns false'. Refute it at one input. -/
def fnExactLongOfWrong : ChangeSpec := { name := "fnExactLongOf", fn := fun _ => fun
  | [d1, d2] => { results := [.lit (.bool false)], args := [d1, d2] }
  | _ => none }
def FnExactLongOfWrongFalsely : Prop := fnExactLongOfRow.holds Try.pinned (OpenSpec.ofChange fnExactLongOfWrong)

/-- 'laws.FnExactSitesOf': WHATEVER THE INPUT: true; the input reads as it did. -/
def fnExactSitesOfSpec : ChangeSpec := { name := "fnExactSitesOf", fn := fun _ => fun
  | [d] => { results := [.lit (.bool true)], args := [d] }
  | _ => none }
def fnExactSitesOfRow : OpenClaim := { program := "ytfdijeeilfhjeaa", sum := "f9eb1f606c79d38f6734a6066b83e1482c09840d3f96dd7541e43df0d9a4f835", func := "loop.example/g00745/laws.FnExactSitesOf", spec := "fnExactSitesOf", unfollowed := true, recurses := true, apart := false }
def FnExactSitesOfSaid : Prop := fnExactSitesOfRow.holds Try.pinned (OpenSpec.ofChange fnExactSitesOfSpec)

/-- ITS FALSE NEIGHBOUR: 'it returns false'. Refute it at one input. -/
def fnExactSitesOfWrong : ChangeSpec := { name := "fnExactSitesOf", fn := fun _ => fun
  | [d] => { results := [.lit (.bool false)], args := [d] }
  | _ => none }
def FnExactSitesOfWrongFalsely : Prop := fnExactSitesOfRow.holds Try.pinned (OpenSpec.ofChange fnExactSitesOfWrong)

/-- 'laws.FnProgs': WHATEVER THE INPUT: true; the input reads as it did. -/
def fnProgsSpec : ChangeSpec := { name := "fnProgs", fn := fun _ => fun
  | [d1, d2] => { results := [.lit (.bool true)], args := [d1, d2] }
  | _ => none }
def fnProgsRow : OpenClaim := { program := "ytfdijeeilfhjeaa", sum := "f9eb1f606c79d38f6734a6066b83e1482c09840d3f96dd7541e43df0d9a4f835", func := "loop.example/g00745/laws.FnProgs", spec := "fnProgs", unfollowed := true, recurses := true, apart := false }
def FnProgsSaid : Prop := fnProgsRow.holds Try.pinned (OpenSpec.ofChange fnProgsSpec)

/-- ITS FALSE NEIGHBOUR: 'it returns false'. Refute it at one input. -/
def fnProgsWrong : ChangeSpec := { name := "fnProgs", fn := fun _ => fun
  | [d1, d2] => { results := [.lit (.bool false)], args := [d1, d2] }
  | _ => none }
def FnProgsWrongFalsely : Prop := fnProgsRow.holds Try.pinned (OpenSpec.ofChange fnProgsWrong)

/- THE SECOND FORM. 'bulk': how many values and letters a reading holds, each counted each time it is reached (what is shared counts as often as it is met; a slice's spare places count too). A statement '..UptoSaid' is the law's where the arguments, and the package variables that the reading takes, are together of bulk at most 1048576: NARROWER than '..Said'. Prove '..Said' where nothing that the law and all that it calls make is longer than what came in: it says more and counts as full. Else prove '..UptoSaid'. A law counts once. -/
mutual
def uptoBulk {H : Type} : DataW H → Nat
  | .lit (.string bytes) => bytes.length + 1
  | .lit _ => 1
  | .nil => 1
  | .ptr d => uptoBulk d + 1
  | .slice elems spare => uptoBulkAll elems + uptoBulkAll spare + 1
  | .agg parts => uptoBulkAll parts + 1
  | .iface _ d => uptoBulk d + 1
  | .map entries => uptoBulkEntries entries + 1
  | .held _ => 1
def uptoBulkAll {H : Type} : List (DataW H) → Nat
  | [] => 0
  | d :: r => uptoBulk d + uptoBulkAll r
def uptoBulkEntries {H : Type} : List (Lit × DataW H) → Nat
  | [] => 0
  | x :: r => uptoBulkEntry x + uptoBulkEntries r
def uptoBulkEntry {H : Type} : Lit × DataW H → Nat
  | (.string bytes, d) => bytes.length + uptoBulk d + 1
  | (_, d) => uptoBulk d + 1
 end
def uptoSmall : (H : Type) → List (DataW H) → Bool := fun _ ds => decide (uptoBulkAll ds ≤ 1048576)
def OpenSpec.upto (s : _root_.Go.ChangeSpec) : _root_.Go.OpenSpec := { _root_.Go.OpenSpec.ofChange s with cond := some uptoSmall }

/-- 'laws.FnExactPadOf', WHERE WHAT IT READS IS OF BULK AT MOST 1048576: true; the input reads as it did. -/
def fnExactPadOfUptoRow : OpenClaim := { program := "ytfdijeeilfhjeaa", sum := "f9eb1f606c79d38f6734a6066b83e1482c09840d3f96dd7541e43df0d9a4f835", func := "loop.example/g00745/laws.FnExactPadOf", spec := "fnExactPadOf", apart := false, narrowed := true }
def FnExactPadOfUptoSaid : Prop := fnExactPadOfUptoRow.holds Try.pinned (OpenSpec.upto fnExactPadOfSpec)

/-- 'laws.FnExactSiteOf', WHERE WHAT IT READS IS OF BULK AT MOST 1048576: true; the input reads as it did. -/
def fnExactSiteOfUptoRow : OpenClaim := { program := "ytfdijeeilfhjeaa", sum := "f9eb1f606c79d38f6734a6066b83e1482c09840d3f96dd7541e43df0d9a4f835", func := "loop.example/g00745/laws.FnExactSiteOf", spec := "fnExactSiteOf", unfollowed := true, recurses := true, apart := false, narrowed := true }
def FnExactSiteOfUptoSaid : Prop := fnExactSiteOfUptoRow.holds Try.pinned (OpenSpec.upto fnExactSiteOfSpec)

/-- 'laws.FnExactLongOf', WHERE WHAT IT READS IS OF BULK AT MOST 1048576: true; the input reads as it did. -/
def fnExactLongOfUptoRow : OpenClaim := { program := "ytfdijeeilfhjeaa", sum := "f9eb1f606c79d38f6734a6066b83e1482c09840d3f96dd7541e43df0d9a4f835", func := "loop.example/g00745/laws.FnExactLongOf", spec := "fnExactLongOf", unfollowed := true, recurses := true, apart := false, narrowed := true }
def FnExactLongOfUptoSaid : Prop := fnExactLongOfUptoRow.holds Try.pinned (OpenSpec.upto fnExactLongOfSpec)

/-- 'laws.FnExactSitesOf', WHERE WHAT IT READS IS OF BULK AT MOST 1048576: true; the input reads as it did. -/
def fnExactSitesOfUptoRow : OpenClaim := { program := "ytfdijeeilfhjeaa", sum := "f9eb1f606c79d38f6734a6066b83e1482c09840d3f96dd7541e43df0d9a4f835", func := "loop.example/g00745/laws.FnExactSitesOf", spec := "fnExactSitesOf", unfollowed := true, recurses := true, apart := false, narrowed := true }
def FnExactSitesOfUptoSaid : Prop := fnExactSitesOfUptoRow.holds Try.pinned (OpenSpec.upto fnExactSitesOfSpec)

/-- 'laws.FnProgs', WHERE WHAT IT READS IS OF BULK AT MOST 1048576: true; the input reads as it did. -/
def fnProgsUptoRow : OpenClaim := { program := "ytfdijeeilfhjeaa", sum := "f9eb1f606c79d38f6734a6066b83e1482c09840d3f96dd7541e43df0d9a4f835", func := "loop.example/g00745/laws.FnProgs", spec := "fnProgs", unfollowed := true, recurses := true, apart := false, narrowed := true }
def FnProgsUptoSaid : Prop := fnProgsUptoRow.holds Try.pinned (OpenSpec.upto fnProgsSpec)

end Rows
end Go.Proofs.Ytfdijeeilfhjeaa

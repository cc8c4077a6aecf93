/-
  Proved: for every text and place the program's ReadListU gives the same list, place and truth as the reference ReadListU, and each answer has memory of its own; the law FnExactReadListU returns true at every argument.
  Conditions: none beyond those that the given row itself prints.
-/
import Derived.Test.YtogkpkcpcakakaaRows
import Derived.Test.YtogkpkcpcakakaaMarks
import Derived.WalkKit
import Derived.ProofKit
import Derived.OpenShut
import Derived.Below
import Derived.ShutString
namespace Go.Proofs.Ytogkpkcpcakakaa.fnExactReadListU
open Go.ChangeShapes Go.WideShapes Go.ChangeAt Go.RowKit Leb
open Go.ChangeMaps (open_string shut_string)
set_option linter.unusedVariables false

theorem own : ownKnob Try.prog.godebug = none := by kernel_rfl

/-! The walk: the functions are taken by their contracts, which name one and the same answer. -/
set_option maxHeartbeats 400000 in
set_option maxRecDepth 100000 in
theorem walk (a0 : ByteArray) (a1 : Int) (w0 : a0.size ≤ maxLen) (w1 : (Lit.int .i64 a1).wf = true) (w : World) :
    Calls Try.prog 12 #[.string a0, .int .i64 a1] w fun e w' => e = .returned (.bool true) ∧ Below w.heap.size w w' := by
  have h1 : -9223372036854775808 ≤ a1 ∧ a1 ≤ 9223372036854775807 := bounds_i64 w1
  unfold maxLen at w0
  by_cases hbig : (1048576 : Int) < (a0.size : Int)
  · go_enter Try.func12, Try.ntmps12
    go_wp2
    go_ret
    exact ⟨rfl, Below.refl _ _⟩
  · match hp : listAt a0 a1 with
    | none =>
      have HP := put hp; clear hp
      go_enter Try.func12, Try.ntmps12
      go_wp2_with fail
      refine (specReadList_is a0 a1 _ w0).mono ?_
      rintro e w1 ⟨_, hn1, hb1⟩
      obtain rfl := hn1 HP.out
      go_wp2_with fail
      refine (readList_is a0 a1 _ w0).mono ?_
      rintro e w2 ⟨_, hn2, hb2⟩
      obtain rfl := hn2 HP.out
      have hb12 : Below w.heap.size w w2 := hb1.trans (hb2.mono hb1.size)
      clear hn1 hn2 hb1 hb2
      go_wp2_with fail
      refine (eqU_same none none 0 0 0 [] _ ⟨rfl, fun h => absurd h (by omega)⟩ ⟨rfl, fun h => absurd h (by omega)⟩ (by omega)).mono ?_
      rintro e w3 ⟨rfl, q, rfl⟩
      have hb13 : Below w.heap.size w (w2.drewN q) := ⟨hb12.os, hb12.tape, hb12.output, hb12.size, hb12.block⟩
      generalize w2.drewN q = w3 at *
      go_wp2_with fail
      refine (mark_nil _).mono ?_
      rintro e w4 ⟨rfl, rfl⟩
      go_wp2_with fail
      refine (held_nil _).mono ?_
      rintro e w5 ⟨rfl, rfl⟩
      go_wp2_with fail
      refine (readList_is a0 a1 _ w0).mono ?_
      rintro e w6 ⟨_, hn6, hb6⟩
      obtain rfl := hn6 HP.out
      have hb16 : Below w.heap.size w w6 := hb13.trans (hb6.mono hb13.size)
      clear hn6 hb6
      go_wp2_with fail
      refine (eqU_same none none 0 0 0 [] _ ⟨rfl, fun h => absurd h (by omega)⟩ ⟨rfl, fun h => absurd h (by omega)⟩ (by omega)).mono ?_
      rintro e w7 ⟨rfl, q7, rfl⟩
      have hb17 : Below w.heap.size w (w6.drewN q7) := ⟨hb16.os, hb16.tape, hb16.output, hb16.size, hb16.block⟩
      generalize w6.drewN q7 = w7 at *
      go_wp2_with fail
      refine (held_nil _).mono ?_
      rintro e w8 ⟨rfl, rfl⟩
      go_wp2
      go_ret
      exact ⟨rfl, hb17⟩
    | some (l, p) =>
      have hl : l.length ≤ 1048576 := by have := listAt_length hp; omega
      have HP := put hp; clear hp
      go_enter Try.func12, Try.ntmps12
      go_wp2_with fail
      refine (specReadList_is a0 a1 _ w0).mono ?_
      rintro e w1 ⟨hs1, _, hb1⟩
      obtain ⟨v, rfl, hnums⟩ := hs1 l p HP.out
      obtain ⟨A, c, rfl, hrd⟩ := hnums.reads
      clear hs1 hnums
      go_wp2_with fail
      refine (readList_is a0 a1 _ w0).mono ?_
      rintro e w2 ⟨hs2, _, hb2⟩
      obtain ⟨rfl, hroom2⟩ := hs2 l p HP.out
      clear hs2
      have hrd2 := (hrd.below hb2).more hb2.size
      go_wp2_with fail
      refine (eqU_same _ _ _ _ _ l _ (hroom2.reads rfl) hrd2 hl).mono ?_
      rintro e w3 ⟨rfl, q, rfl⟩
      have hb13 : Below w1.heap.size w1 (w2.drewN q) := ⟨hb2.os, hb2.tape, hb2.output, hb2.size, hb2.block⟩
      have hroom3 : Room (w2.drewN q) w1.heap.size 24 l.length .u64 l := hroom2
      clear hroom2 hrd2 hb2
      generalize w2.drewN q = w3 at *
      go_wp2_with fail
      refine (mark_any _ _ l _ hroom3 hl).mono ?_
      rintro e w4 ⟨rfl, hroom4, hg4⟩
      have hb14 : Below w1.heap.size w1 w4 := hb13.grown hg4 hb13.size (fun k hk => by injection hk with hk; omega)
      clear hroom3 hb13 hg4
      go_wp2_with fail
      refine (held_any _ _ _ hroom4 hl).mono ?_
      rintro e w5 ⟨rfl, rfl⟩
      go_wp2_with fail
      refine (readList_is a0 a1 _ w0).mono ?_
      rintro e w6 ⟨hs6, _, hb6⟩
      obtain ⟨rfl, hroom6⟩ := hs6 l p HP.out
      clear hs6
      have hb16 : Below w1.heap.size w1 w6 := hb14.trans (hb6.mono hb14.size)
      have hrd6 := (hrd.below hb16).more hb16.size
      have hroom46 := hroom4.below hb6 hroom4.lt
      clear hb14 hroom4
      go_wp2_with fail
      refine (eqU_same _ _ _ _ _ l _ (hroom6.reads rfl) hrd6 hl).mono ?_
      rintro e w7 ⟨rfl, q7, rfl⟩
      have hb17 : Below w1.heap.size w1 (w6.drewN q7) := ⟨hb16.os, hb16.tape, hb16.output, hb16.size, hb16.block⟩
      have hroom7 : Room (w6.drewN q7) w1.heap.size 24 l.length .u64 (ups l.length) := hroom46
      clear hroom46 hroom6 hrd6 hb16 hb6
      generalize w6.drewN q7 = w7 at *
      go_wp2_with fail
      refine (held_any _ _ _ hroom7 hl).mono ?_
      rintro e w8 ⟨rfl, rfl⟩
      go_wp2
      go_ret
      exact ⟨rfl, hb1.trans (hb17.mono hb1.size)⟩

/-! From the walk to the given row. -/
set_option maxRecDepth 100000 in
theorem lifted (os : Os) (started : os.Started) (H : Type) (enc : TypeId × Value → H) :
    ReturnsInHanded {} Try.checked os 12 .any (Rows.fnExactReadListUSpec.pre6 enc Try.prog Try.f12 Rows.fnExactReadListURow.domain false) (Rows.fnExactReadListUSpec.post enc Try.prog Try.f12 false true false false) := by
  refine returnsInHanded_of_change (C := Try.checked) own started (by kernel_rfl) Try.func12
    (ChangeSpec.witness6 (enc := enc) (C := Try.checked) false ⟨#[], #[.string ByteArray.empty, .int .i64 0], []⟩ 8 (by kernel_rfl) (by kernel_rfl) (by kernel_rfl) (by kernel_rfl)) ?_
  intro W base args ds gs before hval0 hW hcnd _
  have hval : ∀ (j : Nat) t v, Try.f12.params[j]? = some t → args[j]? = some v → Value.okWide Try.prog W .any base t v := hval0
  have hW' := hW
  obtain ⟨p, q, hA0, hV, rfl, hfz, hnd⟩ := hW
  have hA : DataW.TrodAll enc Try.prog W 0 (fun _ => true) true Try.f12.params.toList args.toList ds p := hA0
  rw [Try.params12] at hA hval
  obtain ⟨v0, vs0, d0, ds0, p0, q0, hargs, rfl, rfl, h0, r0⟩ := trodAll_cons hA
  obtain ⟨v1, vs1, d1, ds1, p1, q1, rfl, rfl, rfl, h1, r1⟩ := trodAll_cons r0
  obtain ⟨rfl, rfl, rfl⟩ := trodAll_nil r1
  obtain rfl : args = #[v0, v1] := by cases args; simp_all
  obtain ⟨rfl, rfl⟩ := trodVars_none hV
  obtain ⟨a0, rfl, rfl, rfl, w0⟩ := open_string Try.underlying9 (hval 0 9 v0 rfl rfl) h0
  obtain ⟨a1, rfl, rfl, rfl, w1⟩ := open_int Try.underlying3 (hval 1 3 v1 rfl rfl) h1
  clear hA0 hval0
  simp only [List.append_nil] at hW'
  refine (walk a0 a1 w0 w1 W).mono fun e W' ⟨he, hg⟩ => ?_
  subst he
  exact ⟨_, rfl, _, _, _, [], _, [], hW', (trodAll_cons_mk (shut_bool Try.underlying4 _) trodAll_mk0), (trodAll_cons_mk (shut_string Try.underlying9 w0) (trodAll_cons_mk (shut_int Try.underlying3 w1) trodAll_mk0)), rfl, hg.frame _, fun h => by cases h⟩

theorem over : Rows.fnExactReadListURow.holds Try.pinned (OpenSpec.ofChange Rows.fnExactReadListUSpec) :=
  OpenClaim.holds_of_wide 12 Try.f12 rfl rfl rfl rfl rfl rfl rfl ⟨rfl, rfl, rfl, rfl, rfl⟩ rfl rfl rfl rfl rfl (by kernel_rfl) Try.func12 (by kernel_rfl)
    (of_decide_eq_true (by kernel_rfl)) (by unfold Func.isWrapper; first | (rw [if_pos (by decide +kernel)]; kernel_rfl) | (rw [if_neg (by decide +kernel)]; exact ⟨rfl, rfl⟩))
    (fun os started H enc _ => lifted os started H enc)

/-- The given statement. -/
theorem proved : Rows.FnExactReadListUSaid :=
  over
#print axioms proved
end Go.Proofs.Ytogkpkcpcakakaa.fnExactReadListU

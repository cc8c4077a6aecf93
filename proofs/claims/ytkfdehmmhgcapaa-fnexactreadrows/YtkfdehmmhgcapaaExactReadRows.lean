/-
  Proved: at every text and number of instructions the program's ReadRows gives the same rows, code and truth as the reference ReadRows, and its answer has memory of its own; the law FnExactReadRows returns true at every argument.
  Conditions: none beyond those that the given row itself prints.
-/
import Derived.Test.YtkfdehmmhgcapaaRows
import Derived.Test.YtkfdehmmhgcapaaRwU
import Derived.Test.YtkfdehmmhgcapaaArgsR
import Derived.WalkKit
import Derived.ProofKit
import Derived.OpenShut
import Derived.ShutString
import Derived.ChangeOld
import Derived.Deep.RegionLaw
import Derived.Below
namespace Go.Proofs.Ytkfdehmmhgcapaa.fnExactReadRows
open Go.ChangeShapes Go.WideShapes Go.ChangeAt Go.RowKit Exs
open Go.ChangeMaps (open_string shut_string)
set_option linter.unusedVariables false

theorem own : ownKnob Try.prog.godebug = none := by kernel_rfl
theorem laidOut : laidOutB Try.prog = true := by kernel_rfl

/-! The walk: both functions by their contracts, whose answers are the same; the marks by theirs. -/
set_option maxHeartbeats 4000000 in
set_option maxRecDepth 100000 in
theorem walk (w : World) (s0 : ByteArray) (hs0 : s0.size ≤ maxLen) (a1 : Int) (w1 : (Lit.int .i64 a1).wf = true) :
    Calls Try.prog 8 #[.string s0, .int .i64 a1] w fun e w' => e = .returned (.bool true) ∧ Below w.heap.size w w' := by

  have hbs : s0.size ≤ 9223372036854775807 := by unfold maxLen at hs0; omega
  by_cases hbig : s0.size ≤ 1048576
  · have hans : ∃ rs p q, readRAns s0 a1 = (rs, p, q) := ⟨_, _, _, rfl⟩
    obtain ⟨xs, p, q, hpq⟩ := hans
    have HPQ := put hpq
    have HLEN := put (show xs.length ≤ 1048576 by have := readRAns_length (s := s0) (many := a1); rw [hpq] at this; exact Nat.le_trans this (by decide))
    clear hpq
    go_enter Try.func8, Try.ntmps8
    go_wp2_with fail
    refine (specReadRows_any s0 a1 _ hbs).mono ?_
    rw [HPQ.out]
    rintro e w3 ⟨vw, rfl, nw3, b3⟩
    go_wp2_with fail
    refine (implReadRows_any s0 a1 _ hbs).mono ?_
    rw [HPQ.out]
    rintro e w5 ⟨vg, rfl, ng5, c5⟩
    go_wp2_with fail
    refine (eqRws_any vg vw xs _ _ w5 ng5 (nw3.below c5) HLEN.out).mono ?_
    rintro e w8 ⟨rfl, hbz⟩
    have c8 : Below w3.heap.size w3 w8 := c5.trans (hbz.mono c5.size)
    have ng8 := ng5.below hbz
    clear hbz c5 ng5
    go_wp2_with fail
    refine (markRows_own vg xs.length (flat3 xs) _ w8 ng8 HLEN.out).mono ?_
    rintro e w9 ⟨rfl, ng9, hb9⟩
    have c9 : Below w3.heap.size w3 w9 := c8.trans hb9
    clear c8 ng8 hb9
    go_wp2_with fail
    refine (heldRows_own vg xs.length _ w9 ng9 HLEN.out).mono ?_
    rintro e w9q ⟨rfl, rfl⟩
    go_wp2_with fail
    refine (implReadRows_any s0 a1 _ hbs).mono ?_
    rw [HPQ.out]
    rintro e w11 ⟨vh, rfl, nh11, hb11⟩
    have c11 : Below w3.heap.size w3 w11 := c9.trans (hb11.mono c9.size)
    have ng11 := ng9.below hb11
    clear c9 ng9 hb11
    go_wp2_with fail
    refine (eqRws_any vh vw xs _ _ w11 nh11 (nw3.below c11) HLEN.out).mono ?_
    rintro e w12 ⟨rfl, hbz⟩
    have c12 : Below w3.heap.size w3 w12 := c11.trans (hbz.mono c11.size)
    have ng12 := ng11.below hbz
    clear hbz c11 ng11 nh11
    go_wp2_with fail
    refine (heldRows_own vg xs.length _ w12 ng12 HLEN.out).mono ?_
    rintro e w13 ⟨rfl, rfl⟩
    have b11 : Below w.heap.size w w12 := b3.trans (c12.mono b3.size)
    go_wp2
    go_ret
    exact ⟨rfl, b11⟩
  · replace hbig : 1048576 < s0.size := by omega
    go_enter Try.func8, Try.ntmps8
    go_wp2
    go_ret
    exact ⟨rfl, Below.refl _ _⟩

/-! From the walk to the given row. -/
set_option maxRecDepth 100000 in
theorem lifted (os : Os) (started : os.Started) (H : Type) (enc : TypeId × Value → H) :
    ReturnsInHanded {} Try.checked os 8 .any (Rows.fnExactReadRowsSpec.pre6 enc Try.prog Try.f8 Rows.fnExactReadRowsRow.domain false) (Rows.fnExactReadRowsSpec.post enc Try.prog Try.f8 false true false false) := by
  refine returnsInHanded_of_change (C := Try.checked) own started (by kernel_rfl) Try.func8
    (ChangeSpec.witness6 (enc := enc) (C := Try.checked) false ⟨#[], #[.string ⟨#[]⟩, .int .i64 0], []⟩ 8 (by kernel_rfl) (by kernel_rfl) (by kernel_rfl) (by kernel_rfl)) ?_
  intro W base args ds gs before hval0 hW hcnd _
  have hval : ∀ (j : Nat) t v, Try.f8.params[j]? = some t → args[j]? = some v → Value.okWide Try.prog W .any base t v := hval0
  have hW' := hW
  obtain ⟨p, q, hA0, hV, rfl, hfz, hnd⟩ := hW
  have hA : DataW.TrodAll enc Try.prog W 0 (fun _ => true) true Try.f8.params.toList args.toList ds p := hA0
  rw [Try.params8] at hA hval
  obtain ⟨v0, vs0, d0, ds0, p0, q0, hargs, rfl, rfl, h0, r0q⟩ := trodAll_cons hA
  obtain ⟨v1, vs1, d1, ds1, p1, q1, rfl, rfl, rfl, h1, r1q⟩ := trodAll_cons r0q
  obtain ⟨rfl, rfl, rfl⟩ := trodAll_nil r1q
  obtain rfl : args = #[v0, v1] := by cases args; simp_all
  obtain ⟨rfl, rfl⟩ := trodVars_none hV
  obtain ⟨s0, rfl, rfl, rfl, hs0⟩ := open_string Try.underlying9 (hval 0 9 v0 rfl rfl) h0
  obtain ⟨a1, rfl, rfl, rfl, w1⟩ := open_int Try.underlying3 (hval 1 3 v1 rfl rfl) h1
  clear hA0 hval0
  refine (walk W s0 hs0 a1 w1).mono fun e W' ⟨he, bel⟩ => ?_
  subst he
  exact ⟨_, rfl, _, _, _, [], _, [], hW', trodAll_mk1 (shut_bool Try.underlying4 _), (trodAll_cons_mk (shut_string Try.underlying9 hs0) (trodAll_cons_mk (shut_int Try.underlying3 w1) trodAll_mk0)), rfl, bel.frame _, fun h => by cases h⟩

theorem over : Rows.fnExactReadRowsRow.holds Try.pinned (OpenSpec.ofChange Rows.fnExactReadRowsSpec) :=
  OpenClaim.holds_of_wide 8 Try.f8 rfl rfl rfl rfl rfl rfl rfl ⟨rfl, rfl, rfl, rfl, rfl⟩ rfl rfl rfl rfl rfl (by kernel_rfl) Try.func8 (by kernel_rfl)
    (of_decide_eq_true (by kernel_rfl)) (by unfold Func.isWrapper; first | (rw [if_pos (by decide +kernel)]; kernel_rfl) | (rw [if_neg (by decide +kernel)]; exact ⟨rfl, rfl⟩))
    (fun os started H enc _ => lifted os started H enc)

/-- The given statement. -/
theorem proved : Rows.FnExactReadRowsSaid := over
#print axioms proved
end Go.Proofs.Ytkfdehmmhgcapaa.fnExactReadRows

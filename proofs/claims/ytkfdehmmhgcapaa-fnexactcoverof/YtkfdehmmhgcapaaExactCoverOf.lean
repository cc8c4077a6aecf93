/-
  Proved: at every list of rows and number of instructions the program's CoverOf gives the same answer as the reference CoverOf, leaves its argument as it was, and its answer has memory of its own; the law FnExactCoverOf returns true at every argument.
  Conditions: none beyond those that the given row itself prints.
-/
import Derived.Test.YtkfdehmmhgcapaaRows
import Derived.Test.YtkfdehmmhgcapaaRwC
import Derived.Test.YtkfdehmmhgcapaaCoEq
import Derived.Test.YtkfdehmmhgcapaaCoSz
import Derived.Test.YtkfdehmmhgcapaaArgsR
import Derived.WalkKit
import Derived.ProofKit
import Derived.OpenShut
import Derived.ShutString
import Derived.ChangeOld
import Derived.Deep.RegionLaw
import Derived.Below
namespace Go.Proofs.Ytkfdehmmhgcapaa.fnExactCoverOf
open Go.ChangeShapes Go.WideShapes Go.ChangeAt Go.RowKit Exs
open Go.ChangeMaps (open_string shut_string)
set_option linter.unusedVariables false

theorem own : ownKnob Try.prog.godebug = none := by kernel_rfl
theorem laidOut : laidOutB Try.prog = true := by kernel_rfl

/-! The walk: both functions by their contracts, whose answers are the same; the marks by theirs. -/
set_option maxHeartbeats 4000000 in
set_option maxRecDepth 100000 in
theorem walk (w : World) (A0 : Option Addr) (n0 c0 : Nat) (rs0 : List Row3) (r0 : ReadsR w w.heap.size A0 n0 rs0) (l0 : n0 ≤ maxLen) (a1 : Int) (w1 : (Lit.int .i64 a1).wf = true) :
    Calls Try.prog 5 #[.slice A0 n0 c0, .int .i64 a1] w fun e w' => e = .returned (.bool true) ∧ Below w.heap.size w w' := by

  by_cases hbig : ((n0 : Nat) : Int) ≤ 1048576
  · have hsz := szA_fit hbig
    have hn : n0 ≤ 1048576 := by omega
    have hsz0 : (0 : Int) ≤ 1048576 - ((n0 : Nat) : Int) := by omega
    have HN := put hn
    have HR := put r0
    have hans : ∃ xs q, coverAns a1 rs0 = (xs, q) := ⟨_, _, rfl⟩
    obtain ⟨xs, q, hpq⟩ := hans
    have HPQ := put hpq
    have HLEN := put (show xs.length ≤ 1048576 by have := coverAns_length (many := a1) (rs := rs0); rw [hpq] at this; exact Nat.le_trans this (by decide))
    clear hpq hbig
    go_enter Try.func5, Try.ntmps5
    go_wp2_with fail
    refine (szRows_any A0 n0 c0 1048576 _ l0 (by decide) (by decide)).mono ?_
    rintro e w1 ⟨rfl, rfl⟩
    rw [hsz]
    clear hsz
    go_wp2_with fail
    refine (toRows_m A0 n0 c0 rs0 _ r0 hn).mono ?_
    rintro e w2 ⟨B2, rfl, m2, hb2⟩
    have R2 := m2.reads
    go_wp2_with fail
    refine (specCoverOf_any B2 n0 n0 rs0 a1 _ R2 HN.out).mono ?_
    rw [HPQ.out]
    rintro e w3 ⟨vw, rfl, nw3, hb3⟩
    have b3 : Below w.heap.size w w3 := hb2.trans (hb3.mono hb2.size)
    clear hb2 hb3 m2 R2
    go_wp2_with fail
    refine (toRows_m A0 n0 c0 rs0 _ (r0.now b3) HN.out).mono ?_
    rintro e w4 ⟨B4, rfl, m4, c4⟩
    have hL4 := c4.size
    have M4 := put m4
    go_wp2_with fail
    refine (implCoverOf_any B4 n0 n0 rs0 a1 _ m4.reads HN.out).mono ?_
    rw [HPQ.out]
    rintro e w5 ⟨vg, rfl, ng5, hb5⟩
    have c5 : Below w3.heap.size w3 w5 := c4.trans (hb5.mono c4.size)
    have b45 : Below w4.heap.size w4 w5 := hb5
    have m5 := m4.same (SameFrom.of_below hb5)
    clear hb5 m4 c4
    go_wp2_with fail
    refine (eqNums_any vg vw xs _ _ w5 ng5 (nw3.belowNew c5) HLEN.out).mono ?_
    rintro e w5q ⟨rfl, qq, rfl⟩
    replace c5 := below_drewN c5 qq
    replace b45 := below_drewN b45 qq
    replace m5 := m5.same (SameFrom.of_below (below_drewN (Below.refl _ w5) qq))
    replace ng5 := ng5.belowNew (below_drewN (Below.refl _ w5) qq)
    generalize w5.drewN qq = w5z at c5 b45 m5 ng5 ⊢
    have b5 : Below w.heap.size w w5z := b3.trans (c5.mono b3.size)
    go_wp2_with fail
    refine (toRows_m A0 n0 c0 rs0 _ (HR.out.now b5) HN.out).mono ?_
    rintro e w6 ⟨B6, rfl, m6, hb6⟩
    go_wp2_with fail
    refine (eqRows_same B4 B6 n0 n0 n0 rs0 _ (MRows.reads (m5.same (SameFrom.of_below hb6))) m6.reads HN.out).mono ?_
    rintro e w7 ⟨rfl, hb7⟩
    · have b57 : Below w5z.heap.size w5z w7 := hb6.trans (hb7.mono hb6.size)
      have c7 : Below w3.heap.size w3 w7 := c5.trans (b57.mono c5.size)
      have b47 : Below w4.heap.size w4 w7 := b45.trans (b57.mono b45.size)
      have ng7 := ng5.belowNew b57
      clear b57 hb6 hb7 m6 m5 ng5 c5 b5 b45
      go_wp2_with fail
      refine (markRows_ink B4 n0 n0 rs0 1 w3.heap.size w4 w7 w7 M4.out b47 (Inked.refl _ _ _) HN.out (by omega) (by omega)).mono ?_
      rintro e w8 ⟨rfl, hi8⟩
      have c8 : Below w3.heap.size w3 w8 := c7.trans hi8.below
      have ng8 := ng7.inked (Nat.le_refl _) hi8
      have hkk0 : (0 : Int) ≤ (1 : Int) + 3 * (n0 : Int) := by omega
      generalize (1 : Int) + 3 * (n0 : Int) = kk at hkk0 ⊢
      clear hi8 ng7 c7 b47
      go_wp2_with fail
      refine (eqNums_any vg vw xs _ _ w8 ng8 (nw3.belowNew c8) HLEN.out).mono ?_
      rintro e w8q ⟨rfl, qq, rfl⟩
      replace c8 := below_drewN c8 qq
      replace ng8 := ng8.belowNew (below_drewN (Below.refl _ w8) qq)
      generalize w8.drewN qq = w8z at c8 ng8 ⊢
      go_wp2_with fail
      refine (markNums_any vg xs _ w8z ng8 HLEN.out).mono ?_
      rintro e w9 ⟨rfl, ng9, hb9⟩
      have c9 : Below w3.heap.size w3 w9 := c8.trans (hb9.mono hL4)
      clear c8 ng8 hb9
      go_wp2_with fail
      refine (heldNums_any vg xs.length _ w9 ng9 HLEN.out).mono ?_
      rintro e w9q ⟨rfl, rfl⟩
      have b9 : Below w.heap.size w w9 := b3.trans (c9.mono b3.size)
      go_wp2_with fail
      refine (toRows_m A0 n0 c0 rs0 _ (HR.out.now b9) HN.out).mono ?_
      rintro e w10 ⟨B10, rfl, m10, hb10⟩
      have c10 : Below w3.heap.size w3 w10 := c9.trans (hb10.mono c9.size)
      have ng10 := ng9.belowNew hb10
      clear c9 ng9 hb10 b9
      go_wp2_with fail
      refine (implCoverOf_any B10 n0 n0 rs0 a1 _ m10.reads HN.out).mono ?_
      rw [HPQ.out]
      rintro e w11 ⟨vh, rfl, nh11, hb11⟩
      have c11 : Below w3.heap.size w3 w11 := c10.trans (hb11.mono c10.size)
      have ng11 := ng10.belowNew hb11
      clear c10 ng10 hb11 m10
      go_wp2_with fail
      refine (eqNums_any vh vw xs _ _ w11 nh11 (nw3.belowNew c11) HLEN.out).mono ?_
      rintro e w11q ⟨rfl, qq, rfl⟩
      replace c11 := below_drewN c11 qq
      replace ng11 := ng11.belowNew (below_drewN (Below.refl _ w11) qq)
      generalize w11.drewN qq = w11z at c11 ng11 ⊢
      clear nh11
      go_wp2_with fail
      refine (heldNums_any vg xs.length _ w11z ng11 HLEN.out).mono ?_
      rintro e w12 ⟨rfl, rfl⟩
      have b11 : Below w.heap.size w w11z := b3.trans (c11.mono b3.size)
      go_wp2
      go_ret
      exact ⟨rfl, b11⟩
  · have hsz := szA_no (Int.not_le.1 hbig)
    clear hbig
    go_enter Try.func5, Try.ntmps5
    go_wp2_with fail
    refine (szRows_any A0 n0 c0 1048576 _ l0 (by decide) (by decide)).mono ?_
    rintro e w1 ⟨rfl, rfl⟩
    rw [hsz]
    go_wp2
    go_ret
    exact ⟨rfl, Below.refl _ _⟩

/-! From the walk to the given row. -/
set_option maxRecDepth 100000 in
theorem lifted (os : Os) (started : os.Started) (H : Type) (enc : TypeId × Value → H) :
    ReturnsInHanded {} Try.checked os 5 .any (Rows.fnExactCoverOfSpec.pre6 enc Try.prog Try.f5 Rows.fnExactCoverOfRow.domain false) (Rows.fnExactCoverOfSpec.post enc Try.prog Try.f5 false true false false) := by
  refine returnsInHanded_of_change (C := Try.checked) own started (by kernel_rfl) Try.func5
    (ChangeSpec.witness6 (enc := enc) (C := Try.checked) false ⟨#[], #[.slice none 0 0, .int .i64 0], []⟩ 8 (by kernel_rfl) (by kernel_rfl) (by kernel_rfl) (by kernel_rfl)) ?_
  intro W base args ds gs before hval0 hW hcnd _
  have hval : ∀ (j : Nat) t v, Try.f5.params[j]? = some t → args[j]? = some v → Value.okWide Try.prog W .any base t v := hval0
  have hW' := hW
  obtain ⟨p, q, hA0, hV, rfl, hfz, hnd⟩ := hW
  have hA : DataW.TrodAll enc Try.prog W 0 (fun _ => true) true Try.f5.params.toList args.toList ds p := hA0
  rw [Try.params5] at hA hval
  obtain ⟨v0, vs0, d0, ds0, p0, q0, hargs, rfl, rfl, h0, r0q⟩ := trodAll_cons hA
  obtain ⟨v1, vs1, d1, ds1, p1, q1, rfl, rfl, rfl, h1, r1q⟩ := trodAll_cons r0q
  obtain ⟨rfl, rfl, rfl⟩ := trodAll_nil r1q
  obtain rfl : args = #[v0, v1] := by cases args; simp_all
  obtain ⟨rfl, rfl⟩ := trodVars_none hV
  have k0 := h0
  have lt0 : ∀ x ∈ p0, x.block < W.heap.size := by obtain ⟨m, hm⟩ := k0; exact DataW.trod_lt m _ _ _ hm
  obtain ⟨A0, n0, c0, rs0, rfl, r0, l0⟩ := open_rowsA (hval 0 22 v0 rfl rfl) h0
  obtain ⟨a1, rfl, rfl, rfl, w1⟩ := open_int Try.underlying3 (hval 1 3 v1 rfl rfl) h1
  clear hA0 hval0
  refine (walk W A0 n0 c0 rs0 r0 l0 a1 w1).mono fun e W' ⟨he, bel⟩ => ?_
  subst he
  exact ⟨_, rfl, _, _, _, [], _, [], hW', trodAll_mk1 (shut_bool Try.underlying4 _), (trodAll_cons_mk (Below.trod laidOut (by kernel_rfl) (of_decide_eq_true (by kernel_rfl)) k0 bel lt0) (trodAll_cons_mk (shut_int Try.underlying3 w1) trodAll_mk0)), rfl, bel.frame _, fun h => by cases h⟩

theorem over : Rows.fnExactCoverOfRow.holds Try.pinned (OpenSpec.ofChange Rows.fnExactCoverOfSpec) :=
  OpenClaim.holds_of_wide 5 Try.f5 rfl rfl rfl rfl rfl rfl rfl ⟨rfl, rfl, rfl, rfl, rfl⟩ rfl rfl rfl rfl rfl (by kernel_rfl) Try.func5 (by kernel_rfl)
    (of_decide_eq_true (by kernel_rfl)) (by unfold Func.isWrapper; first | (rw [if_pos (by decide +kernel)]; kernel_rfl) | (rw [if_neg (by decide +kernel)]; exact ⟨rfl, rfl⟩))
    (fun os started H enc _ => lifted os started H enc)

/-- The given statement. -/
theorem proved : Rows.FnExactCoverOfSaid := over
#print axioms proved
end Go.Proofs.Ytkfdehmmhgcapaa.fnExactCoverOf

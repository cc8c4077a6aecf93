/-
  Proved: at every machine and number of a frame the program's WaitingIn gives the same list and truth as the reference WaitingIn, leaves its argument as it was, and its answer has memory of its own; the law FnExactWaitingIn returns true at every argument.
  Conditions: none beyond those that the given row itself prints.
-/
import Derived.Test.YtpbkkjiikhjanaaRows
import Derived.Test.YtpbkkjiikhjanaaWi
import Derived.Test.YtpbkkjiikhjanaaArgV
import Derived.Test.YtpbkkjiikhjanaaMcV
import Derived.Test.YtpbkkjiikhjanaaMcInk
import Derived.Test.YtpbkkjiikhjanaaOwn
import Derived.Test.YtpbkkjiikhjanaaArgV
import Derived.WalkKit
import Derived.ProofKit
import Derived.OpenShut
import Derived.ShutString
import Derived.ChangeOld
import Derived.Deep.RegionLaw
import Derived.Below
namespace Go.Proofs.Ytpbkkjiikhjanaa.fnExactWaitingIn
open Go.ChangeShapes Go.WideShapes Go.ChangeAt Go.RowKit Exs
open Go.ChangeMaps (open_string shut_string)
set_option linter.unusedVariables false

theorem own : ownKnob Try.prog.godebug = none := by kernel_rfl
theorem laidOut : laidOutB Try.prog = true := by kernel_rfl

/-! The walk: both functions by their contracts, whose answers are the same; the marks by theirs. -/
set_option maxHeartbeats 40000000 in
set_option maxRecDepth 100000 in
theorem walk (w : World) (s0 : Mc) (A01 : Option Addr) (n01 c01 : Nat) (A02 : Option Addr) (n02 c02 : Nat) (A03 : Option Addr) (n03 c03 : Nat) (r0 : IsMc w w.heap.size s0 A01 n01 A02 n02 A03 n03) (l0 : LongMc s0) (a1 : Int) (w1 : (Lit.int .i64 a1).wf = true) :
    Calls Try.prog 3 #[mcV s0 A01 n01 c01 A02 n02 c02 A03 n03 c03, .int .i64 a1] w fun e w' => e = .returned (.bool true) ∧ Below w.heap.size w w' := by

  have hb0 : Below w.heap.size w (w.alloc (.cells #[.slice A01 n01 c01, .slice A02 n02 c02, .int .i64 s0.used, .int .i64 s0.code, .int .i64 s0.value, .int .i64 s0.made, .slice A03 n03 c03] 26)) := (Below.refl _ _).alloc (Nat.le_refl _) _
  have k0 := Keep.new w #[.slice A01 n01 c01, .slice A02 n02 c02, .int .i64 s0.used, .int .i64 s0.code, .int .i64 s0.value, .int .i64 s0.made, .slice A03 n03 c03] 26
  obtain ⟨t0, ht0⟩ : ∃ t : Nat, manyMc s0 = t := ⟨_, rfl⟩
  unfold mcV
  by_cases h0 : (t0 : Int) ≤ 1048576
  · have z0 := szA_fit h0
    have m0s := smallMc_of (show manyMc s0 ≤ 1048576 by omega)
    have hq0 : ¬ (1048576 : Int) - t0 < 0 := by omega
    have hn1 : n01 ≤ 1048576 := by rw [← r0.frames.1]; exact m0s.1
    have HINK := put (show (1 : Int) + (inkMc s0 : Int) ≤ 1000000000 by have h1 := inkFrs_le s0.frames; have h2 : inkMc s0 = inkFrs s0.frames + s0.trace.length + 3 * s0.notes.length := rfl; have h3 : manyMc s0 = s0.frames.length + manyFrs s0.frames + s0.trace.length + s0.notes.length := rfl; omega)
    have hk1 : ¬ ((1 : Int) + (inkMc s0 : Int)) < 0 := by omega
    have HSF := put m0s.2.1
    obtain ⟨xs, q, hpq⟩ : ∃ xs q, wiL s0.frames a1 = (xs, q) := ⟨_, _, rfl⟩
    have HPQ := put hpq
    have HLEN := put (show xs.length ≤ 1048576 by have := wiL_length (fr := a1) m0s.2.1; rw [hpq] at this; exact this)
    clear hpq h0
    have M0S := put m0s
    clear m0s
    go_enter Try.func3, Try.ntmps3
    go_wp2_with fail
    generalize hW : w.alloc (.cells #[.slice A01 n01 c01, .slice A02 n02 c02, .int .i64 s0.used, .int .i64 s0.code, .int .i64 s0.value, .int .i64 s0.made, .slice A03 n03 c03] 26) = W0 at hb0 k0 ⊢
    clear hW
    refine (szMc_v s0 A01 n01 c01 A02 n02 c02 A03 n03 c03 1048576 W0 (r0.now hb0) l0 (by decide) (by decide)).mono ?_
    rintro e w1 ⟨rfl, hb1⟩
    rw [ht0, z0]
    have b1 : Below w.heap.size w w1 := hb0.trans (hb1.mono hb0.size)
    have k1 := k0.below hb1
    clear hb0 k0 hb1 z0 ht0
    have y0 := k1.cell 0
    have y1 := k1.cell 1
    have y2 := k1.cell 2
    have y3 := k1.cell 3
    have y4 := k1.cell 4
    have y5 := k1.cell 5
    have y6 := k1.cell 6
    simp at y0 y1 y2 y3 y4 y5 y6
    go_wp2_with fail
    refine (toMc_v s0 A01 n01 c01 A02 n02 c02 A03 n03 c03 w1 (r0.now b1) M0S.out).mono ?_
    rintro e w2 ⟨C01, C02, C03, rfl, m2, hb2⟩
    have b2 : Below w.heap.size w w2 := b1.trans (hb2.mono b1.size)
    have k2 := k1.below hb2
    clear y0 y1 y2 y3 y4 y5 y6 k1 hb2 b1
    go_wp2_with fail
    refine (specWaitingIn_any C01 n01 n01 s0.frames C02 n02 n02 C03 n03 n03 s0.used s0.code s0.value s0.made a1 w2 m2.reads.frames HSF.out hn1).mono ?_
    simp only [HPQ.out]
    rintro e w3 ⟨vw, rfl, nw3, hb3⟩
    have b3 : Below w.heap.size w w3 := b2.trans (hb3.mono b2.size)
    have k3 := k2.below hb3
    have y0 := k3.cell 0
    have y1 := k3.cell 1
    have y2 := k3.cell 2
    have y3 := k3.cell 3
    have y4 := k3.cell 4
    have y5 := k3.cell 5
    have y6 := k3.cell 6
    simp at y0 y1 y2 y3 y4 y5 y6
    clear m2 hb3 b2 k2
    go_wp2_with fail
    clear y0 y1 y2 y3 y4 y5 y6
    refine (toMc_v s0 A01 n01 c01 A02 n02 c02 A03 n03 c03 w3 (r0.now b3) M0S.out).mono ?_
    rintro e w4 ⟨D01, D02, D03, rfl, m4, c4⟩
    have M4 := put m4
    have hL4 := c4.size
    have c4a : Below w3.heap.size w3 (w4.alloc (.cells #[.slice D01 n01 n01, .slice D02 n02 n02, .int .i64 s0.used, .int .i64 s0.code, .int .i64 s0.value, .int .i64 s0.made, .slice D03 n03 n03] 33)) := c4.alloc c4.size _
    have b44 : Below w4.heap.size w4 (w4.alloc (.cells #[.slice D01 n01 n01, .slice D02 n02 n02, .int .i64 s0.used, .int .i64 s0.code, .int .i64 s0.value, .int .i64 s0.made, .slice D03 n03 n03] 33)) := (Below.refl _ _).alloc (Nat.le_refl _) _
    have xk4 := Keep.new w4 #[.slice D01 n01 n01, .slice D02 n02 n02, .int .i64 s0.used, .int .i64 s0.code, .int .i64 s0.value, .int .i64 s0.made, .slice D03 n03 n03] 33
    have m4a := m4.same (SameFrom.of_below b44)
    have hs4 : w4.heap.size < (w4.alloc (.cells #[.slice D01 n01 n01, .slice D02 n02 n02, .int .i64 s0.used, .int .i64 s0.code, .int .i64 s0.value, .int .i64 s0.made, .slice D03 n03 n03] 33)).heap.size := xk4.lt
    clear m4 c4
    go_wp2_with fail
    generalize hW : w4.alloc (.cells #[.slice D01 n01 n01, .slice D02 n02 n02, .int .i64 s0.used, .int .i64 s0.code, .int .i64 s0.value, .int .i64 s0.made, .slice D03 n03 n03] 33) = w4a at c4a b44 xk4 m4a hs4 ⊢
    clear hW
    refine (implWaitingIn_any D01 n01 n01 s0.frames D02 n02 n02 D03 n03 n03 s0.used s0.code s0.value s0.made a1 w4a m4a.reads.frames HSF.out hn1).mono ?_
    simp only [HPQ.out]
    rintro e w5 ⟨vg, rfl, ng5, hb5⟩
    have c5 : Below w3.heap.size w3 w5 := c4a.trans (hb5.mono c4a.size)
    have b45 : Below w4.heap.size w4 w5 := b44.trans (hb5.mono b44.size)
    have xk5 := xk4.below hb5
    have m5 := m4a.same (SameFrom.of_below hb5)
    have k5 := k3.below c5
    clear hb5 b44 xk4 m4a c4a
    go_wp2_with fail
    refine (eqNums_any vg vw xs _ _ w5 ng5 (nw3.belowNew c5) HLEN.out).mono ?_
    rintro e w5q ⟨rfl, qq, rfl⟩
    have dz := below_drewN (Below.refl w5.heap.size w5) qq
    replace c5 := below_drewN c5 qq
    replace b45 := below_drewN b45 qq
    replace xk5 := xk5.below dz
    replace m5 := m5.same (SameFrom.of_below dz)
    replace k5 := k5.below dz
    replace ng5 := ng5.belowNew dz
    generalize w5.drewN qq = w5z at dz c5 b45 xk5 m5 k5 ng5 ⊢
    clear dz
    have b6 : Below w.heap.size w w5z := b3.trans (c5.mono b3.size)
    have x0 := xk5.cell 0
    have x1 := xk5.cell 1
    have x2 := xk5.cell 2
    have x3 := xk5.cell 3
    have x4 := xk5.cell 4
    have x5 := xk5.cell 5
    have x6 := xk5.cell 6
    simp at x0 x1 x2 x3 x4 x5 x6
    have y0 := k5.cell 0
    have y1 := k5.cell 1
    have y2 := k5.cell 2
    have y3 := k5.cell 3
    have y4 := k5.cell 4
    have y5 := k5.cell 5
    have y6 := k5.cell 6
    simp at y0 y1 y2 y3 y4 y5 y6
    go_wp2
    go_region_law (first
      | (go_simp; go_at_call 6; refine (toMc_v s0 A01 n01 c01 A02 n02 c02 A03 n03 c03 w5z.drew (r0.now b6.drew) M0S.out).mono ?_; rintro e w7 ⟨E01, E02, E03, rfl, m7, hb7⟩; have xk7 := Keep.below (w := w5z.drew) xk5 hb7; have v0 := xk7.cell 0; have v1 := xk7.cell 1; have v2 := xk7.cell 2; have v3 := xk7.cell 3; have v4 := xk7.cell 4; have v5 := xk7.cell 5; have v6 := xk7.cell 6; simp at v0 v1 v2 v3 v4 v5 v6)
      | (go_simp; go_at_call 9; refine (eqMc_v s0 D01 n01 n01 D02 n02 n02 D03 n03 n03 E01 n01 n01 E02 n02 n02 E03 n03 n03 w7 (MMc.reads (m5.same (SameFrom.of_below ((Below.refl w5z.heap.size w5z).drew.trans hb7)))) m7.reads M0S.out).mono ?_; rintro e w8 ⟨rfl, hb8⟩))
    all_goals (
      have b68 : Below w5z.heap.size w5z w8 := (Below.refl _ w5z).drew.trans (hb7.trans (hb8.mono hb7.size))
      have c8 := c5.trans (b68.mono c5.size)
      have b48 := b45.trans (b68.mono b45.size)
      have xk8 := xk5.below b68
      have ng8 := ng5.belowNew b68
      have k8 := k5.below b68
      clear c5 b45 xk5 m5 ng5 k5 b6 m7 hb7 hb8 xk7 b68 v0 v1 v2 v3 v4 v5 v6 x0 x1 x2 x3 x4 x5 x6 y0 y1 y2 y3 y4 y5 y6
      have x0 := xk8.cell 0
      have x1 := xk8.cell 1
      have x2 := xk8.cell 2
      have x3 := xk8.cell 3
      have x4 := xk8.cell 4
      have x5 := xk8.cell 5
      have x6 := xk8.cell 6
      simp at x0 x1 x2 x3 x4 x5 x6
      go_wp2_with fail
      clear x0 x1 x2 x3 x4 x5 x6
      refine (markMc_v s0 D01 n01 n01 D02 n02 n02 D03 n03 n03 1 w3.heap.size w4 w8 M4.out hL4 b48 M0S.out (by omega) HINK.out).mono ?_
      rintro e w9 ⟨rfl, hi9⟩
      have c9 := c8.trans hi9.below
      have ng9 := ng8.inkv (show w4.heap.size ≤ w4a.heap.size by omega) hi9
      clear c8 b48 xk8 ng8 k8 hi9
      go_wp2_with fail
      refine (eqNums_any vg vw xs _ _ w9 ng9 (nw3.belowNew c9) HLEN.out).mono ?_
      rintro e w9q ⟨rfl, qq, rfl⟩
      have dz := below_drewN (Below.refl w9.heap.size w9) qq
      replace c9 := below_drewN c9 qq
      replace ng9 := ng9.belowNew dz
      generalize w9.drewN qq = w9z at dz c9 ng9 ⊢
      clear dz
      go_wp2_with fail
      refine (markNums_any vg xs _ w9z ng9 HLEN.out).mono ?_
      rintro e w11 ⟨rfl, ng11, hb11⟩
      have c11 : Below w3.heap.size w3 w11 := c9.trans (hb11.mono (by omega))
      clear hb11 c9 ng9
      go_wp2_with fail
      refine (heldNums_any vg xs.length _ w11 ng11 HLEN.out).mono ?_
      rintro e w12 ⟨rfl, rfl⟩
      have k12 := k3.below c11
      have b12 : Below w.heap.size w w11 := b3.trans (c11.mono b3.size)
      have y0 := k12.cell 0
      have y1 := k12.cell 1
      have y2 := k12.cell 2
      have y3 := k12.cell 3
      have y4 := k12.cell 4
      have y5 := k12.cell 5
      have y6 := k12.cell 6
      simp at y0 y1 y2 y3 y4 y5 y6
      go_wp2_with fail
      clear y0 y1 y2 y3 y4 y5 y6 k12
      refine (toMc_v s0 A01 n01 c01 A02 n02 c02 A03 n03 c03 w11 (r0.now b12) M0S.out).mono ?_
      rintro e w13 ⟨H01, H02, H03, rfl, m13, hb13⟩
      have c13 := c11.trans (hb13.mono c11.size)
      have ng13 := ng11.belowNew hb13
      clear c11 ng11 hb13 b12
      go_wp2_with fail
      refine (implWaitingIn_any H01 n01 n01 s0.frames H02 n02 n02 H03 n03 n03 s0.used s0.code s0.value s0.made a1 w13 m13.reads.frames HSF.out hn1).mono ?_
      simp only [HPQ.out]
      rintro e w14 ⟨vh, rfl, nh14, hb14⟩
      have c14 : Below w3.heap.size w3 w14 := c13.trans (hb14.mono c13.size)
      have ng14 := ng13.belowNew hb14
      clear c13 ng13 hb14 m13
      go_wp2_with fail
      refine (eqNums_any vh vw xs _ _ w14 nh14 (nw3.belowNew c14) HLEN.out).mono ?_
      rintro e w14q ⟨rfl, qq, rfl⟩
      have dz := below_drewN (Below.refl w14.heap.size w14) qq
      replace c14 := below_drewN c14 qq
      replace ng14 := ng14.belowNew dz
      generalize w14.drewN qq = w14z at dz c14 ng14 ⊢
      clear dz
      clear nh14
      go_wp2_with fail
      refine (heldNums_any vg xs.length _ w14z ng14 HLEN.out).mono ?_
      rintro e w16 ⟨rfl, rfl⟩
      have b16 : Below w.heap.size w w14z := b3.trans (c14.mono b3.size)
      go_wp2
      go_ret
      exact ⟨rfl, b16⟩)
  · have z0 := szA_no (Int.not_le.1 h0)
    go_enter Try.func3, Try.ntmps3
    go_wp2_with fail
    generalize hW : w.alloc (.cells #[.slice A01 n01 c01, .slice A02 n02 c02, .int .i64 s0.used, .int .i64 s0.code, .int .i64 s0.value, .int .i64 s0.made, .slice A03 n03 c03] 26) = W0 at hb0 k0 ⊢
    clear hW
    refine (szMc_v s0 A01 n01 c01 A02 n02 c02 A03 n03 c03 1048576 W0 (r0.now hb0) l0 (by decide) (by decide)).mono ?_
    rintro e w1 ⟨rfl, hb1⟩
    rw [ht0, z0]
    go_wp2
    go_ret
    exact ⟨rfl, hb0.trans (hb1.mono hb0.size)⟩

/-! From the walk to the given row. -/
set_option maxRecDepth 100000 in
theorem lifted (os : Os) (started : os.Started) (H : Type) (enc : TypeId × Value → H) :
    ReturnsInHanded {} Try.checked os 3 .any (Rows.fnExactWaitingInSpec.pre6 enc Try.prog Try.f3 Rows.fnExactWaitingInRow.domain false) (Rows.fnExactWaitingInSpec.post enc Try.prog Try.f3 false true false false) := by
  refine returnsInHanded_of_change (C := Try.checked) own started (by kernel_rfl) Try.func3
    (ChangeSpec.witness6 (enc := enc) (C := Try.checked) false ⟨#[], #[.agg #[.slice none 0 0, .slice none 0 0, .int .i64 0, .int .i64 0, .int .i64 0, .int .i64 0, .slice none 0 0], .int .i64 0], []⟩ 8 (by kernel_rfl) (by kernel_rfl) (by kernel_rfl) (by kernel_rfl)) ?_
  intro W base args ds gs before hval0 hW hcnd _
  have hval : ∀ (j : Nat) t v, Try.f3.params[j]? = some t → args[j]? = some v → Value.okWide Try.prog W .any base t v := hval0
  have hW' := hW
  obtain ⟨p, q, hA0, hV, rfl, hfz, hnd⟩ := hW
  have hA : DataW.TrodAll enc Try.prog W 0 (fun _ => true) true Try.f3.params.toList args.toList ds p := hA0
  rw [Try.params3] at hA hval
  obtain ⟨v0, vs0, d0, ds0, p0, q0, hargs, rfl, rfl, h0, r0q⟩ := trodAll_cons hA
  obtain ⟨v1, vs1, d1, ds1, p1, q1, rfl, rfl, rfl, h1, r1q⟩ := trodAll_cons r0q
  obtain ⟨rfl, rfl, rfl⟩ := trodAll_nil r1q
  obtain rfl : args = #[v0, v1] := by cases args; simp_all
  obtain ⟨rfl, rfl⟩ := trodVars_none hV
  have k0 := h0
  have lt0 : ∀ x ∈ p0, x.block < W.heap.size := by obtain ⟨m, hm⟩ := k0; exact DataW.trod_lt m _ _ _ hm
  obtain ⟨s0, A01, n01, c01, A02, n02, c02, A03, n03, c03, rfl, r0, l0⟩ := open_vm (hval 0 26 v0 rfl rfl) h0
  obtain ⟨a1, rfl, rfl, rfl, w1⟩ := open_int Try.underlying3 (hval 1 3 v1 rfl rfl) h1
  clear hA0 hval0
  refine (walk W s0 A01 n01 c01 A02 n02 c02 A03 n03 c03 r0 l0 a1 w1).mono fun e W' ⟨he, bel⟩ => ?_
  subst he
  exact ⟨_, rfl, _, _, _, [], _, [], hW', trodAll_mk1 (shut_bool Try.underlying4 _), (trodAll_cons_mk (Below.trod laidOut (by kernel_rfl) (of_decide_eq_true (by kernel_rfl)) k0 bel lt0) (trodAll_cons_mk (shut_int Try.underlying3 w1) trodAll_mk0)), rfl, bel.frame _, fun h => by cases h⟩

theorem over : Rows.fnExactWaitingInRow.holds Try.pinned (OpenSpec.ofChange Rows.fnExactWaitingInSpec) :=
  OpenClaim.holds_of_wide 3 Try.f3 rfl rfl rfl rfl rfl rfl rfl ⟨rfl, rfl, rfl, rfl, rfl⟩ rfl rfl rfl rfl rfl (by kernel_rfl) Try.func3 (by kernel_rfl)
    (of_decide_eq_true (by kernel_rfl)) (by unfold Func.isWrapper; first | (rw [if_pos (by decide +kernel)]; kernel_rfl) | (rw [if_neg (by decide +kernel)]; exact ⟨rfl, rfl⟩))
    (fun os started H enc _ => lifted os started H enc)

/-- The given statement. -/
theorem proved : Rows.FnExactWaitingInSaid := over
#print axioms proved
end Go.Proofs.Ytpbkkjiikhjanaa.fnExactWaitingIn

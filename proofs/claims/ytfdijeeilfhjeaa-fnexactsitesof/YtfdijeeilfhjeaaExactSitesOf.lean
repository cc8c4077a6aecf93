/-
  Proved: at every function the program's SitesOf gives the same list and truth as the reference SitesOf, leaves its argument as it was, and its answer has memory of its own; the law FnExactSitesOf returns true at every argument.
  Conditions: none beyond those that the given row itself prints.
-/
import Derived.Test.YtfdijeeilfhjeaaRows
import Derived.Test.YtfdijeeilfhjeaaAloG
import Derived.Test.YtfdijeeilfhjeaaArgsP
import Derived.WalkKit
import Derived.ProofKit
import Derived.OpenShut
import Derived.ShutString
import Derived.ChangeOld
import Derived.Deep.RegionLaw
import Derived.Below
namespace Go.Proofs.Ytfdijeeilfhjeaa.fnExactSitesOf
open Go.ChangeShapes Go.WideShapes Go.ChangeAt Go.RowKit Exs
open Go.ChangeMaps (open_string shut_string)
set_option linter.unusedVariables false

theorem own : ownKnob Try.prog.godebug = none := by kernel_rfl
theorem laidOut : laidOutB Try.prog = true := by kernel_rfl

/-! The walk: both functions by their contracts, whose answers are the same; the marks by theirs. -/
set_option maxHeartbeats 2000000 in
set_option maxRecDepth 100000 in
theorem walk (w : World) (f0 : Fc) (A0 : Option Addr) (n0 c0 : Nat) (B0 : Option Addr) (m0 d0 : Nat) (r0 : IsFc w w.heap.size f0 A0 n0 B0 m0) (l0 : LongF f0) :
    Calls Try.prog 6 #[fcV f0 A0 n0 c0 B0 m0 d0] w fun e w' => e = .returned (.bool true) ∧ Below w.heap.size w w' := by

  unfold fcV
  have hb0 : Below w.heap.size w (w.alloc (.cells #[.int .i64 f0.params, .int .i64 f0.vars, .slice A0 n0 c0, .slice B0 m0 d0] 52)) := (Below.refl _ _).alloc (Nat.le_refl _) _
  have hk0 := Keep.new w #[.int .i64 f0.params, .int .i64 f0.vars, .slice A0 n0 c0, .slice B0 m0 d0] 52
  by_cases hbig : (((manyF f0 : Nat)) : Int) ≤ 1048576
  · have hsz := szA_fit hbig
    have hsm : SmallF f0 := smallF_of (by omega)
    have hsz0 : (0 : Int) ≤ 1048576 - ((manyF f0 : Nat) : Int) := by omega
    have HINK := put (show (1 : Int) + ((inkF f0 : Nat) : Int) ≤ 1000000000 by have := inkF_le f0; omega)
    obtain ⟨T, hT⟩ : ∃ T : Nat, manyF f0 = T := ⟨_, rfl⟩
    rw [hT] at hsz hsz0
    have HSM := put hsm
    have HLEN := put (siteAns_len f0)
    have hans : ∃ xs q, siteAns f0 = (xs, q) := ⟨_, _, rfl⟩
    obtain ⟨xs, q, hxq⟩ := hans
    have HPQ := put hxq
    rw [hxq] at HLEN
    clear hsm hbig hxq
    go_enter Try.func6, Try.ntmps6
    go_wp2_with fail
    refine (szFunc_g f0 A0 n0 c0 B0 m0 d0 1048576 _ (r0.now hb0) l0 (by decide) (by decide)).mono ?_
    rintro e w1 ⟨rfl, hb1⟩
    have b1 : Below w.heap.size w w1 := hb0.trans (hb1.mono hb0.size)
    have k1 := hk0.below hb1
    rw [hT, hsz]
    clear hb0 hk0 hb1 hT hsz
    have y0 := k1.cell 0
    have y1 := k1.cell 1
    have y2 := k1.cell 2
    have y3 := k1.cell 3
    simp at y0 y1 y2 y3
    go_wp2_with fail
    refine (toFunc_g f0 A0 n0 c0 B0 m0 d0 _ (r0.now b1) HSM.out).mono ?_
    rintro e w2 ⟨B2, C2, rfl, m2, hb2⟩
    have b2 : Below w.heap.size w w2 := b1.trans (hb2.mono b1.size)
    have k2 := k1.below hb2
    go_wp2_with fail
    refine (specSitesOf_g f0 B2 n0 n0 C2 m0 m0  _ m2.is HSM.out).mono ?_
    rw [HPQ.out]
    rintro e w3 ⟨vw, rfl, nw3, hb3⟩
    have b3 : Below w.heap.size w w3 := b2.trans (hb3.mono b2.size)
    have k3 := k2.below hb3
    clear hb2 hb3 m2 k1 k2 b1 y0 y1 y2 y3
    have y0 := k3.cell 0
    have y1 := k3.cell 1
    have y2 := k3.cell 2
    have y3 := k3.cell 3
    simp at y0 y1 y2 y3
    go_wp2_with fail
    refine (toFunc_g f0 A0 n0 c0 B0 m0 d0 _ (r0.now b3) HSM.out).mono ?_
    rintro e w4 ⟨B4, C4, rfl, m4, c4⟩
    have hL4 := c4.size
    have M4 := put m4
    have c4a := c4.alloc c4.size (.cells #[.int .i64 f0.params, .int .i64 f0.vars, .slice B4 n0 n0, .slice C4 m0 m0] 58)
    have x4a := Keep.new w4 #[.int .i64 f0.params, .int .i64 f0.vars, .slice B4 n0 n0, .slice C4 m0 m0] 58
    have b44 := (Below.refl _ w4).alloc (Nat.le_refl _) (.cells #[.int .i64 f0.params, .int .i64 f0.vars, .slice B4 n0 n0, .slice C4 m0 m0] 58)
    have m4a := m4.same (SameFrom.of_below b44)
    clear m4 y0 y1 y2 y3
    go_wp2_with fail
    have hsz4 : (w4.alloc (.cells #[.int .i64 f0.params, .int .i64 f0.vars, .slice B4 n0 n0, .slice C4 m0 m0] 58)).heap.size = w4.heap.size + 1 := by simp
    generalize w4.alloc (.cells #[.int .i64 f0.params, .int .i64 f0.vars, .slice B4 n0 n0, .slice C4 m0 m0] 58) = w4a at c4a x4a m4a b44 hsz4 ⊢
    refine (sitesOf_g f0 B4 n0 n0 C4 m0 m0  _ m4a.is HSM.out).mono ?_
    rw [HPQ.out]
    rintro e w5 ⟨vg, rfl, ng5, hb5⟩
    have c5 : Below w3.heap.size w3 w5 := c4a.trans (hb5.mono c4a.size)
    have b45 : Below w4.heap.size w4 w5 := b44.trans (hb5.mono (by omega))
    have m5 := m4a.same (SameFrom.of_below hb5)
    have x5 := x4a.below hb5
    clear hb5 m4a x4a c4a b44
    go_wp2_with fail
    refine (eqNums_any vg vw xs _ _ w5 ng5 (nw3.belowNew c5) HLEN.out).mono ?_
    rintro e w5' ⟨rfl, q5, rfl⟩
    replace c5 : Below w3.heap.size w3 (w5.drewN q5) := below_drewN c5 _
    replace b45 : Below w4.heap.size w4 (w5.drewN q5) := below_drewN b45 _
    replace m5 := m5.same (SameFrom.of_below (below_drewN (Below.refl _ w5) q5))
    replace x5 := x5.below (below_drewN (Below.refl _ w5) q5)
    replace ng5 := ng5.drewN q5
    generalize w5.drewN q5 = w5 at c5 b45 m5 x5 ng5 ⊢
    have b5 : Below w.heap.size w w5 := b3.trans (c5.mono b3.size)
    have y0 := (k3.below c5).cell 0
    have y1 := (k3.below c5).cell 1
    have y2 := (k3.below c5).cell 2
    have y3 := (k3.below c5).cell 3
    simp at y0 y1 y2 y3
    have z0 := x5.cell 0
    have z1 := x5.cell 1
    have z2 := x5.cell 2
    have z3 := x5.cell 3
    simp at z0 z1 z2 z3
    go_wp2
    go_region_law (first
      | (go_simp; go_at_call 22; refine (toFunc_g f0 A0 n0 c0 B0 m0 d0 w5.drew (r0.now b5.drew) HSM.out).mono ?_; rintro e w6 ⟨B6, C6, rfl, m6, hb6⟩; have x6 := Keep.below (w := w5.drew) x5 hb6; have s0 := x6.cell 0; have s1 := x6.cell 1; have s2 := x6.cell 2; have s3 := x6.cell 3; simp at s0 s1 s2 s3)
      | (go_simp; go_at_call 25; refine (eqFunc_g f0 B4 n0 n0 C4 m0 m0 B6 n0 C6 m0 w6 (MFc.is (m5.same (SameFrom.of_below ((Below.refl w5.heap.size w5).drew.trans hb6)))) m6.is HSM.out).mono ?_; rintro e w7 ⟨rfl, hb7⟩))
    all_goals (
      have b57 : Below w5.heap.size w5 w7 := (Below.refl _ w5).drew.trans (hb6.trans (hb7.mono hb6.size))
      have c7 : Below w3.heap.size w3 w7 := c5.trans (b57.mono c5.size)
      have b47 : Below w4.heap.size w4 w7 := b45.trans (b57.mono b45.size)
      have x7 := x5.below b57
      have ng7 := ng5.belowNew b57
      clear b57 hb6 hb7 m6 x6 m5 x5 ng5 c5 b5 b45 y0 y1 y2 y3 z0 z1 z2 z3 s0 s1 s2 s3
      have z0 := x7.cell 0
      have z1 := x7.cell 1
      have z2 := x7.cell 2
      have z3 := x7.cell 3
      simp at z0 z1 z2 z3
      go_wp2_with fail
      refine (markFunc_g f0 B4 n0 n0 C4 m0 m0 1 w3.heap.size w4 w7 M4.out hL4 b47 HSM.out (by omega) HINK.out).mono ?_
      rintro e w8 ⟨rfl, hi8⟩
      have c8 : Below w3.heap.size w3 w8 := c7.trans hi8.below
      have ng8 := ng7.inked (show w4.heap.size ≤ w4a.heap.size by omega) hi8
      have hkk0 : (0 : Int) ≤ (1 : Int) + ((inkF f0 : Nat) : Int) := by omega
      generalize (1 : Int) + ((inkF f0 : Nat) : Int) = kk at hkk0 ⊢
      clear hi8 ng7 x7 c7 b47 z0 z1 z2 z3
      go_wp2_with fail
      refine (eqNums_any vg vw xs _ _ w8 ng8 (nw3.belowNew c8) HLEN.out).mono ?_
      rintro e w8' ⟨rfl, q8, rfl⟩
      replace c8 : Below w3.heap.size w3 (w8.drewN q8) := below_drewN c8 _
      replace ng8 := ng8.drewN q8
      generalize w8.drewN q8 = w8 at c8 ng8 ⊢
      go_wp2_with fail
      refine (markNums_any vg xs _ w8 ng8 HLEN.out).mono ?_
      rintro e w9 ⟨rfl, ng9, hb9⟩
      have c9 : Below w3.heap.size w3 w9 := c8.trans (hb9.mono (by omega))
      clear c8 ng8 hb9
      go_wp2_with fail
      refine (heldNums_any vg xs.length _ w9 ng9 HLEN.out).mono ?_
      rintro e w9' ⟨rfl, rfl⟩
      have b9 : Below w.heap.size w w9 := b3.trans (c9.mono b3.size)
      have y0 := (k3.below c9).cell 0
      have y1 := (k3.below c9).cell 1
      have y2 := (k3.below c9).cell 2
      have y3 := (k3.below c9).cell 3
      simp at y0 y1 y2 y3
      go_wp2_with fail
      refine (toFunc_g f0 A0 n0 c0 B0 m0 d0 _ (r0.now b9) HSM.out).mono ?_
      rintro e w10 ⟨B10, C10, rfl, m10, hb10⟩
      have c10 : Below w3.heap.size w3 w10 := c9.trans (hb10.mono c9.size)
      have ng10 := ng9.belowNew hb10
      clear c9 ng9 hb10 b9 y0 y1 y2 y3
      go_wp2_with fail
      refine (sitesOf_g f0 B10 n0 n0 C10 m0 m0  _ m10.is HSM.out).mono ?_
      rw [HPQ.out]
      rintro e w11 ⟨vh, rfl, nh11, hb11⟩
      have c11 : Below w3.heap.size w3 w11 := c10.trans (hb11.mono c10.size)
      have ng11 := ng10.belowNew hb11
      clear c10 ng10 hb11 m10
      go_wp2_with fail
      refine (eqNums_any vh vw xs _ _ w11 nh11 (nw3.belowNew c11) HLEN.out).mono ?_
      rintro e w11' ⟨rfl, q11, rfl⟩
      replace c11 : Below w3.heap.size w3 (w11.drewN q11) := below_drewN c11 _
      replace ng11 := ng11.drewN q11
      clear nh11
      generalize w11.drewN q11 = w11 at c11 ng11 ⊢
      go_wp2_with fail
      refine (heldNums_any vg xs.length _ w11 ng11 HLEN.out).mono ?_
      rintro e w12 ⟨rfl, rfl⟩
      have b11 : Below w.heap.size w w11 := b3.trans (c11.mono b3.size)
      go_wp2
      go_ret
      exact ⟨rfl, b11⟩)
  · have hsz := szA_no (Int.not_le.1 hbig)
    clear hbig
    obtain ⟨T, hT⟩ : ∃ T : Nat, manyF f0 = T := ⟨_, rfl⟩
    rw [hT] at hsz
    go_enter Try.func6, Try.ntmps6
    go_wp2_with fail
    refine (szFunc_g f0 A0 n0 c0 B0 m0 d0 1048576 _ (r0.now hb0) l0 (by decide) (by decide)).mono ?_
    rintro e w1 ⟨rfl, hb1⟩
    rw [hT, hsz]
    clear hT hsz
    go_wp2
    go_ret
    exact ⟨rfl, hb0.trans (hb1.mono hb0.size)⟩

/-! From the walk to the given row. -/
set_option maxRecDepth 100000 in
theorem lifted (os : Os) (started : os.Started) (H : Type) (enc : TypeId × Value → H) :
    ReturnsInHanded {} Try.checked os 6 .any (Rows.fnExactSitesOfSpec.pre6 enc Try.prog Try.f6 Rows.fnExactSitesOfRow.domain false) (Rows.fnExactSitesOfSpec.post enc Try.prog Try.f6 false true false false) := by
  refine returnsInHanded_of_change (C := Try.checked) own started (by kernel_rfl) Try.func6
    (ChangeSpec.witness6 (enc := enc) (C := Try.checked) false ⟨#[], #[.agg #[.int .i64 0, .int .i64 0, .slice none 0 0, .slice none 0 0]], []⟩ 8 (by kernel_rfl) (by kernel_rfl) (by kernel_rfl) (by kernel_rfl)) ?_
  intro W base args ds gs before hval0 hW hcnd _
  have hval : ∀ (j : Nat) t v, Try.f6.params[j]? = some t → args[j]? = some v → Value.okWide Try.prog W .any base t v := hval0
  have hW' := hW
  obtain ⟨p, q, hA0, hV, rfl, hfz, hnd⟩ := hW
  have hA : DataW.TrodAll enc Try.prog W 0 (fun _ => true) true Try.f6.params.toList args.toList ds p := hA0
  rw [Try.params6] at hA hval
  obtain ⟨v0, vs0, d0, ds0, p0, q0, hargs, rfl, rfl, h0, r0q⟩ := trodAll_cons hA
  obtain ⟨rfl, rfl, rfl⟩ := trodAll_nil r0q
  obtain rfl : args = #[v0] := by cases args; simp_all
  obtain ⟨rfl, rfl⟩ := trodVars_none hV
  have k0 := h0
  have lt0 : ∀ x ∈ p0, x.block < W.heap.size := by obtain ⟨m, hm⟩ := k0; exact DataW.trod_lt m _ _ _ hm
  obtain ⟨f0, A0, n0, c0, B0, m0, d0, rfl, r0, l0⟩ := open_func (hval 0 52 v0 rfl rfl) h0
  clear hA0 hval0
  refine (walk W f0 A0 n0 c0 B0 m0 d0 r0 l0).mono fun e W' ⟨he, bel⟩ => ?_
  subst he
  exact ⟨_, rfl, _, _, _, [], _, [], hW', trodAll_mk1 (shut_bool Try.underlying4 _), (trodAll_cons_mk (Below.trod laidOut (by kernel_rfl) (of_decide_eq_true (by kernel_rfl)) k0 bel lt0) trodAll_mk0), rfl, bel.frame _, fun h => by cases h⟩

theorem over : Rows.fnExactSitesOfRow.holds Try.pinned (OpenSpec.ofChange Rows.fnExactSitesOfSpec) :=
  OpenClaim.holds_of_wide 6 Try.f6 rfl rfl rfl rfl rfl rfl rfl ⟨rfl, rfl, rfl, rfl, rfl⟩ rfl rfl rfl rfl rfl (by kernel_rfl) Try.func6 (by kernel_rfl)
    (of_decide_eq_true (by kernel_rfl)) (by unfold Func.isWrapper; first | (rw [if_pos (by decide +kernel)]; kernel_rfl) | (rw [if_neg (by decide +kernel)]; exact ⟨rfl, rfl⟩))
    (fun os started H enc _ => lifted os started H enc)

/-- The given statement. -/
theorem proved : Rows.FnExactSitesOfSaid := over
#print axioms proved
end Go.Proofs.Ytfdijeeilfhjeaa.fnExactSitesOf

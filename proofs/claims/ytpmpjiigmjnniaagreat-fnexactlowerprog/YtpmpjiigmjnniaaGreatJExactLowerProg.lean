/-
  Proved: at every program the program's LowerProg gives the same image and truth as the reference LowerProg, leaves its argument as it was, and its answer has memory of its own; the law FnExactLowerProg returns true at every argument.
  Conditions: none beyond those that the given row itself prints.
-/
import Derived.Test.YtpmpjiigmjnniaaGreatRows
import Derived.Test.YtpmpjiigmjnniaaGreatJMkm
import Derived.Test.YtpmpjiigmjnniaaGreatJInkP
import Derived.Test.YtpmpjiigmjnniaaGreatJLoM
import Derived.Test.YtpmpjiigmjnniaaGreatJMkd
import Derived.Test.YtpmpjiigmjnniaaGreatJPrgTo2
import Derived.Test.YtpmpjiigmjnniaaGreatJArgs
import Derived.WalkKit
import Derived.ProofKit
import Derived.OpenShut
import Derived.ShutString
import Derived.ChangeOld
import Derived.Deep.RegionLaw
import Derived.Below
namespace Go.Proofs.YtpmpjiigmjnniaaGreat.fnExactLowerProg
open Go.ChangeShapes Go.WideShapes Go.ChangeAt Go.RowKit Exs
open Go.ChangeMaps (open_string shut_string)
set_option linter.unusedVariables false

theorem own : ownKnob Tryz.prog.godebug = none := by kernel_rfl
theorem laidOut : laidOutB Tryz.prog = true := by kernel_rfl

/-! The walk: both functions by their contracts, whose answers are the same; the marks by theirs. -/
set_option maxHeartbeats 4000000 in
set_option maxRecDepth 100000 in
theorem walk (w : World) (A0 : Option Addr) (n0 c0 : Nat) (fs0 : List Fc) (r0 : ReadsF w w.heap.size A0 n0 fs0) (l0 : LongP fs0) :
    Calls Tryz.prog 4 #[.agg #[.slice A0 n0 c0]] w fun e w' => e = .returned (.bool true) ∧ Below w.heap.size w w' := by

  have hb0 : Below w.heap.size w (w.alloc (.cells #[.slice A0 n0 c0] 24)) := (Below.refl _ _).alloc (Nat.le_refl _) _
  have hk0 := Keep.new w #[.slice A0 n0 c0] 24
  by_cases hbig : (((n0 + manyFs fs0 : Nat)) : Int) ≤ 1048576
  · have hsz := szA_fit hbig
    have hsm : SmallP fs0 := smallP_of (by have := r0.1; omega)
    have hsz0 : (0 : Int) ≤ 1048576 - ((n0 + manyFs fs0 : Nat) : Int) := by omega
    have HINK := put (show (1 : Int) + ((inkFs fs0 : Nat) : Int) ≤ 1000000000 by have := inkFs_le fs0; have := r0.1; omega)
    obtain ⟨T, hT⟩ : ∃ T : Nat, n0 + manyFs fs0 = T := ⟨_, rfl⟩
    rw [hT] at hsz hsz0
    have HSM := put hsm
    have HSC := put (fun ks (h : ks.map KC.C = lpAns fs0) => lp_small fs0 hsm ks h)
    have HS6 := put (fun A n c W (h : ReadsF W W.heap.size A n fs0) => specLowerProg_any A n c fs0 W h hsm)
    have HI8 := put (fun A n c W (h : ReadsF W W.heap.size A n fs0) => lowerProg_any A n c fs0 W h hsm)
    obtain ⟨q, hq⟩ : ∃ q, progB fs0 = q := ⟨_, rfl⟩
    simp only [hq] at HS6 HI8
    clear hsm hbig hq
    go_enter Tryz.func4, Tryz.ntmps4
    go_wp2_with fail
    refine (szProg_any A0 n0 c0 fs0 1048576 _ (r0.now hb0) l0 (by decide) (by decide)).mono ?_
    rintro e w1 ⟨rfl, hb1⟩
    have b1 : Below w.heap.size w w1 := hb0.trans (hb1.mono hb0.size)
    have k1 := hk0.below hb1
    rw [hT, hsz]
    clear hb0 hk0 hb1 hT hsz
    have y0 := k1.cell 0
    simp at y0
    go_wp2_with fail
    refine (toProg_any A0 n0 c0 fs0 _ (r0.now b1) HSM.out).mono ?_
    rintro e w2 ⟨B2, rfl, m2, hb2⟩
    have b2 : Below w.heap.size w w2 := b1.trans (hb2.mono b1.size)
    have k2 := k1.below hb2
    clear hb2 k1 b1 y0
    go_wp2_with fail
    refine (HS6.out B2 n0 n0 _ m2.reads).mono ?_
    rintro e w3 ⟨vs, ks, rfl, ow3, hks, hb3⟩
    obtain ⟨P1, Pn, Pc, rfl⟩ := slice_of ow3.row
    have nb3 := (Below.refl _ w3).alloc (Nat.le_refl _) (.cells #[.slice P1 Pn Pc] 44)
    have kw := Keep.new w3 #[.slice P1 Pn Pc] 44
    have ow := ow3.below nb3
    have b3 : Below w.heap.size w _ := (b2.trans (hb3.mono b2.size)).trans (nb3.mono (Nat.le_trans b2.size hb3.size))
    have k3 := (k2.below hb3).below nb3
    have hw3 : w3.heap.size < (w3.alloc (.cells #[.slice P1 Pn Pc] 44)).heap.size := by simp
    clear hb3 m2 k2 b2 nb3 ow3 HS6
    have y0 := k3.cell 0
    simp at y0
    go_wp2_with fail
    generalize w3.alloc (.cells #[.slice P1 Pn Pc] 44) = W3 at kw ow b3 k3 y0 hw3 ⊢
    refine (toProg_any A0 n0 c0 fs0 _ (r0.now b3) HSM.out).mono ?_
    rintro e w4 ⟨B4, rfl, m4, c4⟩
    have hL4 := c4.size
    have M4 := put m4
    have c4a := c4.alloc c4.size (.cells #[.slice B4 n0 n0] 35)
    have x4a := Keep.new w4 #[.slice B4 n0 n0] 35
    have b44 := (Below.refl _ w4).alloc (Nat.le_refl _) (.cells #[.slice B4 n0 n0] 35)
    have m4a := m4.same (SameFrom.of_below b44)
    have z0 := x4a.cell 0
    simp at z0
    clear m4 y0 c4
    go_wp2_with fail
    have hsz4 : (w4.alloc (.cells #[.slice B4 n0 n0] 35)).heap.size = w4.heap.size + 1 := by simp
    generalize w4.alloc (.cells #[.slice B4 n0 n0] 35) = w4a at c4a x4a m4a b44 hsz4 z0 ⊢
    refine (HI8.out B4 n0 n0 _ m4a.reads).mono ?_
    rintro e w5 ⟨us, gs, rfl, og5, hgs, hb5⟩
    obtain ⟨G1, Gn, Gc, rfl⟩ := slice_of og5.row
    have hBg : w4a.heap.size ≤ w5.heap.size := hb5.size
    obtain ⟨hg1, hg2, hg3, hg4⟩ := HSC.out gs hgs
    obtain ⟨_, _, hk3, _⟩ := HSC.out ks hks
    have HGL := put (show gs.length ≤ 1000 by omega)
    have HG2 := put hg2
    have HG3 := put hg3
    have HG4 := put hg4
    have HK3 := put hk3
    have HGS := put hgs
    have HKS := put hks
    clear hg1 hg2 hg3 hg4 hk3
    have hb5a : Below w4a.heap.size w4a (w5.alloc (.cells #[.slice G1 Gn Gc] 44)) := hb5.alloc hb5.size _
    have kg := Keep.new w5 #[.slice G1 Gn Gc] 44
    have og := og5.below ((Below.refl _ w5).alloc (Nat.le_refl _) (.cells #[.slice G1 Gn Gc] 44))
    have hg5 : w4a.heap.size ≤ w5.heap.size := hb5.size
    have c5 : Below W3.heap.size W3 _ := c4a.trans (hb5a.mono c4a.size)
    have b45 : Below w4.heap.size w4 _ := b44.trans (hb5a.mono (by omega))
    have m5 := m4a.same (SameFrom.of_below hb5a)
    have x5 := x4a.below hb5a
    clear hb5 m4a x4a c4a b44 og5 hb5a z0
    have z0 := (kg).cell 0
    simp only [List.getElem?_toArray, List.getElem?_cons_zero] at z0
    have v0 := (kw.below c5).cell 0
    simp only [List.getElem?_toArray, List.getElem?_cons_zero] at v0
    go_wp2_with fail
    generalize w5.alloc (.cells #[.slice G1 Gn Gc] 44) = W5 at kg og c5 b45 m5 x5 ⊢
    refine (eqImage_own og (ow.below c5) (by rw [HGS.out, HKS.out]) HG3.out).mono ?_
    rintro e w6 ⟨rfl, hb6⟩
    replace kg := kg.below hb6
    replace og := og.below hb6
    replace m5 := m5.same (SameFrom.of_below hb6)
    replace x5 := x5.below hb6
    replace b45 := b45.trans (hb6.mono b45.size)
    replace c5 := c5.trans (hb6.mono c5.size)
    clear z0 v0
    clear hb6
    have b5 : Below w.heap.size w w6 := b3.trans (c5.mono b3.size)
    have y0 := (k3.below c5).cell 0
    have z0 := x5.cell 0
    simp at y0 z0
    go_wp2
    go_region_law (first
      | (go_simp; go_at_call 7; refine (toProg_any A0 n0 c0 fs0 w6.drew (r0.now b5.drew) HSM.out).mono ?_; rintro e w7 ⟨B6, rfl, m6, hb7⟩; have x6 := Keep.below (w := w6.drew) x5 hb7; have s0 := x6.cell 0; simp at s0)
      | (go_simp; go_at_call 10; refine (eqProg_same B4 B6 n0 n0 n0 fs0 w7 (MFuncs.reads (m5.same (SameFrom.of_below ((Below.refl w6.heap.size w6).drew.trans hb7)))) m6.reads HSM.out).mono ?_; rintro e w8 ⟨rfl, hb8⟩))
    all_goals (
      have b68 : Below w6.heap.size w6 w8 := (Below.refl _ w6).drew.trans (hb7.trans (hb8.mono hb7.size))
      have c8 : Below W3.heap.size W3 w8 := c5.trans (b68.mono c5.size)
      have b48 : Below w4.heap.size w4 w8 := b45.trans (b68.mono b45.size)
      have x8 := x5.below b68
      have og8 := og.below b68
      have kg8 := kg.below b68
      clear b68 hb7 hb8 m6 x6 m5 x5 og kg c5 b5 b45 y0 z0 s0
      have z0 := x8.cell 0
      simp at z0
      go_wp2_with fail
      refine (markProg_ink B4 n0 n0 fs0 1 W3.heap.size w4 w8 M4.out hL4 b48 HSM.out (by omega) HINK.out).mono ?_
      rintro e w9 ⟨rfl, hi9⟩
      have c9 : Below W3.heap.size W3 w9 := c8.trans hi9.below
      have og9 := owncs_inked og8 (show w4.heap.size ≤ w4a.heap.size by omega) hi9
      have kg9 := kg8.inked (show w4.heap.size ≤ w5.heap.size by omega) hi9
      have hkk0 : (0 : Int) ≤ (1 : Int) + ((inkFs fs0 : Nat) : Int) := by omega
      generalize (1 : Int) + ((inkFs fs0 : Nat) : Int) = kk at hkk0 ⊢
      clear hi9 og8 kg8 x8 c8 b48 z0
      have z0 := (kg9).cell 0
      simp only [List.getElem?_toArray, List.getElem?_cons_zero] at z0
      have v0 := (kw.below c9).cell 0
      simp only [List.getElem?_toArray, List.getElem?_cons_zero] at v0
      go_wp2_with fail
      refine (eqImage_own og9 (ow.below c9) (by rw [HGS.out, HKS.out]) HG3.out).mono ?_
      rintro e w10 ⟨rfl, hb10⟩
      have c10 := c9.trans (hb10.mono c9.size)
      have og10 := og9.below hb10
      have kg10 := kg9.below hb10
      clear z0 v0
      clear c9 og9 kg9 hb10
      have hB10 : w4a.heap.size ≤ w10.heap.size := by have := kg10.lt; omega
      have z0 := (kg10).cell 0
      simp only [List.getElem?_toArray, List.getElem?_cons_zero] at z0
      go_wp2_with fail
      refine (markImage_own _ gs w4a.heap.size w10 og10 HG2.out HGL.out hB10 HG4.out).mono ?_
      rintro e w11 ⟨rfl, t1, hb11, kf11⟩
      have c11 := c10.trans (hb11.mono (by omega))
      have kg11 := kf11 _ _ _ kg10 (by decide) (by decide) (by decide) (by decide)
      clear z0
      clear c10 og10 kg10 hb11 kf11
      obtain ⟨kq, hkq⟩ : ∃ kq : Int, 1 + widS gs = kq := ⟨_, rfl⟩
      have hkq0 : 0 ≤ kq := by have := widS_pos gs; omega
      rw [hkq]
      have HKQ := put hkq
      clear hkq
      have z0 := (kg11).cell 0
      simp only [List.getElem?_toArray, List.getElem?_cons_zero] at z0
      go_wp2_with fail
      refine (heldImage_own _ gs w4a.heap.size w11 t1 HG2.out HGL.out HG4.out).mono ?_
      rintro e w12 ⟨rfl, hb12⟩
      rw [HKQ.out]
      have c12 := c11.trans (hb12.mono c11.size)
      have kg12 := kg11.below hb12
      have u1 := t1.below hb12
      clear z0
      clear c11 kg11 t1 hb12
      have b12 : Below w.heap.size w w12 := b3.trans (c12.mono b3.size)
      have y0 := (k3.below c12).cell 0
      simp at y0
      go_wp2_with fail
      refine (toProg_any A0 n0 c0 fs0 _ (r0.now b12) HSM.out).mono ?_
      rintro e w13 ⟨B13, rfl, m13, hb13⟩
      have c13 : Below W3.heap.size W3 w13 := c12.trans (hb13.mono c12.size)
      have kg13 := kg12.below hb13
      have t1 := u1.below hb13
      clear c12 kg12 u1 hb13 b12 y0
      go_wp2_with fail
      refine (HI8.out B13 n0 n0 _ m13.reads).mono ?_
      rintro e w14 ⟨us, hs, rfl, oh14, hhs, hb14⟩
      obtain ⟨H1, Hn, Hc, rfl⟩ := slice_of oh14.row
      have HHS := put hhs
      have hb14a : Below w13.heap.size w13 (w14.alloc (.cells #[.slice H1 Hn Hc] 44)) := hb14.alloc hb14.size _
      have kh := Keep.new w14 #[.slice H1 Hn Hc] 44
      have oh := oh14.below ((Below.refl _ w14).alloc (Nat.le_refl _) (.cells #[.slice H1 Hn Hc] 44))
      have c14 := c13.trans (hb14a.mono c13.size)
      have kg14 := kg13.below hb14a
      have u1 := t1.below hb14a
      clear c13 kg13 t1 hb14 hb14a oh14 m13
      have z0 := (kh).cell 0
      simp only [List.getElem?_toArray, List.getElem?_cons_zero] at z0
      have v0 := (kw.below c14).cell 0
      simp only [List.getElem?_toArray, List.getElem?_cons_zero] at v0
      go_wp2_with fail
      generalize w14.alloc (.cells #[.slice H1 Hn Hc] 44) = W14 at kh oh c14 kg14 u1 ⊢
      refine (eqImage_own oh (ow.below c14) (by rw [HHS.out, HKS.out]) (by rw [HHS.out, ← HKS.out]; exact HK3.out)).mono ?_
      rintro e w15 ⟨rfl, hb15⟩
      have c15 := c14.trans (hb15.mono c14.size)
      have kg15 := kg14.below hb15
      have t1 := u1.below hb15
      clear z0 v0
      clear c14 kg14 u1 hb15 kh oh
      have z0 := (kg15).cell 0
      simp only [List.getElem?_toArray, List.getElem?_cons_zero] at z0
      go_wp2_with fail
      refine (heldImage_own _ gs w4a.heap.size w15 t1 HG2.out HGL.out HG4.out).mono ?_
      rintro e w16 ⟨rfl, hb16⟩
      rw [HKQ.out]
      have b16 : Below w.heap.size w w16 := b3.trans ((c15.trans (hb16.mono c15.size)).mono b3.size)
      clear z0
      go_wp2
      go_ret
      exact ⟨rfl, b16⟩)
  · have hsz := szA_no (Int.not_le.1 hbig)
    clear hbig
    obtain ⟨T, hT⟩ : ∃ T : Nat, n0 + manyFs fs0 = T := ⟨_, rfl⟩
    rw [hT] at hsz
    go_enter Tryz.func4, Tryz.ntmps4
    go_wp2_with fail
    refine (szProg_any A0 n0 c0 fs0 1048576 _ (r0.now hb0) l0 (by decide) (by decide)).mono ?_
    rintro e w1 ⟨rfl, hb1⟩
    rw [hT, hsz]
    clear hT hsz
    go_wp2
    go_ret
    exact ⟨rfl, hb0.trans (hb1.mono hb0.size)⟩

/-! From the walk to the given row. -/
set_option maxRecDepth 100000 in
theorem lifted (os : Os) (started : os.Started) (H : Type) (enc : TypeId × Value → H) :
    ReturnsInHanded {} Tryz.checked os 4 .any (Rows.fnExactLowerProgSpec.pre6 enc Tryz.prog Tryz.f4 Rows.fnExactLowerProgRow.domain false) (Rows.fnExactLowerProgSpec.post enc Tryz.prog Tryz.f4 false true false false) := by
  refine returnsInHanded_of_change (C := Tryz.checked) own started (by kernel_rfl) Tryz.func4
    (ChangeSpec.witness6 (enc := enc) (C := Tryz.checked) false ⟨#[], #[.agg #[.slice none 0 0]], []⟩ 8 (by kernel_rfl) (by kernel_rfl) (by kernel_rfl) (by kernel_rfl)) ?_
  intro W base args ds gs before hval0 hW hcnd _
  have hval : ∀ (j : Nat) t v, Tryz.f4.params[j]? = some t → args[j]? = some v → Value.okWide Tryz.prog W .any base t v := hval0
  have hW' := hW
  obtain ⟨p, q, hA0, hV, rfl, hfz, hnd⟩ := hW
  have hA : DataW.TrodAll enc Tryz.prog W 0 (fun _ => true) true Tryz.f4.params.toList args.toList ds p := hA0
  rw [Tryz.params4] at hA hval
  obtain ⟨v0, vs0, d0, ds0, p0, q0, hargs, rfl, rfl, h0, r0q⟩ := trodAll_cons hA
  obtain ⟨rfl, rfl, rfl⟩ := trodAll_nil r0q
  obtain rfl : args = #[v0] := by cases args; simp_all
  obtain ⟨rfl, rfl⟩ := trodVars_none hV
  have k0 := h0
  have lt0 : ∀ x ∈ p0, x.block < W.heap.size := by obtain ⟨m, hm⟩ := k0; exact DataW.trod_lt m _ _ _ hm
  obtain ⟨A0, n0, c0, fs0, rfl, r0, l0⟩ := open_prog (hval 0 24 v0 rfl rfl) h0
  clear hA0 hval0
  refine (walk W A0 n0 c0 fs0 r0 l0).mono fun e W' ⟨he, bel⟩ => ?_
  subst he
  exact ⟨_, rfl, _, _, _, [], _, [], hW', trodAll_mk1 (shut_bool Tryz.underlying4 _), (trodAll_cons_mk (Below.trod laidOut (by kernel_rfl) (of_decide_eq_true (by kernel_rfl)) k0 bel lt0) trodAll_mk0), rfl, bel.frame _, fun h => by cases h⟩

theorem over : Rows.fnExactLowerProgRow.holds Tryz.pinned (OpenSpec.ofChange Rows.fnExactLowerProgSpec) :=
  OpenClaim.holds_of_wide 4 Tryz.f4 rfl rfl rfl rfl rfl rfl rfl ⟨rfl, rfl, rfl, rfl, rfl⟩ rfl rfl rfl rfl rfl (by kernel_rfl) Tryz.func4 (by kernel_rfl)
    (of_decide_eq_true (by kernel_rfl)) (by unfold Func.isWrapper; first | (rw [if_pos (by decide +kernel)]; kernel_rfl) | (rw [if_neg (by decide +kernel)]; exact ⟨rfl, rfl⟩))
    (fun os started H enc _ => lifted os started H enc)

/-- The given statement. -/
theorem proved : Rows.FnExactLowerProgSaid := over
#print axioms proved
end Go.Proofs.YtpmpjiigmjnniaaGreat.fnExactLowerProg

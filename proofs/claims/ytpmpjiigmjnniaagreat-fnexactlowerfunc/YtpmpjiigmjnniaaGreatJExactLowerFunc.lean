/-
  Proved: at every program and number of a function the program's LowerFunc gives the same code and truth as the reference LowerFunc, leaves its argument as it was, and its answer has memory of its own; the law FnExactLowerFunc returns true at every argument.
  Conditions: none beyond those that the given row itself prints.
-/
import Derived.Test.YtpmpjiigmjnniaaGreatRows
import Derived.Test.YtpmpjiigmjnniaaGreatJLoM
import Derived.Test.YtpmpjiigmjnniaaGreatJMke
import Derived.Test.YtpmpjiigmjnniaaGreatJInkP
import Derived.Test.YtpmpjiigmjnniaaGreatJMkd
import Derived.Test.YtpmpjiigmjnniaaGreatJPrgTo2
import Derived.Test.YtpmpjiigmjnniaaGreatJArgs
import Derived.WalkKit
import Derived.ProofKit
import Derived.OpenShut
import Derived.ShutString
import Derived.ChangeOld
import Derived.Deep.RegionLaw
import Derived.Below
namespace Go.Proofs.YtpmpjiigmjnniaaGreat.fnExactLowerFunc
open Go.ChangeShapes Go.WideShapes Go.ChangeAt Go.RowKit Exs
open Go.ChangeMaps (open_string shut_string)
set_option linter.unusedVariables false

theorem own : ownKnob Tryz.prog.godebug = none := by kernel_rfl
theorem laidOut : laidOutB Tryz.prog = true := by kernel_rfl

/-! The walk: both functions by their contracts, whose answers are the same; the marks by theirs. -/
set_option maxHeartbeats 4000000 in
set_option maxRecDepth 100000 in
theorem walk (w : World) (A0 : Option Addr) (n0 c0 : Nat) (fs0 : List Fc) (r0 : ReadsF w w.heap.size A0 n0 fs0) (l0 : LongP fs0) (a1 : Int) (w1 : (Lit.int .i64 a1).wf = true) :
    Calls Tryz.prog 3 #[.agg #[.slice A0 n0 c0], .int .i64 a1] w fun e w' => e = .returned (.bool true) ∧ Below w.heap.size w w' := by

  have hb0 : Below w.heap.size w (w.alloc (.cells #[.slice A0 n0 c0] 24)) := (Below.refl _ _).alloc (Nat.le_refl _) _
  have hk0 := Keep.new w #[.slice A0 n0 c0] 24
  by_cases hbig : (((n0 + manyFs fs0 : Nat)) : Int) ≤ 1048576
  · have hsz := szA_fit hbig
    have hsm : SmallP fs0 := smallP_of (by have := r0.1; omega)
    have hsz0 : (0 : Int) ≤ 1048576 - ((n0 + manyFs fs0 : Nat) : Int) := by omega
    have HINK := put (show (1 : Int) + ((inkFs fs0 : Nat) : Int) ≤ 1000000000 by have := inkFs_le fs0; have := r0.1; omega)
    obtain ⟨T, hT⟩ : ∃ T : Nat, n0 + manyFs fs0 = T := ⟨_, rfl⟩
    rw [hT] at hsz hsz0
    have HSM := put hsm
    have HSC := put (lf_small fs0 a1 hsm)
    have HS6 := put (fun A n c W (h : ReadsF W W.heap.size A n fs0) => specLowerFunc_any A n c fs0 a1 W h hsm)
    have HI8 := put (fun A n c W (h : ReadsF W W.heap.size A n fs0) => lowerFunc_any A n c fs0 a1 W h hsm)
    obtain ⟨C, hC⟩ : ∃ C, (lfAns fs0 a1).getD noCd = C := ⟨_, rfl⟩
    obtain ⟨q, hq⟩ : ∃ q, (lfAns fs0 a1).isSome = q := ⟨_, rfl⟩
    simp only [hC, hq] at HS6 HI8
    rw [hC] at HSC
    clear hsm hbig hC hq
    go_enter Tryz.func3, Tryz.ntmps3
    go_wp2_with fail
    refine (szProg_any A0 n0 c0 fs0 1048576 _ (r0.now hb0) l0 (by decide) (by decide)).mono ?_
    rintro e w1 ⟨rfl, hb1⟩
    have b1 : Below w.heap.size w w1 := hb0.trans (hb1.mono hb0.size)
    have k1 := hk0.below hb1
    rw [hT, hsz]
    clear hb0 hk0 hb1 hT hsz
    have y0 := k1.cell 0
    simp at y0
    go_wp2_with fail
    refine (toProg_any A0 n0 c0 fs0 _ (r0.now b1) HSM.out).mono ?_
    rintro e w2 ⟨B2, rfl, m2, hb2⟩
    have b2 : Below w.heap.size w w2 := b1.trans (hb2.mono b1.size)
    have k2 := k1.below hb2
    clear hb2 k1 b1 y0
    go_wp2_with fail
    refine (HS6.out B2 n0 n0 _ m2.reads).mono ?_
    rintro e w3 ⟨vs, vi, vr, rfl, ow3, hb3⟩
    obtain ⟨P1, p1, P2, p2, P3, p3, rfl, rfl, rfl⟩ := own_is ow3
    have nb3 := (Below.refl _ w3).alloc (Nat.le_refl _) (.cells #[.int .i64 C.params, .int .i64 C.vars, .slice P1 C.sites.length p1, .slice P2 C.ins.length p2, .slice P3 C.rows.length p3] 30)
    have kw := Keep.new w3 #[.int .i64 C.params, .int .i64 C.vars, .slice P1 C.sites.length p1, .slice P2 C.ins.length p2, .slice P3 C.rows.length p3] 30
    have ow := ow3.below nb3
    have b3 : Below w.heap.size w _ := (b2.trans (hb3.mono b2.size)).trans (nb3.mono (Nat.le_trans b2.size hb3.size))
    have k3 := (k2.below hb3).below nb3
    have hw3 : w3.heap.size < (w3.alloc (.cells #[.int .i64 C.params, .int .i64 C.vars, .slice P1 C.sites.length p1, .slice P2 C.ins.length p2, .slice P3 C.rows.length p3] 30)).heap.size := by simp
    clear hb3 m2 k2 b2 nb3 ow3 HS6
    have y0 := k3.cell 0
    simp at y0
    go_wp2_with fail
    generalize w3.alloc (.cells #[.int .i64 C.params, .int .i64 C.vars, .slice P1 C.sites.length p1, .slice P2 C.ins.length p2, .slice P3 C.rows.length p3] 30) = W3 at kw ow b3 k3 y0 hw3 ⊢
    refine (toProg_any A0 n0 c0 fs0 _ (r0.now b3) HSM.out).mono ?_
    rintro e w4 ⟨B4, rfl, m4, c4⟩
    have hL4 := c4.size
    have M4 := put m4
    have c4a := c4.alloc c4.size (.cells #[.slice B4 n0 n0] 35)
    have x4a := Keep.new w4 #[.slice B4 n0 n0] 35
    have b44 := (Below.refl _ w4).alloc (Nat.le_refl _) (.cells #[.slice B4 n0 n0] 35)
    have m4a := m4.same (SameFrom.of_below b44)
    have z0 := x4a.cell 0
    simp at z0
    clear m4 y0 c4
    go_wp2_with fail
    have hsz4 : (w4.alloc (.cells #[.slice B4 n0 n0] 35)).heap.size = w4.heap.size + 1 := by simp
    generalize w4.alloc (.cells #[.slice B4 n0 n0] 35) = w4a at c4a x4a m4a b44 hsz4 z0 ⊢
    refine (HI8.out B4 n0 n0 _ m4a.reads).mono ?_
    rintro e w5 ⟨us, ui, ur, rfl, og5, hb5⟩
    obtain ⟨G1, g1, G2, g2, G3, g3, rfl, rfl, rfl⟩ := own_is og5
    have hb5a : Below w4a.heap.size w4a (w5.alloc (.cells #[.int .i64 C.params, .int .i64 C.vars, .slice G1 C.sites.length g1, .slice G2 C.ins.length g2, .slice G3 C.rows.length g3] 30)) := hb5.alloc hb5.size _
    have kg := Keep.new w5 #[.int .i64 C.params, .int .i64 C.vars, .slice G1 C.sites.length g1, .slice G2 C.ins.length g2, .slice G3 C.rows.length g3] 30
    have og := og5.below ((Below.refl _ w5).alloc (Nat.le_refl _) (.cells #[.int .i64 C.params, .int .i64 C.vars, .slice G1 C.sites.length g1, .slice G2 C.ins.length g2, .slice G3 C.rows.length g3] 30))
    have hg5 : w4a.heap.size ≤ w5.heap.size := hb5.size
    have c5 : Below W3.heap.size W3 _ := c4a.trans (hb5a.mono c4a.size)
    have b45 : Below w4.heap.size w4 _ := b44.trans (hb5a.mono (by omega))
    have m5 := m4a.same (SameFrom.of_below hb5a)
    have x5 := x4a.below hb5a
    clear hb5 m4a x4a c4a b44 og5 hb5a z0
    have z0 := (kg).cell 0
    have z1 := (kg).cell 1
    have z2 := (kg).cell 2
    have z3 := (kg).cell 3
    have z4 := (kg).cell 4
    simp only [List.getElem?_toArray, List.getElem?_cons_zero, List.getElem?_cons_succ] at z0 z1 z2 z3 z4
    have v0 := (kw.below c5).cell 0
    have v1 := (kw.below c5).cell 1
    have v2 := (kw.below c5).cell 2
    have v3 := (kw.below c5).cell 3
    have v4 := (kw.below c5).cell 4
    simp only [List.getElem?_toArray, List.getElem?_cons_zero, List.getElem?_cons_succ] at v0 v1 v2 v3 v4
    go_wp2_with fail
    generalize w5.alloc (.cells #[.int .i64 C.params, .int .i64 C.vars, .slice G1 C.sites.length g1, .slice G2 C.ins.length g2, .slice G3 C.rows.length g3] 30) = W5 at kg og c5 b45 m5 x5 ⊢
    refine (eqCode_own C G1 G2 G3 P1 P2 P3 g1 g2 g3 p1 p2 p3 og (ow.below c5) HSC.out.1).mono ?_
    rintro e w6 ⟨rfl, hb6⟩
    replace kg := kg.below hb6
    replace og := og.below hb6
    replace m5 := m5.same (SameFrom.of_below hb6)
    replace x5 := x5.below hb6
    replace b45 := b45.trans (hb6.mono b45.size)
    replace c5 := c5.trans (hb6.mono c5.size)
    clear z0 z1 z2 z3 z4 v0 v1 v2 v3 v4
    clear hb6
    have b5 : Below w.heap.size w w6 := b3.trans (c5.mono b3.size)
    have y0 := (k3.below c5).cell 0
    have z0 := x5.cell 0
    simp at y0 z0
    go_wp2
    go_region_law (first
      | (go_simp; go_at_call 7; refine (toProg_any A0 n0 c0 fs0 w6.drew (r0.now b5.drew) HSM.out).mono ?_; rintro e w7 ⟨B6, rfl, m6, hb7⟩; have x6 := Keep.below (w := w6.drew) x5 hb7; have s0 := x6.cell 0; simp at s0)
      | (go_simp; go_at_call 10; refine (eqProg_same B4 B6 n0 n0 n0 fs0 w7 (MFuncs.reads (m5.same (SameFrom.of_below ((Below.refl w6.heap.size w6).drew.trans hb7)))) m6.reads HSM.out).mono ?_; rintro e w8 ⟨rfl, hb8⟩))
    all_goals (
      have b68 : Below w6.heap.size w6 w8 := (Below.refl _ w6).drew.trans (hb7.trans (hb8.mono hb7.size))
      have c8 : Below W3.heap.size W3 w8 := c5.trans (b68.mono c5.size)
      have b48 : Below w4.heap.size w4 w8 := b45.trans (b68.mono b45.size)
      have x8 := x5.below b68
      have og8 := og.below b68
      have kg8 := kg.below b68
      clear b68 hb7 hb8 m6 x6 m5 x5 og kg c5 b5 b45 y0 z0 s0
      have z0 := x8.cell 0
      simp at z0
      go_wp2_with fail
      refine (markProg_ink B4 n0 n0 fs0 1 W3.heap.size w4 w8 M4.out hL4 b48 HSM.out (by omega) HINK.out).mono ?_
      rintro e w9 ⟨rfl, hi9⟩
      have c9 : Below W3.heap.size W3 w9 := c8.trans hi9.below
      have og9 := own_inked og8 (show w4.heap.size ≤ w4a.heap.size by omega) hi9
      have kg9 := kg8.inked (show w4.heap.size ≤ w5.heap.size by omega) hi9
      have hkk0 : (0 : Int) ≤ (1 : Int) + ((inkFs fs0 : Nat) : Int) := by omega
      generalize (1 : Int) + ((inkFs fs0 : Nat) : Int) = kk at hkk0 ⊢
      clear hi9 og8 kg8 x8 c8 b48 z0
      have z0 := (kg9).cell 0
      have z1 := (kg9).cell 1
      have z2 := (kg9).cell 2
      have z3 := (kg9).cell 3
      have z4 := (kg9).cell 4
      simp only [List.getElem?_toArray, List.getElem?_cons_zero, List.getElem?_cons_succ] at z0 z1 z2 z3 z4
      have v0 := (kw.below c9).cell 0
      have v1 := (kw.below c9).cell 1
      have v2 := (kw.below c9).cell 2
      have v3 := (kw.below c9).cell 3
      have v4 := (kw.below c9).cell 4
      simp only [List.getElem?_toArray, List.getElem?_cons_zero, List.getElem?_cons_succ] at v0 v1 v2 v3 v4
      go_wp2_with fail
      refine (eqCode_own C G1 G2 G3 P1 P2 P3 g1 g2 g3 p1 p2 p3 og9 (ow.below c9) HSC.out.1).mono ?_
      rintro e w10 ⟨rfl, hb10⟩
      have c10 := c9.trans (hb10.mono c9.size)
      have og10 := og9.below hb10
      have kg10 := kg9.below hb10
      clear z0 z1 z2 z3 z4 v0 v1 v2 v3 v4
      clear c9 og9 kg9 hb10
      have hB10 : w4a.heap.size ≤ w10.heap.size := by have := kg10.lt; omega
      have z0 := (kg10).cell 0
      have z1 := (kg10).cell 1
      have z2 := (kg10).cell 2
      have z3 := (kg10).cell 3
      have z4 := (kg10).cell 4
      simp only [List.getElem?_toArray, List.getElem?_cons_zero, List.getElem?_cons_succ] at z0 z1 z2 z3 z4
      go_wp2_with fail
      refine (markCode_own C.params C.vars _ _ _ _ _ _ _ _ _ w4a.heap.size w10 og10.sites og10.ins og10.rows hB10 HSC.out.2.1 HSC.out.2.2.1 HSC.out.2.2.2).mono ?_
      rintro e w11 ⟨rfl, t1, t2, t3, hb11, kf11⟩
      have c11 := c10.trans (hb11.mono (by omega))
      have kg11 := kf11 _ _ _ kg10 (by decide) (by decide) (by decide)
      clear z0 z1 z2 z3 z4
      clear c10 og10 kg10 hb11 kf11
      obtain ⟨kq, hkq⟩ : ∃ kq : Int, 1 + (C.sites.length : Int) + 2 * (C.ins.length : Int) + 3 * (C.rows.length : Int) = kq := ⟨_, rfl⟩
      have hkq0 : 0 ≤ kq := by omega
      rw [hkq]
      have HKQ := put hkq
      clear hkq
      have z0 := (kg11).cell 0
      have z1 := (kg11).cell 1
      have z2 := (kg11).cell 2
      have z3 := (kg11).cell 3
      have z4 := (kg11).cell 4
      simp only [List.getElem?_toArray, List.getElem?_cons_zero, List.getElem?_cons_succ] at z0 z1 z2 z3 z4
      go_wp2_with fail
      refine (heldCode_own C.params C.vars _ _ _ _ _ _ w4a.heap.size w11 t1 t2 t3 HSC.out.2.1 HSC.out.2.2.1 HSC.out.2.2.2).mono ?_
      rintro e w12 ⟨rfl, hb12⟩
      rw [HKQ.out]
      have c12 := c11.trans (hb12.mono c11.size)
      have kg12 := kg11.below hb12
      have u1 : RN w12 w4a.heap.size 3 1 _ _ _ := ownsRow_below t1 hb12
      have u2 : RN w12 w4a.heap.size 83 2 _ _ _ := ownsRow_below t2 hb12
      have u3 : RN w12 w4a.heap.size 85 3 _ _ _ := ownsRow_below t3 hb12
      clear z0 z1 z2 z3 z4
      clear c11 kg11 t1 t2 t3 hb12
      have b12 : Below w.heap.size w w12 := b3.trans (c12.mono b3.size)
      have y0 := (k3.below c12).cell 0
      simp at y0
      go_wp2_with fail
      refine (toProg_any A0 n0 c0 fs0 _ (r0.now b12) HSM.out).mono ?_
      rintro e w13 ⟨B13, rfl, m13, hb13⟩
      have c13 : Below W3.heap.size W3 w13 := c12.trans (hb13.mono c12.size)
      have kg13 := kg12.below hb13
      have t1 : RN w13 w4a.heap.size 3 1 _ _ _ := ownsRow_below u1 hb13
      have t2 : RN w13 w4a.heap.size 83 2 _ _ _ := ownsRow_below u2 hb13
      have t3 : RN w13 w4a.heap.size 85 3 _ _ _ := ownsRow_below u3 hb13
      clear c12 kg12 u1 u2 u3 hb13 b12 y0
      go_wp2_with fail
      refine (HI8.out B13 n0 n0 _ m13.reads).mono ?_
      rintro e w14 ⟨us, ui, ur, rfl, oh14, hb14⟩
      obtain ⟨H1, h1, H2, h2, H3, h3, rfl, rfl, rfl⟩ := own_is oh14
      have hb14a : Below w13.heap.size w13 (w14.alloc (.cells #[.int .i64 C.params, .int .i64 C.vars, .slice H1 C.sites.length h1, .slice H2 C.ins.length h2, .slice H3 C.rows.length h3] 30)) := hb14.alloc hb14.size _
      have kh := Keep.new w14 #[.int .i64 C.params, .int .i64 C.vars, .slice H1 C.sites.length h1, .slice H2 C.ins.length h2, .slice H3 C.rows.length h3] 30
      have oh := oh14.below ((Below.refl _ w14).alloc (Nat.le_refl _) (.cells #[.int .i64 C.params, .int .i64 C.vars, .slice H1 C.sites.length h1, .slice H2 C.ins.length h2, .slice H3 C.rows.length h3] 30))
      have c14 := c13.trans (hb14a.mono c13.size)
      have kg14 := kg13.below hb14a
      have u1 : RN _ w4a.heap.size 3 1 _ _ _ := ownsRow_below t1 hb14a
      have u2 : RN _ w4a.heap.size 83 2 _ _ _ := ownsRow_below t2 hb14a
      have u3 : RN _ w4a.heap.size 85 3 _ _ _ := ownsRow_below t3 hb14a
      clear c13 kg13 t1 t2 t3 hb14 hb14a oh14 m13
      have z0 := (kh).cell 0
      have z1 := (kh).cell 1
      have z2 := (kh).cell 2
      have z3 := (kh).cell 3
      have z4 := (kh).cell 4
      simp only [List.getElem?_toArray, List.getElem?_cons_zero, List.getElem?_cons_succ] at z0 z1 z2 z3 z4
      have v0 := (kw.below c14).cell 0
      have v1 := (kw.below c14).cell 1
      have v2 := (kw.below c14).cell 2
      have v3 := (kw.below c14).cell 3
      have v4 := (kw.below c14).cell 4
      simp only [List.getElem?_toArray, List.getElem?_cons_zero, List.getElem?_cons_succ] at v0 v1 v2 v3 v4
      go_wp2_with fail
      generalize w14.alloc (.cells #[.int .i64 C.params, .int .i64 C.vars, .slice H1 C.sites.length h1, .slice H2 C.ins.length h2, .slice H3 C.rows.length h3] 30) = W14 at kh oh c14 kg14 u1 u2 u3 ⊢
      refine (eqCode_own C H1 H2 H3 P1 P2 P3 h1 h2 h3 p1 p2 p3 oh (ow.below c14) HSC.out.1).mono ?_
      rintro e w15 ⟨rfl, hb15⟩
      have c15 := c14.trans (hb15.mono c14.size)
      have kg15 := kg14.below hb15
      have t1 : RN w15 w4a.heap.size 3 1 _ _ _ := ownsRow_below u1 hb15
      have t2 : RN w15 w4a.heap.size 83 2 _ _ _ := ownsRow_below u2 hb15
      have t3 : RN w15 w4a.heap.size 85 3 _ _ _ := ownsRow_below u3 hb15
      clear z0 z1 z2 z3 z4 v0 v1 v2 v3 v4
      clear c14 kg14 u1 u2 u3 hb15 kh oh
      have z0 := (kg15).cell 0
      have z1 := (kg15).cell 1
      have z2 := (kg15).cell 2
      have z3 := (kg15).cell 3
      have z4 := (kg15).cell 4
      simp only [List.getElem?_toArray, List.getElem?_cons_zero, List.getElem?_cons_succ] at z0 z1 z2 z3 z4
      go_wp2_with fail
      refine (heldCode_own C.params C.vars _ _ _ _ _ _ w4a.heap.size w15 t1 t2 t3 HSC.out.2.1 HSC.out.2.2.1 HSC.out.2.2.2).mono ?_
      rintro e w16 ⟨rfl, hb16⟩
      rw [HKQ.out]
      have b16 : Below w.heap.size w w16 := b3.trans ((c15.trans (hb16.mono c15.size)).mono b3.size)
      clear z0 z1 z2 z3 z4
      go_wp2
      go_ret
      exact ⟨rfl, b16⟩)
  · have hsz := szA_no (Int.not_le.1 hbig)
    clear hbig
    obtain ⟨T, hT⟩ : ∃ T : Nat, n0 + manyFs fs0 = T := ⟨_, rfl⟩
    rw [hT] at hsz
    go_enter Tryz.func3, Tryz.ntmps3
    go_wp2_with fail
    refine (szProg_any A0 n0 c0 fs0 1048576 _ (r0.now hb0) l0 (by decide) (by decide)).mono ?_
    rintro e w1 ⟨rfl, hb1⟩
    rw [hT, hsz]
    clear hT hsz
    go_wp2
    go_ret
    exact ⟨rfl, hb0.trans (hb1.mono hb0.size)⟩

/-! From the walk to the given row. -/
set_option maxRecDepth 100000 in
theorem lifted (os : Os) (started : os.Started) (H : Type) (enc : TypeId × Value → H) :
    ReturnsInHanded {} Tryz.checked os 3 .any (Rows.fnExactLowerFuncSpec.pre6 enc Tryz.prog Tryz.f3 Rows.fnExactLowerFuncRow.domain false) (Rows.fnExactLowerFuncSpec.post enc Tryz.prog Tryz.f3 false true false false) := by
  refine returnsInHanded_of_change (C := Tryz.checked) own started (by kernel_rfl) Tryz.func3
    (ChangeSpec.witness6 (enc := enc) (C := Tryz.checked) false ⟨#[], #[.agg #[.slice none 0 0], .int .i64 0], []⟩ 8 (by kernel_rfl) (by kernel_rfl) (by kernel_rfl) (by kernel_rfl)) ?_
  intro W base args ds gs before hval0 hW hcnd _
  have hval : ∀ (j : Nat) t v, Tryz.f3.params[j]? = some t → args[j]? = some v → Value.okWide Tryz.prog W .any base t v := hval0
  have hW' := hW
  obtain ⟨p, q, hA0, hV, rfl, hfz, hnd⟩ := hW
  have hA : DataW.TrodAll enc Tryz.prog W 0 (fun _ => true) true Tryz.f3.params.toList args.toList ds p := hA0
  rw [Tryz.params3] at hA hval
  obtain ⟨v0, vs0, d0, ds0, p0, q0, hargs, rfl, rfl, h0, r0q⟩ := trodAll_cons hA
  obtain ⟨v1, vs1, d1, ds1, p1, q1, rfl, rfl, rfl, h1, r1q⟩ := trodAll_cons r0q
  obtain ⟨rfl, rfl, rfl⟩ := trodAll_nil r1q
  obtain rfl : args = #[v0, v1] := by cases args; simp_all
  obtain ⟨rfl, rfl⟩ := trodVars_none hV
  have k0 := h0
  have lt0 : ∀ x ∈ p0, x.block < W.heap.size := by obtain ⟨m, hm⟩ := k0; exact DataW.trod_lt m _ _ _ hm
  obtain ⟨A0, n0, c0, fs0, rfl, r0, l0⟩ := open_prog (hval 0 24 v0 rfl rfl) h0
  obtain ⟨a1, rfl, rfl, rfl, w1⟩ := open_int Tryz.underlying3 (hval 1 3 v1 rfl rfl) h1
  clear hA0 hval0
  refine (walk W A0 n0 c0 fs0 r0 l0 a1 w1).mono fun e W' ⟨he, bel⟩ => ?_
  subst he
  exact ⟨_, rfl, _, _, _, [], _, [], hW', trodAll_mk1 (shut_bool Tryz.underlying4 _), (trodAll_cons_mk (Below.trod laidOut (by kernel_rfl) (of_decide_eq_true (by kernel_rfl)) k0 bel lt0) (trodAll_cons_mk (shut_int Tryz.underlying3 w1) trodAll_mk0)), rfl, bel.frame _, fun h => by cases h⟩

theorem over : Rows.fnExactLowerFuncRow.holds Tryz.pinned (OpenSpec.ofChange Rows.fnExactLowerFuncSpec) :=
  OpenClaim.holds_of_wide 3 Tryz.f3 rfl rfl rfl rfl rfl rfl rfl ⟨rfl, rfl, rfl, rfl, rfl⟩ rfl rfl rfl rfl rfl (by kernel_rfl) Tryz.func3 (by kernel_rfl)
    (of_decide_eq_true (by kernel_rfl)) (by unfold Func.isWrapper; first | (rw [if_pos (by decide +kernel)]; kernel_rfl) | (rw [if_neg (by decide +kernel)]; exact ⟨rfl, rfl⟩))
    (fun os started H enc _ => lifted os started H enc)

/-- The given statement. -/
theorem proved : Rows.FnExactLowerFuncSaid := over
#print axioms proved
end Go.Proofs.YtpmpjiigmjnniaaGreat.fnExactLowerFunc

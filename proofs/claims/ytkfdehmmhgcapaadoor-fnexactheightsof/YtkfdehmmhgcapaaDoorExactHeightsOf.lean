/-
  Proved: at every image and number of a code the program's HeightsOf gives the same answer as the reference HeightsOf and leaves its arguments as they were, and its answer has memory of its own; the law FnExactHeightsOf returns true at every argument, where the listed variable is as the program's text lays it.
  Conditions: none beyond those that the given card itself prints.
-/
import Derived.Test.YtkfdehmmhgcapaaDoorRows
import Derived.Test.YtkfdehmmhgcapaaDoorTie
import Derived.Test.YtkfdehmmhgcapaaDoorCards
import Derived.Test.YtkfdehmmhgcapaaDoorLaid
import Derived.Test.YtkfdehmmhgcapaaDoorCda5
import Derived.Test.YtkfdehmmhgcapaaDoorCoEq
import Derived.Test.YtkfdehmmhgcapaaDoorCoInk
import Derived.Test.YtkfdehmmhgcapaaDoorArgsI
import Derived.Test.YtkfdehmmhgcapaaDoorArgs
import Derived.Deep.RegionLaw
import Derived.WalkKit
import Derived.ProofKit
import Derived.OpenShut
import Derived.OpenVars
import Derived.ShutString
import Derived.ChangeOld
import Derived.Below
import Derived.LaidMore
import Derived.SevenTiedAt
namespace Go.Proofs.YtkfdehmmhgcapaaDoor.fnExactHeightsOf
open Go.ChangeShapes Go.WideShapes Go.ChangeAt Go.RowKit Exs
open Go.ChangeMaps (open_string shut_string)
set_option linter.unusedVariables false

theorem own : ownKnob Tryd.prog.godebug = none := by kernel_rfl
theorem laidOut : laidOutB Tryd.prog = true := by kernel_rfl

/-! The walk: both functions by their contracts, whose answers are the same. The marks by theirs. -/
set_option maxHeartbeats 2000000 in
set_option maxRecDepth 100000 in
theorem walk (w : World) (A0 : Option Addr) (n0 c0 : Nat) (cs0 : List Cd) (r0 : ReadsC w w.heap.size A0 n0 cs0) (l0 : LongI cs0) (a1 : Int) (w1 : (Lit.int .i64 a1).wf = true) (hpos : 0 < w.heap.size) (hk : Kinds w) :
    Calls Tryd.prog 3 #[.agg #[.slice A0 n0 c0], .int .i64 a1] w fun e w' => e = .returned (.bool true) ∧ Below w.heap.size w w' := by

  have hb0 : Below w.heap.size w (w.alloc (.cells #[.slice A0 n0 c0] 24)) := (Below.refl _ _).alloc (Nat.le_refl _) _
  have hk0 := Keep.new w #[.slice A0 n0 c0] 24
  have HK := put hk
  clear hk
  by_cases hbig : (((n0 + manyCs cs0 : Nat)) : Int) ≤ 1048576
  · have hsz := szA_fit hbig
    have hsm : SmallI cs0 := smallI_of (by have := r0.1; omega)
    have hsz0 : (0 : Int) ≤ 1048576 - ((n0 + manyCs cs0 : Nat) : Int) := by omega
    have HINK := put (show (1 : Int) + ((inkCs cs0 : Nat) : Int) ≤ 1000000000 by have := inkCs_le cs0; have := r0.1; omega)
    obtain ⟨T, hT⟩ : ∃ T : Nat, n0 + manyCs cs0 = T := ⟨_, rfl⟩
    rw [hT] at hsz hsz0
    have HSM := put hsm
    have HLEN := put (hoAns_len (cs := cs0) (fn := a1))
    have hans : ∃ xs q, hoAns cs0 a1 = (xs, q) := ⟨_, _, rfl⟩
    obtain ⟨xs, q, hpq⟩ := hans
    have HPQ := put hpq
    rw [hpq] at HLEN
    clear hpq
    clear hsm hbig
    go_enter Tryd.func3, Tryd.ntmps3
    go_wp2_with fail
    generalize hW : w.alloc (.cells #[.slice A0 n0 c0] 24) = W0 at hb0 hk0 ⊢
    clear hW
    refine (szImage_any A0 n0 c0 cs0 1048576 W0 (r0.now hb0) l0 (by decide) (by decide)).mono ?_
    rintro e w1 ⟨rfl, hb1⟩
    have b1 : Below w.heap.size w w1 := hb0.trans (hb1.mono hb0.size)
    have k1 := hk0.below hb1

    rw [hT, hsz]
    clear hb0 hk0 hb1 hT hsz 
    have y := k1.cell 0
    simp at y
    go_wp2_with fail
    refine (toImage_any A0 n0 c0 cs0 _ (r0.now b1) HSM.out).mono ?_
    rintro e w2 ⟨B2, rfl, m2, hb2⟩
    have b2 : Below w.heap.size w w2 := b1.trans (hb2.mono b1.size)
    have k2 := k1.below hb2
    clear y k1 hb2 b1
    go_wp2_with fail
    refine (specHeightsOf_any B2 n0 n0 cs0 a1 _ m2.reads HSM.out).mono ?_
    rw [HPQ.out]
    rintro e w3 ⟨vw, rfl, nw3, hb3⟩
    have b3 : Below w.heap.size w w3 := b2.trans (hb3.mono b2.size)
    have k3 := k2.below hb3
    clear k2 hb3 m2 b2
    have y := k3.cell 0
    simp at y
    go_wp2_with fail
    refine (toImage_any A0 n0 c0 cs0 _ (r0.now b3) HSM.out).mono ?_
    rintro e w4 ⟨B4, rfl, m4, c4⟩
    have hL4 := c4.size
    have M4 := put m4
    have c4a := c4.alloc c4.size (.cells #[.slice B4 n0 n0] 31)
    have x4a := Keep.new w4 #[.slice B4 n0 n0] 31
    have b44 := (Below.refl _ w4).alloc (Nat.le_refl _) (.cells #[.slice B4 n0 n0] 31)
    have m4a := m4.same (SameFrom.of_below b44)
    clear m4 y
    go_wp2_with fail
    have hsz4 : (w4.alloc (.cells #[.slice B4 n0 n0] 31)).heap.size = w4.heap.size + 1 := by simp
    generalize w4.alloc (.cells #[.slice B4 n0 n0] 31) = w4a at c4a x4a m4a b44 hsz4 ⊢
    have hb4w : Below w.heap.size w w4a := b3.trans (c4a.mono b3.size)
    refine (heightsOf_any B4 n0 n0 cs0 a1 _ m4a.reads (HK.out.below hb4w hpos) (by have := hb4w.size; omega)).mono ?_
    rw [HPQ.out]
    clear hb4w
    rintro e w5 ⟨vg, rfl, ng5, hb5⟩
    have c5 : Below w3.heap.size w3 w5 := c4a.trans (hb5.mono c4a.size)
    have b45 : Below w4.heap.size w4 w5 := b44.trans (hb5.mono (by omega))
    have m5 := m4a.same (SameFrom.of_below hb5)
    have x5 := x4a.below hb5
    clear hb5 m4a x4a c4a b44
    go_wp2_with fail
    refine (eqNums_any vg vw xs _ _ w5 ng5 (nw3.belowNew c5) HLEN.out).mono ?_
    rintro e w5' ⟨rfl, q5, rfl⟩
    replace c5 : Below w3.heap.size w3 (w5.drewN q5) := below_drewN c5 _
    replace b45 : Below w4.heap.size w4 (w5.drewN q5) := below_drewN b45 _
    replace m5 := m5.same (SameFrom.of_below (below_drewN (Below.refl _ w5) q5))
    replace x5 := x5.below (below_drewN (Below.refl _ w5) q5)
    replace ng5 := ng5.drewN q5
    generalize w5.drewN q5 = w5 at c5 b45 m5 x5 ng5 ⊢
    have b5 : Below w.heap.size w w5 := b3.trans (c5.mono b3.size)
    have y := (k3.below c5).cell 0
    simp at y
    have z := x5.cell 0
    simp at z
    go_wp2
    go_region_law (first
      | (go_simp; go_at_call 8; refine (toImage_any A0 n0 c0 cs0 w5.drew (r0.now b5.drew) HSM.out).mono ?_; rintro e w6 ⟨B6, rfl, m6, hb6⟩; have x6 := Keep.below (w := w5.drew) x5 hb6; have s0 := x6.cell 0; simp at s0)
      | (go_simp; go_at_call 11; refine (eqImage_same B4 B6 n0 n0 n0 cs0 w6 (MCds.reads (m5.same (SameFrom.of_below ((Below.refl w5.heap.size w5).drew.trans hb6)))) m6.reads HSM.out).mono ?_; rintro e w7 ⟨rfl, hb7⟩))
    all_goals (
      have b57 : Below w5.heap.size w5 w7 := (Below.refl _ w5).drew.trans (hb6.trans (hb7.mono hb6.size))
      have c7 : Below w3.heap.size w3 w7 := c5.trans (b57.mono c5.size)
      have b47 : Below w4.heap.size w4 w7 := b45.trans (b57.mono b45.size)
      have x7 := x5.below b57
      have ng7 := ng5.belowNew b57
      clear b57 hb6 hb7 m6 x6 m5 x5 ng5 c5 b5 b45 y z s0
      have z := x7.cell 0
      simp at z
      go_wp2_with fail
      refine (markImage_ink B4 n0 n0 cs0 1 w3.heap.size w4 w7 M4.out hL4 b47 HSM.out (by omega) HINK.out).mono ?_
      rintro e w8 ⟨rfl, hi8⟩
      have c8 : Below w3.heap.size w3 w8 := c7.trans hi8.below
      have ng8 := ng7.inked (show w4.heap.size ≤ w4a.heap.size by omega) hi8
      have hkk0 : (0 : Int) ≤ (1 : Int) + ((inkCs cs0 : Nat) : Int) := by omega
      generalize (1 : Int) + ((inkCs cs0 : Nat) : Int) = kk at hkk0 ⊢
      clear hi8 ng7 x7 c7 b47 z
      go_wp2_with fail
      refine (eqNums_any vg vw xs _ _ w8 ng8 (nw3.belowNew c8) HLEN.out).mono ?_
      rintro e w8' ⟨rfl, q8, rfl⟩
      replace c8 : Below w3.heap.size w3 (w8.drewN q8) := below_drewN c8 _
      replace ng8 := ng8.drewN q8
      generalize w8.drewN q8 = w8 at c8 ng8 ⊢
      go_wp2_with fail
      refine (markNums_any vg xs _ w8 ng8 HLEN.out).mono ?_
      rintro e w9 ⟨rfl, ng9, hb9⟩
      have c9 : Below w3.heap.size w3 w9 := c8.trans (hb9.mono (by omega))
      clear c8 ng8 hb9
      go_wp2_with fail
      refine (heldNums_any vg xs.length _ w9 ng9 HLEN.out).mono ?_
      rintro e w9' ⟨rfl, rfl⟩
      have b9 : Below w.heap.size w w9 := b3.trans (c9.mono b3.size)
      have y := (k3.below c9).cell 0
      simp at y
      go_wp2_with fail
      refine (toImage_any A0 n0 c0 cs0 _ (r0.now b9) HSM.out).mono ?_
      rintro e w10 ⟨B10, rfl, m10, hb10⟩
      have c10 : Below w3.heap.size w3 w10 := c9.trans (hb10.mono c9.size)
      have ng10 := ng9.belowNew hb10
      have b10 : Below w.heap.size w w10 := b3.trans (c10.mono b3.size)
      clear c9 ng9 hb10 b9 y
      go_wp2_with fail
      refine (heightsOf_any B10 n0 n0 cs0 a1 _ m10.reads (HK.out.below b10 hpos) (by have := b10.size; omega)).mono ?_
      rw [HPQ.out]
      rintro e w11 ⟨vh, rfl, nh11, hb11⟩
      have c11 : Below w3.heap.size w3 w11 := c10.trans (hb11.mono c10.size)
      have ng11 := ng10.belowNew hb11
      clear c10 ng10 hb11 m10 b10
      go_wp2_with fail
      refine (eqNums_any vh vw xs _ _ w11 nh11 (nw3.belowNew c11) HLEN.out).mono ?_
      rintro e w11' ⟨rfl, q11, rfl⟩
      replace c11 : Below w3.heap.size w3 (w11.drewN q11) := below_drewN c11 _
      replace ng11 := ng11.drewN q11
      clear nh11
      generalize w11.drewN q11 = w11 at c11 ng11 ⊢
      go_wp2_with fail
      refine (heldNums_any vg xs.length _ w11 ng11 HLEN.out).mono ?_
      rintro e w12 ⟨rfl, rfl⟩
      have b11 : Below w.heap.size w w11 := b3.trans (c11.mono b3.size)
      go_wp2
      go_ret
      exact ⟨rfl, b11⟩)
  · have hsz := szA_no (Int.not_le.1 hbig)
    clear hbig
    obtain ⟨T, hT⟩ : ∃ T : Nat, n0 + manyCs cs0 = T := ⟨_, rfl⟩
    rw [hT] at hsz
    go_enter Tryd.func3, Tryd.ntmps3
    go_wp2_with fail
    generalize hW : w.alloc (.cells #[.slice A0 n0 c0] 24) = W0 at hb0 hk0 ⊢
    clear hW
    refine (szImage_any A0 n0 c0 cs0 1048576 W0 (r0.now hb0) l0 (by decide) (by decide)).mono ?_
    rintro e w1 ⟨rfl, hb1⟩
    rw [hT, hsz]
    clear hT hsz
    go_wp2
    go_ret
    exact ⟨rfl, hb0.trans (hb1.mono hb0.size)⟩

/-- The world that the program's own start leaves. -/
noncomputable def startWorld (os : Os) : World := World.doorLaid Tryd.prog 42 os
theorem start_met (os : Os) (args : Array Value) : laidMetH Tryd.prog Rows.fnExactHeightsOfRow.laid ((startWorld os).forCall (fun _ _ => 0) ⟨#[], args, []⟩).memory :=
  laidMetH_of_parts3 (fuel := 8) (laidMet_of_run' 8 (by kernel_rfl) (by kernel_rfl)) (by kernel_rfl) (by kernel_rfl)

/-! From the walk to the given row. -/
set_option maxRecDepth 100000 in
theorem lifted (os : Os) (started : os.Started) (H : Type) (enc : TypeId × Value → H) :
    ReturnsInHanded {} Tryd.checked os 3 .any (fun w args => (Rows.fnExactHeightsOfSpec.pre enc Tryd.prog Tryd.f3 [] false w args ∧ laidMetH Tryd.prog Rows.fnExactHeightsOfRow.laid w) ∧ sizedMet enc Tryd.prog Tryd.f3 (OpenSpec.ofChange Rows.fnExactHeightsOfSpec) false w args) (Rows.fnExactHeightsOfSpec.post enc Tryd.prog Tryd.f3 false true false false) := by
  refine returnsInHanded_of_change_and (C := Tryd.checked) (X := fun w _ => laidMetH Tryd.prog Rows.fnExactHeightsOfRow.laid w) (fun _ _ _ hh h => h.of_heap hh) own started (by kernel_rfl) Tryd.func3
    (ChangeSpec.witness_shaped (enc := enc) (C := Tryd.checked) (os := os) (X := fun w _ => laidMetH Tryd.prog Rows.fnExactHeightsOfRow.laid w) false (startWorld os) #[.agg #[.slice none 0 0], .int .i64 0] 8 rfl (World.shaped_of_RefB (by kernel_rfl) (by kernel_rfl)) (by kernel_rfl) (by kernel_rfl) (by kernel_rfl) (start_met os _)) ?_
  intro W base args ds gs before hval0 hW _ _ hL _
  have hval : ∀ (j : Nat) t v, Tryd.f3.params[j]? = some t → args[j]? = some v → Value.okWide Tryd.prog W .any base t v := hval0
  have hW' := hW
  obtain ⟨p, q, hA0, hV, rfl, hfz, hnd⟩ := hW
  have hA : DataW.TrodAll enc Tryd.prog W 0 (fun _ => true) true Tryd.f3.params.toList args.toList ds p := hA0
  rw [Tryd.params3] at hA hval
  obtain ⟨v0, vs0, d0, ds0, p0, q0, hargs, rfl, rfl, h0, r0q⟩ := trodAll_cons hA
  obtain ⟨v1, vs1, d1, ds1, p1, q1, rfl, rfl, rfl, h1, r1q⟩ := trodAll_cons r0q
  obtain ⟨rfl, rfl, rfl⟩ := trodAll_nil r1q
  obtain rfl : args = #[v0, v1] := by cases args; simp_all
  have k0 := h0
  have lt0 : ∀ x ∈ p0, x.block < W.heap.size := by obtain ⟨m, hm⟩ := k0; exact DataW.trod_lt m _ _ _ hm
  obtain ⟨A0, n0, c0, cs0, rfl, r0, l0⟩ := open_image (hval 0 24 v0 rfl rfl) h0
  obtain ⟨a1, rfl, rfl, rfl, w1⟩ := open_int Tryd.underlying3 (hval 1 3 v1 rfl rfl) h1
  obtain ⟨g, t, cs, fuel, dg, pg, rfl, hgn, hgt, hgv, hgd, rfl⟩ := trodVars_one (show DataW.TrodVars enc Tryd.prog W (fun _ => true) [_] gs q from hV)
  rw [MakeChecks.laidMetH_plain _ _ _ (by kernel_rfl)] at hL
  have hk := kinds_of_laid hL
  have hpos : 0 < W.heap.size := World.block_lt_of_cell? W _ (hk 0 (by omega)).1
  clear hA0 hval0
  refine (walk W A0 n0 c0 cs0 r0 l0 a1 w1 hpos hk).mono fun e W' ⟨he, bel⟩ => ?_
  subst he
  exact ⟨_, rfl, _, _, _, [], _, _, hW', trodAll_mk1 (shut_bool Tryd.underlying4 _), (trodAll_cons_mk (Below.trod laidOut (by kernel_rfl) (of_decide_eq_true (by kernel_rfl)) k0 bel lt0) (trodAll_cons_mk (shut_int Tryd.underlying3 w1) trodAll_mk0)), Below.trodVars laidOut bel (by kernel_rfl) hV, bel.frame _, fun h => by cases h⟩

theorem over : Rows.FnExactHeightsOfSaid :=
  OpenClaim.holds_of_wide 3 Tryd.f3 rfl rfl rfl rfl rfl rfl rfl ⟨rfl, rfl, rfl, rfl, rfl⟩ rfl rfl rfl rfl rfl (by kernel_rfl) Tryd.func3 (by kernel_rfl)
    (of_decide_eq_true (by kernel_rfl)) (by unfold Func.isWrapper; first | (rw [if_pos (by decide +kernel)]; kernel_rfl) | (rw [if_neg (by decide +kernel)]; exact ⟨rfl, rfl⟩))
    (fun os started H enc _ => lifted os started H enc)

/-- The given statement: the row, its listed variables tied to the program's text. -/
theorem proved : Rows.FnExactHeightsOfCardSaid :=
  Claim7.holds_tied_plain_at .later [] [.data] true (true, "b5c63ecb6edd9217acf1ddd929d195f967b10f60a943389a58b174ad99bf95c7") false
    over (fun _ h => by cases h) (by kernel_rfl) (fun _ h => by cases h) fnExactHeightsOf_row_tie rfl ⟨rfl, rfl⟩ (by kernel_rfl) rfl
    (fun f fn hf hfn => by
      obtain rfl : f = 3 := Option.some.inj ((show Tryd.prog.funcNamed "loop.example/g00745/laws.FnExactHeightsOf" = some 3 by kernel_rfl).symm.trans hf) |>.symm
      obtain rfl : fn = Tryd.f3 := (Option.some.inj (Tryd.func3.symm.trans hfn)).symm
      exact ⟨by kernel_rfl, fun j t ht => by
        rw [Tryd.params3] at ht
        have hm : t ∈ [24, 3] := by
          have := Array.mem_of_getElem? ht
          simpa using this
        simp only [List.mem_cons, List.mem_nil_iff, or_false] at hm
        rcases hm with rfl | rfl
        · exact (show Tryd.prog.wantsStandIn 24 = false by kernel_rfl)
        · exact (show Tryd.prog.wantsStandIn 3 = false by kernel_rfl)⟩)
    (by kernel_rfl)
#print axioms proved
end Go.Proofs.YtkfdehmmhgcapaaDoor.fnExactHeightsOf

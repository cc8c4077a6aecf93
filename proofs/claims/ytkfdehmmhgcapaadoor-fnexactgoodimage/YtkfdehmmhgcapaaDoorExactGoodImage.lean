/-
  Proved: at every image the program's GoodImage gives the same answer as the reference GoodImage and leaves its arguments as they were; the law FnExactGoodImage returns true at every argument, where the listed variable is as the program's text lays it.
  Conditions: none beyond those that the given card itself prints.
-/
import Derived.Test.YtkfdehmmhgcapaaDoorRows
import Derived.Test.YtkfdehmmhgcapaaDoorTie
import Derived.Test.YtkfdehmmhgcapaaDoorCards
import Derived.Test.YtkfdehmmhgcapaaDoorLaid
import Derived.Test.YtkfdehmmhgcapaaDoorCda5
import Derived.Test.YtkfdehmmhgcapaaDoorCoEq
import Derived.Test.YtkfdehmmhgcapaaDoorArgsI
import Derived.Test.YtkfdehmmhgcapaaDoorArgs
import Derived.Deep.RegionLaw
import Derived.WalkKit
import Derived.ProofKit
import Derived.OpenShut
import Derived.OpenVars
import Derived.ShutString
import Derived.ChangeOld
import Derived.Below
import Derived.LaidMore
import Derived.SevenTiedAt
namespace Go.Proofs.YtkfdehmmhgcapaaDoor.fnExactGoodImage
open Go.ChangeShapes Go.WideShapes Go.ChangeAt Go.RowKit Exs
open Go.ChangeMaps (open_string shut_string)
set_option linter.unusedVariables false

theorem own : ownKnob Tryd.prog.godebug = none := by kernel_rfl
theorem laidOut : laidOutB Tryd.prog = true := by kernel_rfl

/-! The walk: both functions by their contracts, whose answers are the same. -/
set_option maxHeartbeats 2000000 in
set_option maxRecDepth 100000 in
theorem walk (w : World) (A0 : Option Addr) (n0 c0 : Nat) (cs0 : List Cd) (r0 : ReadsC w w.heap.size A0 n0 cs0) (l0 : LongI cs0) (hpos : 0 < w.heap.size) (hk : Kinds w) :
    Calls Tryd.prog 5 #[.agg #[.slice A0 n0 c0]] w fun e w' => e = .returned (.bool true) ∧ Below w.heap.size w w' := by

  have hb0 : Below w.heap.size w (w.alloc (.cells #[.slice A0 n0 c0] 24)) := (Below.refl _ _).alloc (Nat.le_refl _) _
  have hk0 := Keep.new w #[.slice A0 n0 c0] 24
  have HK := put hk
  clear hk
  by_cases hbig : (((n0 + manyCs cs0 : Nat)) : Int) ≤ 1048576
  · have hsz := szA_fit hbig
    have hsm : SmallI cs0 := smallI_of (by have := r0.1; omega)
    have hsz0 : (0 : Int) ≤ 1048576 - ((n0 + manyCs cs0 : Nat) : Int) := by omega
    obtain ⟨T, hT⟩ : ∃ T : Nat, n0 + manyCs cs0 = T := ⟨_, rfl⟩
    rw [hT] at hsz hsz0
    have HSM := put hsm
    have hans : ∃ q, giB cs0 = q := ⟨_, rfl⟩
    obtain ⟨q, hpq⟩ := hans
    have HPQ := put hpq
    clear hpq
    clear hsm hbig
    go_enter Tryd.func5, Tryd.ntmps5
    go_wp2_with fail
    generalize hW : w.alloc (.cells #[.slice A0 n0 c0] 24) = W0 at hb0 hk0 ⊢
    clear hW
    refine (szImage_any A0 n0 c0 cs0 1048576 W0 (r0.now hb0) l0 (by decide) (by decide)).mono ?_
    rintro e w1 ⟨rfl, hb1⟩
    have b1 : Below w.heap.size w w1 := hb0.trans (hb1.mono hb0.size)
    have k1 := hk0.below hb1

    rw [hT, hsz]
    clear hb0 hk0 hb1 hT hsz 
    have y := k1.cell 0
    simp at y
    go_wp2_with fail
    refine (toImage_any A0 n0 c0 cs0 _ (r0.now b1) HSM.out).mono ?_
    rintro e w2 ⟨B2, rfl, m2, hb2⟩
    have b2 : Below w.heap.size w w2 := b1.trans (hb2.mono b1.size)
    have k2 := k1.below hb2
    clear y k1 hb2 b1
    go_wp2_with fail
    refine (specGoodImage_any B2 n0 n0 cs0 _ m2.reads HSM.out).mono ?_
    rw [HPQ.out]
    rintro e w3 ⟨rfl, hb3⟩
    have b3 : Below w.heap.size w w3 := b2.trans (hb3.mono b2.size)
    have k3 := k2.below hb3
    clear k2 hb3 m2 b2
    have y := k3.cell 0
    simp at y
    go_wp2_with fail
    refine (toImage_any A0 n0 c0 cs0 _ (r0.now b3) HSM.out).mono ?_
    rintro e w4 ⟨B4, rfl, m4, hb4⟩
    have b4 : Below w.heap.size w w4 := b3.trans (hb4.mono b3.size)
    have b4a := b4.alloc b4.size (.cells #[.slice B4 n0 n0] 31)
    have k4a := (k3.below hb4).alloc (.cells #[.slice B4 n0 n0] 31)
    have x4a := Keep.new w4 #[.slice B4 n0 n0] 31
    have m4a := m4.same (SameFrom.of_below ((Below.refl _ w4).alloc (Nat.le_refl _) (.cells #[.slice B4 n0 n0] 31)))
    clear hb4 m4 k3 b3 b4 y
    go_wp2_with fail
    generalize hW : w4.alloc (.cells #[.slice B4 n0 n0] 31) = w4a at b4a k4a x4a m4a ⊢
    clear hW
    refine (goodImage_any B4 n0 n0 cs0 _ (MCds.reads m4a) (HK.out.below b4a hpos) (by have := b4a.size; omega)).mono ?_
    rw [HPQ.out]
    rintro e w5 ⟨rfl, hb5⟩
    have b5 : Below w.heap.size w w5 := b4a.trans (hb5.mono b4a.size)
    have m5 := m4a.same (SameFrom.of_below hb5)
    have k5 := k4a.below hb5
    have x5 := x4a.below hb5
    clear hb5 m4a k4a x4a b4a
    have y := k5.cell 0
    have z := x5.cell 0
    simp at y z
    go_wp2
    go_region_law (first
      | (go_simp; go_at_call 8; refine (toImage_any A0 n0 c0 cs0 w5.drew (r0.now b5.drew) HSM.out).mono ?_; rintro e w6 ⟨B6, rfl, m6, hb6⟩; have x6 := Keep.below (w := w5.drew) x5 hb6; have z6 := x6.cell 0; simp at z6)
      | (go_simp; go_at_call 11; refine (eqImage_same B4 B6 n0 n0 n0 cs0 w6 (MCds.reads (m5.same (SameFrom.of_below ((Below.refl w5.heap.size w5).drew.trans hb6)))) m6.reads HSM.out).mono ?_; rintro e w7 ⟨rfl, hb7⟩))
    all_goals (
      have b7 : Below w.heap.size w w7 := (b5.drew.trans (hb6.mono b5.size)).trans (hb7.mono (Nat.le_trans b5.size hb6.size))
      go_wp2
      go_ret
      exact ⟨rfl, b7⟩)
  · have hsz := szA_no (Int.not_le.1 hbig)
    clear hbig
    obtain ⟨T, hT⟩ : ∃ T : Nat, n0 + manyCs cs0 = T := ⟨_, rfl⟩
    rw [hT] at hsz
    go_enter Tryd.func5, Tryd.ntmps5
    go_wp2_with fail
    generalize hW : w.alloc (.cells #[.slice A0 n0 c0] 24) = W0 at hb0 hk0 ⊢
    clear hW
    refine (szImage_any A0 n0 c0 cs0 1048576 W0 (r0.now hb0) l0 (by decide) (by decide)).mono ?_
    rintro e w1 ⟨rfl, hb1⟩
    rw [hT, hsz]
    clear hT hsz
    go_wp2
    go_ret
    exact ⟨rfl, hb0.trans (hb1.mono hb0.size)⟩

/-- The world that the program's own start leaves. -/
noncomputable def startWorld (os : Os) : World := World.doorLaid Tryd.prog 42 os
theorem start_met (os : Os) (args : Array Value) : laidMetH Tryd.prog Rows.fnExactGoodImageRow.laid ((startWorld os).forCall (fun _ _ => 0) ⟨#[], args, []⟩).memory :=
  laidMetH_of_parts3 (fuel := 8) (laidMet_of_run' 8 (by kernel_rfl) (by kernel_rfl)) (by kernel_rfl) (by kernel_rfl)

/-! From the walk to the given row. -/
set_option maxRecDepth 100000 in
theorem lifted (os : Os) (started : os.Started) (H : Type) (enc : TypeId × Value → H) :
    ReturnsInHanded {} Tryd.checked os 5 .any (fun w args => (Rows.fnExactGoodImageSpec.pre enc Tryd.prog Tryd.f5 [] false w args ∧ laidMetH Tryd.prog Rows.fnExactGoodImageRow.laid w) ∧ sizedMet enc Tryd.prog Tryd.f5 (OpenSpec.ofChange Rows.fnExactGoodImageSpec) false w args) (Rows.fnExactGoodImageSpec.post enc Tryd.prog Tryd.f5 false true false false) := by
  refine returnsInHanded_of_change_and (C := Tryd.checked) (X := fun w _ => laidMetH Tryd.prog Rows.fnExactGoodImageRow.laid w) (fun _ _ _ hh h => h.of_heap hh) own started (by kernel_rfl) Tryd.func5
    (ChangeSpec.witness_shaped (enc := enc) (C := Tryd.checked) (os := os) (X := fun w _ => laidMetH Tryd.prog Rows.fnExactGoodImageRow.laid w) false (startWorld os) #[.agg #[.slice none 0 0]] 8 rfl (World.shaped_of_RefB (by kernel_rfl) (by kernel_rfl)) (by kernel_rfl) (by kernel_rfl) (by kernel_rfl) (start_met os _)) ?_
  intro W base args ds gs before hval0 hW _ _ hL _
  have hval : ∀ (j : Nat) t v, Tryd.f5.params[j]? = some t → args[j]? = some v → Value.okWide Tryd.prog W .any base t v := hval0
  have hW' := hW
  obtain ⟨p, q, hA0, hV, rfl, hfz, hnd⟩ := hW
  have hA : DataW.TrodAll enc Tryd.prog W 0 (fun _ => true) true Tryd.f5.params.toList args.toList ds p := hA0
  rw [Tryd.params5] at hA hval
  obtain ⟨v0, vs0, d0, ds0, p0, q0, hargs, rfl, rfl, h0, r0q⟩ := trodAll_cons hA
  obtain ⟨rfl, rfl, rfl⟩ := trodAll_nil r0q
  obtain rfl : args = #[v0] := by cases args; simp_all
  have k0 := h0
  have lt0 : ∀ x ∈ p0, x.block < W.heap.size := by obtain ⟨m, hm⟩ := k0; exact DataW.trod_lt m _ _ _ hm
  obtain ⟨A0, n0, c0, cs0, rfl, r0, l0⟩ := open_image (hval 0 24 v0 rfl rfl) h0
  obtain ⟨g, t, cs, fuel, dg, pg, rfl, hgn, hgt, hgv, hgd, rfl⟩ := trodVars_one (show DataW.TrodVars enc Tryd.prog W (fun _ => true) [_] gs q from hV)
  rw [MakeChecks.laidMetH_plain _ _ _ (by kernel_rfl)] at hL
  have hk := kinds_of_laid hL
  have hpos : 0 < W.heap.size := World.block_lt_of_cell? W _ (hk 0 (by omega)).1
  clear hA0 hval0
  refine (walk W A0 n0 c0 cs0 r0 l0 hpos hk).mono fun e W' ⟨he, bel⟩ => ?_
  subst he
  exact ⟨_, rfl, _, _, _, [], _, _, hW', trodAll_mk1 (shut_bool Tryd.underlying4 _), (trodAll_cons_mk (Below.trod laidOut (by kernel_rfl) (of_decide_eq_true (by kernel_rfl)) k0 bel lt0) trodAll_mk0), Below.trodVars laidOut bel (by kernel_rfl) hV, bel.frame _, fun h => by cases h⟩

theorem over : Rows.FnExactGoodImageSaid :=
  OpenClaim.holds_of_wide 5 Tryd.f5 rfl rfl rfl rfl rfl rfl rfl ⟨rfl, rfl, rfl, rfl, rfl⟩ rfl rfl rfl rfl rfl (by kernel_rfl) Tryd.func5 (by kernel_rfl)
    (of_decide_eq_true (by kernel_rfl)) (by unfold Func.isWrapper; first | (rw [if_pos (by decide +kernel)]; kernel_rfl) | (rw [if_neg (by decide +kernel)]; exact ⟨rfl, rfl⟩))
    (fun os started H enc _ => lifted os started H enc)

/-- The given statement: the row, its listed variables tied to the program's text. -/
theorem proved : Rows.FnExactGoodImageCardSaid :=
  Claim7.holds_tied_plain_at .later [] [.data] true (true, "b5c63ecb6edd9217acf1ddd929d195f967b10f60a943389a58b174ad99bf95c7") false
    over (fun _ h => by cases h) (by kernel_rfl) (fun _ h => by cases h) fnExactGoodImage_row_tie rfl ⟨rfl, rfl⟩ (by kernel_rfl) rfl
    (fun f fn hf hfn => by
      obtain rfl : f = 5 := Option.some.inj ((show Tryd.prog.funcNamed "loop.example/g00745/laws.FnExactGoodImage" = some 5 by kernel_rfl).symm.trans hf) |>.symm
      obtain rfl : fn = Tryd.f5 := (Option.some.inj (Tryd.func5.symm.trans hfn)).symm
      exact ⟨by kernel_rfl, fun j t ht => by
        rw [Tryd.params5] at ht
        have hm : t ∈ [24] := by
          have := Array.mem_of_getElem? ht
          simpa using this
        simp only [List.mem_cons, List.mem_nil_iff, or_false] at hm
        rcases hm with rfl
        · exact (show Tryd.prog.wantsStandIn 24 = false by kernel_rfl)⟩)
    (by kernel_rfl)
#print axioms proved
end Go.Proofs.YtkfdehmmhgcapaaDoor.fnExactGoodImage

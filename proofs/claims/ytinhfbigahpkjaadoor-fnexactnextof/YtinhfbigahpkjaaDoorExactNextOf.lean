/-
  Proved: at every instruction and place the program's NextOf gives the same list and truth as the reference NextOf, and its answer has memory of its own; the law FnExactNextOf returns true at every argument, where the listed variable is as the program's text lays it.
  Conditions: none beyond those that the given card itself prints.
-/
import Derived.Test.YtinhfbigahpkjaaDoorRows
import Derived.Test.YtinhfbigahpkjaaDoorTie
import Derived.Test.YtinhfbigahpkjaaDoorCards
import Derived.Test.YtinhfbigahpkjaaDoorLaid
import Derived.Test.YtinhfbigahpkjaaDoorIns2
import Derived.Test.YtinhfbigahpkjaaDoorArgs
import Derived.Deep.RegionLaw
import Derived.WalkKit
import Derived.ProofKit
import Derived.OpenShut
import Derived.OpenVars
import Derived.ShutString
import Derived.ChangeOld
import Derived.Below
import Derived.LaidMore
import Derived.SevenTiedAt
namespace Go.Proofs.YtinhfbigahpkjaaDoor.fnExactNextOf
open Go.ChangeShapes Go.WideShapes Go.ChangeAt Go.RowKit Exs
open Go.ChangeMaps (open_string shut_string)
set_option linter.unusedVariables false

theorem own : ownKnob Tryd.prog.godebug = none := by kernel_rfl
theorem laidOut : laidOutB Tryd.prog = true := by kernel_rfl

/-! The walk: both functions by their contracts, whose answers are the same; the marks by theirs. -/
set_option maxHeartbeats 1000000 in
set_option maxRecDepth 100000 in
theorem walk (w : World) (op0 x0 : Int) (a1 : Int) (w1 : (Lit.int .i64 a1).wf = true) (hpos : 0 < w.heap.size) (hk : Kinds w) :
    Calls Tryd.prog 6 #[.agg #[.int .i64 op0, .int .i64 x0], .int .i64 a1] w fun e w' => e = .returned (.bool true) ∧ Below w.heap.size w w' := by

  have hb0 : Below w.heap.size w (w.alloc (.cells #[.int .i64 op0, .int .i64 x0] 43)) := (Below.refl _ _).alloc (Nat.le_refl _) _
  have k0 := Keep.new w #[.int .i64 op0, .int .i64 x0] 43
  have HK := put hk
  have hans : ∃ xs q, nextAns op0 x0 a1 = (xs, q) := ⟨_, _, rfl⟩
  obtain ⟨xs, q, hpq⟩ := hans
  have HL := put (show xs.length ≤ 1048576 by
    have h := nxL_length op0 x0 a1
    unfold nextAns at hpq
    split at hpq
    · injection hpq with e _; rw [← e]; omega
    · injection hpq with e _; rw [← e]; simp)
  have HPQ := put hpq
  clear hk hpq
  go_enter Tryd.func6, Tryd.ntmps6
  go_wp2_with fail
  generalize hW : w.alloc (.cells #[.int .i64 op0, .int .i64 x0] 43) = W0 at hb0 k0 ⊢
  clear hW
  refine (toTok_any op0 x0 W0).mono ?_
  rintro e w1 ⟨rfl, hb1⟩
  have b1 : Below w.heap.size w w1 := hb0.trans (hb1.mono hb0.size)
  have k1 := k0.below hb1
  clear hb0 k0 hb1
  go_wp2_with fail
  refine (specNextOf_any op0 x0 a1 w1).mono ?_
  rw [HPQ.out]
  rintro e w2 ⟨v1, rfl, n1, hb2⟩
  have b2 : Below w.heap.size w w2 := b1.trans (hb2.mono b1.size)
  have k2 := k1.below hb2
  clear b1 k1 hb2
  have y0 := k2.cell 0
  have y1 := k2.cell 1
  simp at y0 y1
  go_wp2_with fail
  refine (toTok_any op0 x0 w2).mono ?_
  rintro e w3 ⟨rfl, c3⟩
  have b3 : Below w.heap.size w w3 := b2.trans (c3.mono b2.size)
  clear y0 y1
  go_wp2_with fail
  refine (nextOf_any op0 x0 a1 w3 (HK.out.below b3 hpos) (by have := b3.size; omega)).mono ?_
  rw [HPQ.out]
  rintro e w4 ⟨v2, rfl, m4, hb4⟩
  have c4 : Below w2.heap.size w2 w4 := c3.trans (hb4.mono c3.size)
  have s3 := c3.size
  clear hb4 b3 c3
  go_wp2_with fail
  refine (eqNums_any v2 v1 xs _ _ w4 m4 (n1.belowNew c4) HL.out).mono ?_
  rintro e w5 ⟨rfl, q5, rfl⟩
  replace c4 : Below w2.heap.size w2 (w4.drewN q5) := below_drewN c4 _
  replace m4 := m4.drewN q5
  generalize w4.drewN q5 = w5 at c4 m4 ⊢
  go_wp2_with fail
  refine (markNums_any v2 xs _ w5 m4 HL.out).mono ?_
  rintro e w6 ⟨rfl, m6, hb6⟩
  have c6 : Below w2.heap.size w2 w6 := c4.trans (hb6.mono (by omega))
  clear c4 m4 hb6
  go_wp2_with fail
  refine (heldNums_any v2 xs.length _ w6 m6 HL.out).mono ?_
  rintro e w6' ⟨rfl, rfl⟩
  have b6 : Below w.heap.size w w6 := b2.trans (c6.mono b2.size)
  have y0 := (k2.below c6).cell 0
  have y1 := (k2.below c6).cell 1
  simp at y0 y1
  go_wp2_with fail
  refine (toTok_any op0 x0 w6).mono ?_
  rintro e w7 ⟨rfl, hb7⟩
  have c7 : Below w2.heap.size w2 w7 := c6.trans (hb7.mono c6.size)
  have m7 := m6.belowNew hb7
  have b7 : Below w.heap.size w w7 := b2.trans (c7.mono b2.size)
  clear c6 m6 hb7 b6 y0 y1
  go_wp2_with fail
  refine (nextOf_any op0 x0 a1 w7 (HK.out.below b7 hpos) (by have := b7.size; omega)).mono ?_
  rw [HPQ.out]
  rintro e w8 ⟨v3, rfl, p8, hb8⟩
  have c8 : Below w2.heap.size w2 w8 := c7.trans (hb8.mono c7.size)
  have m8 := m7.belowNew hb8
  clear c7 m7 hb8 b7
  go_wp2_with fail
  refine (eqNums_any v3 v1 xs _ _ w8 p8 (n1.belowNew c8) HL.out).mono ?_
  rintro e w9 ⟨rfl, q9, rfl⟩
  replace c8 : Below w2.heap.size w2 (w8.drewN q9) := below_drewN c8 _
  replace m8 := m8.drewN q9
  generalize w8.drewN q9 = w9 at c8 m8 ⊢
  go_wp2_with fail
  refine (heldNums_any v2 xs.length _ w9 m8 HL.out).mono ?_
  rintro e w9' ⟨rfl, rfl⟩
  go_wp2
  go_ret
  exact ⟨rfl, b2.trans (c8.mono b2.size)⟩

/-- The world that the program's own start leaves. -/
noncomputable def startWorld (os : Os) : World := World.doorLaid Tryd.prog 57 os
theorem start_met (os : Os) (args : Array Value) : laidMetH Tryd.prog Rows.fnExactNextOfRow.laid ((startWorld os).forCall (fun _ _ => 0) ⟨#[], args, []⟩).memory :=
  laidMetH_of_parts3 (fuel := 8) (laidMet_of_run' 8 (by kernel_rfl) (by kernel_rfl)) (by kernel_rfl) (by kernel_rfl)

/-! From the walk to the given row. -/
set_option maxRecDepth 100000 in
theorem lifted (os : Os) (started : os.Started) (H : Type) (enc : TypeId × Value → H) :
    ReturnsInHanded {} Tryd.checked os 6 .any (fun w args => (Rows.fnExactNextOfSpec.pre enc Tryd.prog Tryd.f6 [] false w args ∧ laidMetH Tryd.prog Rows.fnExactNextOfRow.laid w) ∧ sizedMet enc Tryd.prog Tryd.f6 (OpenSpec.ofChange Rows.fnExactNextOfSpec) false w args) (Rows.fnExactNextOfSpec.post enc Tryd.prog Tryd.f6 false true false false) := by
  refine returnsInHanded_of_change_and (C := Tryd.checked) (X := fun w _ => laidMetH Tryd.prog Rows.fnExactNextOfRow.laid w) (fun _ _ _ hh h => h.of_heap hh) own started (by kernel_rfl) Tryd.func6
    (ChangeSpec.witness_shaped (enc := enc) (C := Tryd.checked) (os := os) (X := fun w _ => laidMetH Tryd.prog Rows.fnExactNextOfRow.laid w) false (startWorld os) #[.agg #[.int .i64 0, .int .i64 0], .int .i64 0] 8 rfl (World.shaped_of_RefB (by kernel_rfl) (by kernel_rfl)) (by kernel_rfl) (by kernel_rfl) (by kernel_rfl) (start_met os _)) ?_
  intro W base args ds gs before hval0 hW _ _ hL _
  have hval : ∀ (j : Nat) t v, Tryd.f6.params[j]? = some t → args[j]? = some v → Value.okWide Tryd.prog W .any base t v := hval0
  have hW' := hW
  obtain ⟨p, q, hA0, hV, rfl, hfz, hnd⟩ := hW
  have hA : DataW.TrodAll enc Tryd.prog W 0 (fun _ => true) true Tryd.f6.params.toList args.toList ds p := hA0
  rw [Tryd.params6] at hA hval
  obtain ⟨v0, vs0, d0, ds0, p0, q0, hargs, rfl, rfl, h0, r0q⟩ := trodAll_cons hA
  obtain ⟨v1, vs1, d1, ds1, p1, q1, rfl, rfl, rfl, h1, r1q⟩ := trodAll_cons r0q
  obtain ⟨rfl, rfl, rfl⟩ := trodAll_nil r1q
  obtain rfl : args = #[v0, v1] := by cases args; simp_all
  have k0 := h0
  have lt0 : ∀ x ∈ p0, x.block < W.heap.size := by obtain ⟨m, hm⟩ := k0; exact DataW.trod_lt m _ _ _ hm
  obtain ⟨op0, x0, rfl⟩ := open_tok Tryd.underlying43 (by kernel_rfl) (by kernel_rfl) Tryd.underlying3 Tryd.underlying3 (hval 0 43 v0 rfl rfl) h0
  obtain ⟨a1, rfl, rfl, rfl, w1⟩ := open_int Tryd.underlying3 (hval 1 3 v1 rfl rfl) h1
  obtain ⟨g, t, cs, fuel, dg, pg, rfl, hgn, hgt, hgv, hgd, rfl⟩ := trodVars_one (show DataW.TrodVars enc Tryd.prog W (fun _ => true) [_] gs q from hV)
  rw [MakeChecks.laidMetH_plain _ _ _ (by kernel_rfl)] at hL
  have hk := kinds_of_laid hL
  have hpos : 0 < W.heap.size := World.block_lt_of_cell? W _ (hk 0 (by omega)).1
  clear hA0 hval0
  refine (walk W op0 x0 a1 w1 hpos hk).mono fun e W' ⟨he, bel⟩ => ?_
  subst he
  exact ⟨_, rfl, _, _, _, [], _, _, hW', trodAll_mk1 (shut_bool Tryd.underlying4 _), (trodAll_cons_mk (Below.trod laidOut (by kernel_rfl) (of_decide_eq_true (by kernel_rfl)) k0 bel lt0) (trodAll_cons_mk (shut_int Tryd.underlying3 w1) trodAll_mk0)), Below.trodVars laidOut bel (by kernel_rfl) hV, bel.frame _, fun h => by cases h⟩

theorem over : Rows.FnExactNextOfSaid :=
  OpenClaim.holds_of_wide 6 Tryd.f6 rfl rfl rfl rfl rfl rfl rfl ⟨rfl, rfl, rfl, rfl, rfl⟩ rfl rfl rfl rfl rfl (by kernel_rfl) Tryd.func6 (by kernel_rfl)
    (of_decide_eq_true (by kernel_rfl)) (by unfold Func.isWrapper; first | (rw [if_pos (by decide +kernel)]; kernel_rfl) | (rw [if_neg (by decide +kernel)]; exact ⟨rfl, rfl⟩))
    (fun os started H enc _ => lifted os started H enc)

/-- The given statement: the row, its listed variables tied to the program's text. -/
theorem proved : Rows.FnExactNextOfCardSaid :=
  Claim7.holds_tied_plain_at .later [] [.data] true (true, "a0f74ef18ed2001cd6f40859c24657e69d174e3156b72f147f379069d760a4bf") false
    over (fun _ h => by cases h) (by kernel_rfl) (fun _ h => by cases h) fnExactNextOf_row_tie rfl ⟨rfl, rfl⟩ (by kernel_rfl) rfl
    (fun f fn hf hfn => by
      obtain rfl : f = 6 := Option.some.inj ((show Tryd.prog.funcNamed "loop.example/g00745/laws.FnExactNextOf" = some 6 by kernel_rfl).symm.trans hf) |>.symm
      obtain rfl : fn = Tryd.f6 := (Option.some.inj (Tryd.func6.symm.trans hfn)).symm
      exact ⟨by kernel_rfl, fun j t ht => by
        rw [Tryd.params6] at ht
        have hm : t ∈ [43, 3] := by
          have := Array.mem_of_getElem? ht
          simpa using this
        simp only [List.mem_cons, List.mem_nil_iff, or_false] at hm
        rcases hm with rfl | rfl
        · exact (show Tryd.prog.wantsStandIn 43 = false by kernel_rfl)
        · exact (show Tryd.prog.wantsStandIn 3 = false by kernel_rfl)⟩)
    (by kernel_rfl)
#print axioms proved
end Go.Proofs.YtinhfbigahpkjaaDoor.fnExactNextOf

/-
  Proved: at every program and fuel the program's TicksFor gives the same answer as the reference TicksFor and leaves its arguments as they were; the law FnExactTicksFor returns true at every argument.
  Conditions: none beyond those that the given row itself prints.
-/
import Derived.Test.YtaogdaoiijmmhaaRows
import Derived.Test.YtaogdaoiijmmhaaTg
import Derived.Test.YtaogdaoiijmmhaaPrgEq
import Derived.Test.YtaogdaoiijmmhaaPrgSz
import Derived.Test.YtaogdaoiijmmhaaPrgTo2
import Derived.Test.YtaogdaoiijmmhaaArgsP
import Derived.WalkKit
import Derived.ProofKit
import Derived.OpenShut
import Derived.ShutString
import Derived.ChangeOld
import Derived.Deep.RegionLaw
import Derived.Below
namespace Go.Proofs.Ytaogdaoiijmmhaa.fnExactTicksFor
open Go.ChangeShapes Go.WideShapes Go.ChangeAt Go.RowKit Exs
open Go.ChangeMaps (open_string shut_string)
set_option linter.unusedVariables false

theorem own : ownKnob Try.prog.godebug = none := by kernel_rfl
theorem laidOut : laidOutB Try.prog = true := by kernel_rfl

/-! The walk: both functions by their contracts, whose answers are the same. -/
set_option maxHeartbeats 2000000 in
set_option maxRecDepth 100000 in
theorem walk (w : World) (A0 : Option Addr) (n0 c0 : Nat) (fs0 : List Fc) (r0 : ReadsF w w.heap.size A0 n0 fs0) (l0 : LongP fs0) (a1 : Int) (w1 : (Lit.int .i64 a1).wf = true) :
    Calls Try.prog 4 #[.agg #[.slice A0 n0 c0], .int .i64 a1] w fun e w' => e = .returned (.bool true) ∧ Below w.heap.size w w' := by

  have hb0 : Below w.heap.size w (w.alloc (.cells #[.slice A0 n0 c0] 34)) := (Below.refl _ _).alloc (Nat.le_refl _) _
  have hk0 := Keep.new w #[.slice A0 n0 c0] 34
  by_cases hbig : (((n0 + manyFs fs0 : Nat)) : Int) ≤ 1048576
  · have hsz := szA_fit hbig
    have hsm : SmallP fs0 := smallP_of (by have := r0.1; omega)
    have hsz0 : (0 : Int) ≤ 1048576 - ((n0 + manyFs fs0 : Nat) : Int) := by omega
    obtain ⟨T, hT⟩ : ∃ T : Nat, n0 + manyFs fs0 = T := ⟨_, rfl⟩
    rw [hT] at hsz hsz0
    have HSM := put hsm
    have hans : ∃ p q, tfAns fs0 a1 = (p, q) := ⟨_, _, rfl⟩
    obtain ⟨p, q, hpq⟩ := hans
    have HPQ := put hpq
    clear hsm hbig hpq
    go_enter Try.func4, Try.ntmps4
    go_wp2_with fail
    refine (szProg_any A0 n0 c0 fs0 1048576 _ (r0.now hb0) l0 (by decide) (by decide)).mono ?_
    rintro e w1 ⟨rfl, hb1⟩
    have b1 : Below w.heap.size w w1 := hb0.trans (hb1.mono hb0.size)
    have k1 := hk0.below hb1
    rw [hT, hsz]
    clear hb0 hk0 hb1 hT hsz
    have y := k1.cell 0
    simp at y
    go_wp2_with fail
    refine (toProg_any A0 n0 c0 fs0 _ (r0.now b1) HSM.out).mono ?_
    rintro e w2 ⟨B2, rfl, m2, hb2⟩
    have b2 : Below w.heap.size w w2 := b1.trans (hb2.mono b1.size)
    have k2 := k1.below hb2
    clear y k1 hb2 b1
    go_wp2_with fail
    refine (specTicksFor_any B2 n0 n0 fs0 a1 _ m2.reads HSM.out).mono ?_
    rw [HPQ.out]
    rintro e w3 ⟨rfl, hb3⟩
    have b3 : Below w.heap.size w w3 := b2.trans (hb3.mono b2.size)
    have k3 := k2.below hb3
    clear hb3 m2 k2 b2
    have y := k3.cell 0
    simp at y
    go_wp2_with fail
    refine (toProg_any A0 n0 c0 fs0 _ (r0.now b3) HSM.out).mono ?_
    rintro e w4 ⟨B4, rfl, m4, hb4⟩
    have b4 : Below w.heap.size w w4 := b3.trans (hb4.mono b3.size)
    have k4 := k3.below hb4
    have b4a := b4.alloc b4.size (.cells #[.slice B4 n0 n0] 39)
    have k4a := k4.alloc (.cells #[.slice B4 n0 n0] 39)
    have x4a := Keep.new w4 #[.slice B4 n0 n0] 39
    have m4a := m4.same (SameFrom.of_below ((Below.refl _ w4).alloc (Nat.le_refl _) (.cells #[.slice B4 n0 n0] 39)))
    clear hb4 m4 k3 k4 b3 b4 y
    go_wp2_with fail
    generalize w4.alloc (.cells #[.slice B4 n0 n0] 39) = w4a at b4a k4a x4a m4a ⊢
    refine (ticksFor_any B4 n0 n0 fs0 a1 _ m4a.reads HSM.out).mono ?_
    rw [HPQ.out]
    rintro e w5 ⟨rfl, hb5⟩
    have b5 : Below w.heap.size w w5 := b4a.trans (hb5.mono b4a.size)
    have m5 := m4a.same (SameFrom.of_below hb5)
    have k5 := k4a.below hb5
    have x5 := x4a.below hb5
    clear hb5 m4a k4a x4a b4a
    have y := k5.cell 0
    have z := x5.cell 0
    simp at y z
    go_wp2
    go_region_law (first
      | (go_simp; go_at_call 12; refine (toProg_any A0 n0 c0 fs0 w5.drew (r0.now b5.drew) HSM.out).mono ?_; rintro e w6 ⟨B6, rfl, m6, hb6⟩; have x6 := Keep.below (w := w5.drew) x5 hb6; have z6 := x6.cell 0; simp at z6)
      | (go_simp; go_at_call 14; refine (eqProg_same B4 B6 n0 n0 n0 fs0 w6 (MFuncs.reads (m5.same (SameFrom.of_below ((Below.refl w5.heap.size w5).drew.trans hb6)))) m6.reads HSM.out).mono ?_; rintro e w7 ⟨rfl, hb7⟩))
    all_goals (
      have b7 : Below w.heap.size w w7 := (b5.drew.trans (hb6.mono b5.size)).trans (hb7.mono (Nat.le_trans b5.size hb6.size))
      go_wp2
      go_ret
      exact ⟨rfl, b7⟩)
  · have hsz := szA_no (Int.not_le.1 hbig)
    clear hbig
    obtain ⟨T, hT⟩ : ∃ T : Nat, n0 + manyFs fs0 = T := ⟨_, rfl⟩
    rw [hT] at hsz
    go_enter Try.func4, Try.ntmps4
    go_wp2_with fail
    refine (szProg_any A0 n0 c0 fs0 1048576 _ (r0.now hb0) l0 (by decide) (by decide)).mono ?_
    rintro e w1 ⟨rfl, hb1⟩
    rw [hT, hsz]
    clear hT hsz
    go_wp2
    go_ret
    exact ⟨rfl, hb0.trans (hb1.mono hb0.size)⟩

/-! From the walk to the given row. -/
set_option maxRecDepth 100000 in
theorem lifted (os : Os) (started : os.Started) (H : Type) (enc : TypeId × Value → H) :
    ReturnsInHanded {} Try.checked os 4 .any (Rows.fnExactTicksForSpec.pre6 enc Try.prog Try.f4 Rows.fnExactTicksForRow.domain false) (Rows.fnExactTicksForSpec.post enc Try.prog Try.f4 false true false false) := by
  refine returnsInHanded_of_change (C := Try.checked) own started (by kernel_rfl) Try.func4
    (ChangeSpec.witness6 (enc := enc) (C := Try.checked) false ⟨#[], #[.agg #[.slice none 0 0], .int .i64 0], []⟩ 8 (by kernel_rfl) (by kernel_rfl) (by kernel_rfl) (by kernel_rfl)) ?_
  intro W base args ds gs before hval0 hW hcnd _
  have hval : ∀ (j : Nat) t v, Try.f4.params[j]? = some t → args[j]? = some v → Value.okWide Try.prog W .any base t v := hval0
  have hW' := hW
  obtain ⟨p, q, hA0, hV, rfl, hfz, hnd⟩ := hW
  have hA : DataW.TrodAll enc Try.prog W 0 (fun _ => true) true Try.f4.params.toList args.toList ds p := hA0
  rw [Try.params4] at hA hval
  obtain ⟨v0, vs0, d0, ds0, p0, q0, hargs, rfl, rfl, h0, r0q⟩ := trodAll_cons hA
  obtain ⟨v1, vs1, d1, ds1, p1, q1, rfl, rfl, rfl, h1, r1q⟩ := trodAll_cons r0q
  obtain ⟨rfl, rfl, rfl⟩ := trodAll_nil r1q
  obtain rfl : args = #[v0, v1] := by cases args; simp_all
  obtain ⟨rfl, rfl⟩ := trodVars_none hV
  have k0 := h0
  have lt0 : ∀ x ∈ p0, x.block < W.heap.size := by obtain ⟨m, hm⟩ := k0; exact DataW.trod_lt m _ _ _ hm
  obtain ⟨A0, n0, c0, fs0, rfl, r0, l0⟩ := open_prog (hval 0 34 v0 rfl rfl) h0
  obtain ⟨a1, rfl, rfl, rfl, w1⟩ := open_int Try.underlying3 (hval 1 3 v1 rfl rfl) h1
  clear hA0 hval0
  refine (walk W A0 n0 c0 fs0 r0 l0 a1 w1).mono fun e W' ⟨he, bel⟩ => ?_
  subst he
  exact ⟨_, rfl, _, _, _, [], _, [], hW', trodAll_mk1 (shut_bool Try.underlying4 _), (trodAll_cons_mk (Below.trod laidOut (by kernel_rfl) (of_decide_eq_true (by kernel_rfl)) k0 bel lt0) (trodAll_cons_mk (shut_int Try.underlying3 w1) trodAll_mk0)), rfl, bel.frame _, fun h => by cases h⟩

theorem over : Rows.fnExactTicksForRow.holds Try.pinned (OpenSpec.ofChange Rows.fnExactTicksForSpec) :=
  OpenClaim.holds_of_wide 4 Try.f4 rfl rfl rfl rfl rfl rfl rfl ⟨rfl, rfl, rfl, rfl, rfl⟩ rfl rfl rfl rfl rfl (by kernel_rfl) Try.func4 (by kernel_rfl)
    (of_decide_eq_true (by kernel_rfl)) (by unfold Func.isWrapper; first | (rw [if_pos (by decide +kernel)]; kernel_rfl) | (rw [if_neg (by decide +kernel)]; exact ⟨rfl, rfl⟩))
    (fun os started H enc _ => lifted os started H enc)

/-- The given statement. -/
theorem proved : Rows.FnExactTicksForSaid := over
#print axioms proved
end Go.Proofs.Ytaogdaoiijmmhaa.fnExactTicksFor

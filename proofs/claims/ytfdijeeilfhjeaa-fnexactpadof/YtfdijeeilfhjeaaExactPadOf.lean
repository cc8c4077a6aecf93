/-
  Proved: at every code the program's PadOf gives the same answer as the reference PadOf and leaves its arguments as they were; the law FnExactPadOf returns true at every argument.
  Conditions: none beyond those that the given row itself prints.
-/
import Derived.Test.YtfdijeeilfhjeaaRows
import Derived.Test.YtfdijeeilfhjeaaPad
import Derived.Test.YtfdijeeilfhjeaaCoEq
import Derived.Test.YtfdijeeilfhjeaaCoSz
import Derived.Test.YtfdijeeilfhjeaaArgsC
import Derived.Test.YtfdijeeilfhjeaaArgsP
import Derived.WalkKit
import Derived.ProofKit
import Derived.OpenShut
import Derived.ShutString
import Derived.ChangeOld
import Derived.Deep.RegionLaw
import Derived.Below
namespace Go.Proofs.Ytfdijeeilfhjeaa.fnExactPadOf
open Go.ChangeShapes Go.WideShapes Go.ChangeAt Go.RowKit Exs
open Go.ChangeMaps (open_string shut_string)
set_option linter.unusedVariables false

theorem own : ownKnob Try.prog.godebug = none := by kernel_rfl
theorem laidOut : laidOutB Try.prog = true := by kernel_rfl

theorem isOf {w : World} {L : Nat} {s : Cd} {A1 : Option Addr} {n1 : Nat} {A2 : Option Addr} {n2 : Nat} {A3 : Option Addr} {n3 : Nat} (h : MCd w L s A1 n1 A2 n2 A3 n3) : IsCd w w.heap.size s A1 n1 A2 n2 A3 n3 := ⟨h.sites.reads, h.ins.reads, h.rows.reads⟩

/-! The walk: both functions by their contracts, whose answers are the same. -/
set_option maxHeartbeats 2000000 in
set_option maxRecDepth 100000 in
theorem walk (w : World) (s0 : Cd) (A0 : Option Addr) (n0 c0 : Nat) (B0 : Option Addr) (m0 d0 : Nat) (C0 : Option Addr) (o0 e0 : Nat) (r0 : IsCd w w.heap.size s0 A0 n0 B0 m0 C0 o0) (l0 : LongC s0) :
    Calls Try.prog 3 #[cdV s0 A0 n0 c0 B0 m0 d0 C0 o0 e0] w fun e w' => e = .returned (.bool true) ∧ Below w.heap.size w w' := by

  have hb0 : Below w.heap.size w (w.alloc (.cells #[.int .i64 s0.params, .int .i64 s0.vars, .slice A0 n0 c0, .slice B0 m0 d0, .slice C0 o0 e0] 26)) := (Below.refl _ _).alloc (Nat.le_refl _) _
  have hk0 := Keep.new w #[.int .i64 s0.params, .int .i64 s0.vars, .slice A0 n0 c0, .slice B0 m0 d0, .slice C0 o0 e0] 26
  have CZ := put (fun W => szCode_any s0 A0 n0 c0 B0 m0 d0 C0 o0 e0 1048576 W r0.sites.1 r0.ins.1 r0.rows.1 l0 (by decide) (by decide))
  unfold cdV at CZ ⊢
  by_cases hbig : ((manyC s0 : Nat) : Int) ≤ 1048576
  · have hsz := szA_fit hbig
    have hsm : SmallC s0 := by unfold manyC at hbig; exact ⟨by omega, by omega, by omega⟩
    have hsz0 : (0 : Int) ≤ 1048576 - ((manyC s0 : Nat) : Int) := by omega
    obtain ⟨T, hT⟩ : ∃ T : Nat, manyC s0 = T := ⟨_, rfl⟩
    rw [hT] at hsz hsz0
    have HSM := put hsm
    have CT := put (fun W (hW : Below w.heap.size w W) => toCode_any s0 A0 n0 c0 B0 m0 d0 C0 o0 e0 W (r0.now hW) hsm)
    have CS := put (fun W B1 B2 B3 (h : IsCd W W.heap.size s0 B1 n0 B2 m0 B3 o0) => specPadOf_any s0 B1 n0 n0 B2 m0 m0 B3 o0 o0 W h hsm)
    have CI := put (fun W B1 B2 B3 (h : IsCd W W.heap.size s0 B1 n0 B2 m0 B3 o0) => padOf_any s0 B1 n0 n0 B2 m0 m0 B3 o0 o0 W h hsm)
    have CE := put (fun W B1 B2 B3 B1' B2' B3' (h : IsCd W W.heap.size s0 B1 n0 B2 m0 B3 o0) (h' : IsCd W W.heap.size s0 B1' n0 B2' m0 B3' o0) => eqCode_same s0 B1 n0 n0 B2 m0 m0 B3 o0 o0 B1' n0 B2' m0 B3' o0 W h h' hsm)
    unfold cdV at CT CS CI CE
    have hans : ∃ p q, paAns s0.ins = (p, q) := ⟨_, _, rfl⟩
    obtain ⟨p, q, hpq⟩ := hans
    rw [hpq] at CS CI
    clear hsm hbig hpq
    go_enter Try.func3, Try.ntmps3
    go_wp2_with fail
    refine (CZ.out _).mono ?_
    rintro e w1 ⟨rfl, hb1⟩
    have b1 : Below w.heap.size w w1 := hb0.trans (hb1.mono hb0.size)
    have k1 := hk0.below hb1
    rw [hT, hsz]
    clear hb0 hk0 hb1 hT hsz CZ
    have y0 := k1.cell 0
    have y1 := k1.cell 1
    have y2 := k1.cell 2
    have y3 := k1.cell 3
    have y4 := k1.cell 4
    simp at y0 y1 y2 y3 y4
    go_wp2_with fail
    refine (CT.out _ b1).mono ?_
    rintro e w2 ⟨P2, Q2, R2, rfl, m2, hb2⟩
    have b2 : Below w.heap.size w w2 := b1.trans (hb2.mono b1.size)
    have k2 := k1.below hb2
    clear y0 y1 y2 y3 y4 k1 hb2 b1
    go_wp2_with fail
    refine (CS.out _ P2 Q2 R2 (isOf m2)).mono ?_
    rintro e w3 ⟨rfl, hb3⟩
    have b3 : Below w.heap.size w w3 := b2.trans (hb3.mono b2.size)
    have k3 := k2.below hb3
    clear hb3 m2 k2 b2 CS
    have y0 := k3.cell 0
    have y1 := k3.cell 1
    have y2 := k3.cell 2
    have y3 := k3.cell 3
    have y4 := k3.cell 4
    simp at y0 y1 y2 y3 y4
    go_wp2_with fail
    refine (CT.out _ b3).mono ?_
    rintro e w4 ⟨P4, Q4, R4, rfl, m4, hb4⟩
    have b4 : Below w.heap.size w w4 := b3.trans (hb4.mono b3.size)
    have k4 := k3.below hb4
    have b4a := b4.alloc b4.size (.cells #[.int .i64 s0.params, .int .i64 s0.vars, .slice P4 n0 n0, .slice Q4 m0 m0, .slice R4 o0 o0] 33)
    have k4a := k4.alloc (.cells #[.int .i64 s0.params, .int .i64 s0.vars, .slice P4 n0 n0, .slice Q4 m0 m0, .slice R4 o0 o0] 33)
    have x4a := Keep.new w4 #[.int .i64 s0.params, .int .i64 s0.vars, .slice P4 n0 n0, .slice Q4 m0 m0, .slice R4 o0 o0] 33
    have m4a := m4.same (SameFrom.of_below ((Below.refl _ w4).alloc (Nat.le_refl _) (.cells #[.int .i64 s0.params, .int .i64 s0.vars, .slice P4 n0 n0, .slice Q4 m0 m0, .slice R4 o0 o0] 33)))
    clear hb4 m4 k3 k4 b3 b4 y0 y1 y2 y3 y4
    go_wp2_with fail
    generalize w4.alloc (.cells #[.int .i64 s0.params, .int .i64 s0.vars, .slice P4 n0 n0, .slice Q4 m0 m0, .slice R4 o0 o0] 33) = w4a at b4a k4a x4a m4a ⊢
    refine (CI.out _ P4 Q4 R4 (isOf m4a)).mono ?_
    rintro e w5 ⟨rfl, hb5⟩
    have b5 : Below w.heap.size w w5 := b4a.trans (hb5.mono b4a.size)
    have m5 := m4a.same (SameFrom.of_below hb5)
    have k5 := k4a.below hb5
    have x5 := x4a.below hb5
    clear hb5 m4a k4a x4a b4a CI
    have y0 := k5.cell 0
    have y1 := k5.cell 1
    have y2 := k5.cell 2
    have y3 := k5.cell 3
    have y4 := k5.cell 4
    simp at y0 y1 y2 y3 y4
    have z0 := x5.cell 0
    have z1 := x5.cell 1
    have z2 := x5.cell 2
    have z3 := x5.cell 3
    have z4 := x5.cell 4
    simp at z0 z1 z2 z3 z4
    go_wp2
    go_region_law (first
      | (go_simp; go_at_call 10; refine (CT.out w5.drew b5.drew).mono ?_; rintro e w6 ⟨P6, Q6, R6, rfl, m6, hb6⟩; have x6 := Keep.below (w := w5.drew) x5 hb6; have u0 := x6.cell 0; have u1 := x6.cell 1; have u2 := x6.cell 2; have u3 := x6.cell 3; have u4 := x6.cell 4; simp at u0 u1 u2 u3 u4)
      | (go_simp; go_at_call 12; refine (CE.out w6 P4 Q4 R4 P6 Q6 R6 (isOf (m5.same (SameFrom.of_below ((Below.refl w5.heap.size w5).drew.trans hb6)))) (isOf m6)).mono ?_; rintro e w7 ⟨rfl, hb7⟩))
    all_goals (
      have b7 : Below w.heap.size w w7 := (b5.drew.trans (hb6.mono b5.size)).trans (hb7.mono (Nat.le_trans b5.size hb6.size))
      go_wp2
      go_ret
      exact ⟨rfl, b7⟩)
  · have hsz := szA_no (Int.not_le.1 hbig)
    clear hbig
    obtain ⟨T, hT⟩ : ∃ T : Nat, manyC s0 = T := ⟨_, rfl⟩
    rw [hT] at hsz
    go_enter Try.func3, Try.ntmps3
    go_wp2_with fail
    refine (CZ.out _).mono ?_
    rintro e w1 ⟨rfl, hb1⟩
    rw [hT, hsz]
    clear hT hsz
    go_wp2
    go_ret
    exact ⟨rfl, hb0.trans (hb1.mono hb0.size)⟩

/-! From the walk to the given row. -/
set_option maxRecDepth 100000 in
theorem lifted (os : Os) (started : os.Started) (H : Type) (enc : TypeId × Value → H) :
    ReturnsInHanded {} Try.checked os 3 .any (Rows.fnExactPadOfSpec.pre6 enc Try.prog Try.f3 Rows.fnExactPadOfRow.domain false) (Rows.fnExactPadOfSpec.post enc Try.prog Try.f3 false true false false) := by
  refine returnsInHanded_of_change (C := Try.checked) own started (by kernel_rfl) Try.func3
    (ChangeSpec.witness6 (enc := enc) (C := Try.checked) false ⟨#[], #[.agg #[.int .i64 0, .int .i64 0, .slice none 0 0, .slice none 0 0, .slice none 0 0]], []⟩ 8 (by kernel_rfl) (by kernel_rfl) (by kernel_rfl) (by kernel_rfl)) ?_
  intro W base args ds gs before hval0 hW hcnd _
  have hval : ∀ (j : Nat) t v, Try.f3.params[j]? = some t → args[j]? = some v → Value.okWide Try.prog W .any base t v := hval0
  have hW' := hW
  obtain ⟨p, q, hA0, hV, rfl, hfz, hnd⟩ := hW
  have hA : DataW.TrodAll enc Try.prog W 0 (fun _ => true) true Try.f3.params.toList args.toList ds p := hA0
  rw [Try.params3] at hA hval
  obtain ⟨v0, vs0, d0, ds0, p0, q0, hargs, rfl, rfl, h0, r0q⟩ := trodAll_cons hA
  obtain ⟨rfl, rfl, rfl⟩ := trodAll_nil r0q
  obtain rfl : args = #[v0] := by cases args; simp_all
  obtain ⟨rfl, rfl⟩ := trodVars_none hV
  have k0 := h0
  have lt0 : ∀ x ∈ p0, x.block < W.heap.size := by obtain ⟨m, hm⟩ := k0; exact DataW.trod_lt m _ _ _ hm
  obtain ⟨s0, A0, n0, c0, B0, m0, d0, C0, o0, e0, rfl, r0, l0⟩ := open_code (hval 0 26 v0 rfl rfl) h0
  clear hA0 hval0
  refine (walk W s0 A0 n0 c0 B0 m0 d0 C0 o0 e0 r0 l0).mono fun e W' ⟨he, bel⟩ => ?_
  subst he
  exact ⟨_, rfl, _, _, _, [], _, [], hW', trodAll_mk1 (shut_bool Try.underlying4 _), (trodAll_cons_mk (Below.trod laidOut (by kernel_rfl) (of_decide_eq_true (by kernel_rfl)) k0 bel lt0) trodAll_mk0), rfl, bel.frame _, fun h => by cases h⟩

theorem over : Rows.fnExactPadOfRow.holds Try.pinned (OpenSpec.ofChange Rows.fnExactPadOfSpec) :=
  OpenClaim.holds_of_wide 3 Try.f3 rfl rfl rfl rfl rfl rfl rfl ⟨rfl, rfl, rfl, rfl, rfl⟩ rfl rfl rfl rfl rfl (by kernel_rfl) Try.func3 (by kernel_rfl)
    (of_decide_eq_true (by kernel_rfl)) (by unfold Func.isWrapper; first | (rw [if_pos (by decide +kernel)]; kernel_rfl) | (rw [if_neg (by decide +kernel)]; exact ⟨rfl, rfl⟩))
    (fun os started H enc _ => lifted os started H enc)

/-- The given statement. -/
theorem proved : Rows.FnExactPadOfSaid := over
#print axioms proved
end Go.Proofs.Ytfdijeeilfhjeaa.fnExactPadOf

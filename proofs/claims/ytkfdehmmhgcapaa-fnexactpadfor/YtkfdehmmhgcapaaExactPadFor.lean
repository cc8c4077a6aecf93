/-
  Proved: at every list of rows, number of instructions and place the program's PadFor gives the same answer as the reference PadFor, leaves its argument as it was; the law FnExactPadFor returns true at every argument.
  Conditions: none beyond those that the given row itself prints.
-/
import Derived.Test.YtkfdehmmhgcapaaRows
import Derived.Test.YtkfdehmmhgcapaaRwP
import Derived.Test.YtkfdehmmhgcapaaCoEq
import Derived.Test.YtkfdehmmhgcapaaCoSz
import Derived.Test.YtkfdehmmhgcapaaArgsR
import Derived.WalkKit
import Derived.ProofKit
import Derived.OpenShut
import Derived.ShutString
import Derived.ChangeOld
import Derived.Deep.RegionLaw
import Derived.Below
namespace Go.Proofs.Ytkfdehmmhgcapaa.fnExactPadFor
open Go.ChangeShapes Go.WideShapes Go.ChangeAt Go.RowKit Exs
open Go.ChangeMaps (open_string shut_string)
set_option linter.unusedVariables false

theorem own : ownKnob Try.prog.godebug = none := by kernel_rfl
theorem laidOut : laidOutB Try.prog = true := by kernel_rfl

/-! The walk: both functions by their contracts, whose answers are the same; the marks by theirs. -/
set_option maxHeartbeats 2000000 in
set_option maxRecDepth 100000 in
theorem walk (w : World) (A0 : Option Addr) (n0 c0 : Nat) (rs0 : List Row3) (r0 : ReadsR w w.heap.size A0 n0 rs0) (l0 : n0 ≤ maxLen) (a1 : Int) (w1 : (Lit.int .i64 a1).wf = true) (a2 : Int) (w2 : (Lit.int .i64 a2).wf = true) :
    Calls Try.prog 4 #[.slice A0 n0 c0, .int .i64 a1, .int .i64 a2] w fun e w' => e = .returned (.bool true) ∧ Below w.heap.size w w' := by

  by_cases hbig : ((n0 : Nat) : Int) ≤ 1048576
  · have hsz := szA_fit hbig
    have hn : n0 ≤ 1048576 := by omega
    have hsz0 : (0 : Int) ≤ 1048576 - ((n0 : Nat) : Int) := by omega
    have HN := put hn
    have HR := put r0
    have hans : ∃ p q, padAns a1 rs0 a2 = (p, q) := ⟨_, _, rfl⟩
    obtain ⟨p, q, hpq⟩ := hans
    have HPQ := put hpq
    clear hpq hbig
    go_enter Try.func4, Try.ntmps4
    go_wp2_with fail
    refine (szRows_any A0 n0 c0 1048576 _ l0 (by decide) (by decide)).mono ?_
    rintro e w1 ⟨rfl, rfl⟩
    rw [hsz]
    clear hsz
    go_wp2_with fail
    refine (toRows_m A0 n0 c0 rs0 _ r0 hn).mono ?_
    rintro e w2 ⟨B2, rfl, m2, hb2⟩
    have R2 := m2.reads
    go_wp2_with fail
    refine (specPadFor_any B2 n0 n0 rs0 a1 a2 _ R2 HN.out).mono ?_
    rw [HPQ.out]
    rintro e w3 ⟨rfl, hb3⟩
    have b3 : Below w.heap.size w w3 := hb2.trans (hb3.mono hb2.size)
    clear hb2 hb3 m2 R2
    go_wp2_with fail
    refine (toRows_m A0 n0 c0 rs0 _ (r0.now b3) HN.out).mono ?_
    rintro e w4 ⟨B4, rfl, m4, hb4⟩
    have b4 : Below w.heap.size w w4 := b3.trans (hb4.mono b3.size)
    clear hb4 b3
    go_wp2_with fail
    refine (implPadFor_any B4 n0 n0 rs0 a1 a2 _ m4.reads HN.out).mono ?_
    rw [HPQ.out]
    rintro e w5 ⟨rfl, hb5⟩
    have b5 : Below w.heap.size w w5 := b4.trans (hb5.mono b4.size)
    have m5 := m4.same (SameFrom.of_below hb5)
    clear hb5 m4 b4
    go_wp2_with fail
    refine (toRows_m A0 n0 c0 rs0 _ (HR.out.now b5) HN.out).mono ?_
    rintro e w6 ⟨B6, rfl, m6, hb6⟩
    go_wp2_with fail
    refine (eqRows_same B4 B6 n0 n0 n0 rs0 _ (MRows.reads (m5.same (SameFrom.of_below hb6))) m6.reads HN.out).mono ?_
    rintro e w7 ⟨rfl, hb7⟩
    have b7 : Below w.heap.size w w7 := (b5.trans (hb6.mono b5.size)).trans (hb7.mono (Nat.le_trans b5.size hb6.size))
    go_wp2
    go_ret
    exact ⟨rfl, b7⟩
  · have hsz := szA_no (Int.not_le.1 hbig)
    clear hbig
    go_enter Try.func4, Try.ntmps4
    go_wp2_with fail
    refine (szRows_any A0 n0 c0 1048576 _ l0 (by decide) (by decide)).mono ?_
    rintro e w1 ⟨rfl, rfl⟩
    rw [hsz]
    go_wp2
    go_ret
    exact ⟨rfl, Below.refl _ _⟩

/-! From the walk to the given row. -/
set_option maxRecDepth 100000 in
theorem lifted (os : Os) (started : os.Started) (H : Type) (enc : TypeId × Value → H) :
    ReturnsInHanded {} Try.checked os 4 .any (Rows.fnExactPadForSpec.pre6 enc Try.prog Try.f4 Rows.fnExactPadForRow.domain false) (Rows.fnExactPadForSpec.post enc Try.prog Try.f4 false true false false) := by
  refine returnsInHanded_of_change (C := Try.checked) own started (by kernel_rfl) Try.func4
    (ChangeSpec.witness6 (enc := enc) (C := Try.checked) false ⟨#[], #[.slice none 0 0, .int .i64 0, .int .i64 0], []⟩ 8 (by kernel_rfl) (by kernel_rfl) (by kernel_rfl) (by kernel_rfl)) ?_
  intro W base args ds gs before hval0 hW hcnd _
  have hval : ∀ (j : Nat) t v, Try.f4.params[j]? = some t → args[j]? = some v → Value.okWide Try.prog W .any base t v := hval0
  have hW' := hW
  obtain ⟨p, q, hA0, hV, rfl, hfz, hnd⟩ := hW
  have hA : DataW.TrodAll enc Try.prog W 0 (fun _ => true) true Try.f4.params.toList args.toList ds p := hA0
  rw [Try.params4] at hA hval
  obtain ⟨v0, vs0, d0, ds0, p0, q0, hargs, rfl, rfl, h0, r0q⟩ := trodAll_cons hA
  obtain ⟨v1, vs1, d1, ds1, p1, q1, rfl, rfl, rfl, h1, r1q⟩ := trodAll_cons r0q
  obtain ⟨v2, vs2, d2, ds2, p2, q2, rfl, rfl, rfl, h2, r2q⟩ := trodAll_cons r1q
  obtain ⟨rfl, rfl, rfl⟩ := trodAll_nil r2q
  obtain rfl : args = #[v0, v1, v2] := by cases args; simp_all
  obtain ⟨rfl, rfl⟩ := trodVars_none hV
  have k0 := h0
  have lt0 : ∀ x ∈ p0, x.block < W.heap.size := by obtain ⟨m, hm⟩ := k0; exact DataW.trod_lt m _ _ _ hm
  obtain ⟨A0, n0, c0, rs0, rfl, r0, l0⟩ := open_rowsA (hval 0 22 v0 rfl rfl) h0
  obtain ⟨a1, rfl, rfl, rfl, w1⟩ := open_int Try.underlying3 (hval 1 3 v1 rfl rfl) h1
  obtain ⟨a2, rfl, rfl, rfl, w2⟩ := open_int Try.underlying3 (hval 2 3 v2 rfl rfl) h2
  clear hA0 hval0
  refine (walk W A0 n0 c0 rs0 r0 l0 a1 w1 a2 w2).mono fun e W' ⟨he, bel⟩ => ?_
  subst he
  exact ⟨_, rfl, _, _, _, [], _, [], hW', trodAll_mk1 (shut_bool Try.underlying4 _), (trodAll_cons_mk (Below.trod laidOut (by kernel_rfl) (of_decide_eq_true (by kernel_rfl)) k0 bel lt0) (trodAll_cons_mk (shut_int Try.underlying3 w1) (trodAll_cons_mk (shut_int Try.underlying3 w2) trodAll_mk0))), rfl, bel.frame _, fun h => by cases h⟩

theorem over : Rows.fnExactPadForRow.holds Try.pinned (OpenSpec.ofChange Rows.fnExactPadForSpec) :=
  OpenClaim.holds_of_wide 4 Try.f4 rfl rfl rfl rfl rfl rfl rfl ⟨rfl, rfl, rfl, rfl, rfl⟩ rfl rfl rfl rfl rfl (by kernel_rfl) Try.func4 (by kernel_rfl)
    (of_decide_eq_true (by kernel_rfl)) (by unfold Func.isWrapper; first | (rw [if_pos (by decide +kernel)]; kernel_rfl) | (rw [if_neg (by decide +kernel)]; exact ⟨rfl, rfl⟩))
    (fun os started H enc _ => lifted os started H enc)

/-- The given statement. -/
theorem proved : Rows.FnExactPadForSaid := over
#print axioms proved
end Go.Proofs.Ytkfdehmmhgcapaa.fnExactPadFor

/-
  Proved: at every list of rows and number of instructions the program's RowsBytes gives the same answer as the reference RowsBytes, leaves its argument as it was; the law FnExactRowsBytes returns true at every argument.
  Conditions: none beyond those that the given row itself prints.
-/
import Derived.Test.YtkfdehmmhgcapaaRows
import Derived.Test.YtkfdehmmhgcapaaRwB
import Derived.Test.YtkfdehmmhgcapaaCoEq
import Derived.Test.YtkfdehmmhgcapaaCoSz
import Derived.Test.YtkfdehmmhgcapaaArgsR
import Derived.WalkKit
import Derived.ProofKit
import Derived.OpenShut
import Derived.ShutString
import Derived.ChangeOld
import Derived.Deep.RegionLaw
import Derived.Below
namespace Go.Proofs.Ytkfdehmmhgcapaa.fnExactRowsBytes
open Go.ChangeShapes Go.WideShapes Go.ChangeAt Go.RowKit Exs
open Go.ChangeMaps (open_string shut_string)
set_option linter.unusedVariables false

theorem own : ownKnob Try.prog.godebug = none := by kernel_rfl
theorem laidOut : laidOutB Try.prog = true := by kernel_rfl

/-! The walk: both functions by their contracts, whose answers are the same; the marks by theirs. -/
set_option maxHeartbeats 2000000 in
set_option maxRecDepth 100000 in
theorem walk (w : World) (A0 : Option Addr) (n0 c0 : Nat) (rs0 : List Row3) (r0 : ReadsR w w.heap.size A0 n0 rs0) (l0 : n0 ≤ maxLen) (a1 : Int) (w1 : (Lit.int .i64 a1).wf = true) :
    Calls Try.prog 7 #[.slice A0 n0 c0, .int .i64 a1] w fun e w' => e = .returned (.bool true) ∧ Below w.heap.size w w' := by

  by_cases hbig : ((n0 : Nat) : Int) ≤ 1048576
  · have hsz := szA_fit hbig
    have hn : n0 ≤ 1048576 := by omega
    have hsz0 : (0 : Int) ≤ 1048576 - ((n0 : Nat) : Int) := by omega
    have HN := put hn
    have HR := put r0
    have hans : ∃ p q, bytesAns a1 rs0 = (p, q) := ⟨_, _, rfl⟩
    obtain ⟨p, q, hpq⟩ := hans
    have HPQ := put hpq
    clear hpq hbig
    go_enter Try.func7, Try.ntmps7
    go_wp2_with fail
    refine (szRows_any A0 n0 c0 1048576 _ l0 (by decide) (by decide)).mono ?_
    rintro e w1 ⟨rfl, rfl⟩
    rw [hsz]
    clear hsz
    go_wp2_with fail
    refine (toRows_m A0 n0 c0 rs0 _ r0 hn).mono ?_
    rintro e w2 ⟨B2, rfl, m2, hb2⟩
    have R2 := m2.reads
    go_wp2_with fail
    refine (specRowsBytes_any B2 n0 n0 rs0 a1 _ R2 HN.out).mono ?_
    rw [HPQ.out]
    rintro e w3 ⟨rfl, hb3⟩
    have b3 : Below w.heap.size w w3 := hb2.trans (hb3.mono hb2.size)
    clear hb2 hb3 m2 R2
    go_wp2_with fail
    refine (toRows_m A0 n0 c0 rs0 _ (r0.now b3) HN.out).mono ?_
    rintro e w4 ⟨B4, rfl, m4, hb4⟩
    have b4 : Below w.heap.size w w4 := b3.trans (hb4.mono b3.size)
    clear hb4 b3
    go_wp2_with fail
    refine (implRowsBytes_any B4 n0 n0 rs0 a1 _ m4.reads HN.out).mono ?_
    rw [HPQ.out]
    rintro e w5 ⟨rfl, hb5⟩
    have b5 : Below w.heap.size w w5 := b4.trans (hb5.mono b4.size)
    have m5 := m4.same (SameFrom.of_below hb5)
    clear hb5 m4 b4
    go_wp2_with fail
    refine (toRows_m A0 n0 c0 rs0 _ (HR.out.now b5) HN.out).mono ?_
    rintro e w6 ⟨B6, rfl, m6, hb6⟩
    go_wp2_with fail
    refine (eqRows_same B4 B6 n0 n0 n0 rs0 _ (MRows.reads (m5.same (SameFrom.of_below hb6))) m6.reads HN.out).mono ?_
    rintro e w7 ⟨rfl, hb7⟩
    have b7 : Below w.heap.size w w7 := (b5.trans (hb6.mono b5.size)).trans (hb7.mono (Nat.le_trans b5.size hb6.size))
    go_wp2
    go_ret
    exact ⟨rfl, b7⟩
  · have hsz := szA_no (Int.not_le.1 hbig)
    clear hbig
    go_enter Try.func7, Try.ntmps7
    go_wp2_with fail
    refine (szRows_any A0 n0 c0 1048576 _ l0 (by decide) (by decide)).mono ?_
    rintro e w1 ⟨rfl, rfl⟩
    rw [hsz]
    go_wp2
    go_ret
    exact ⟨rfl, Below.refl _ _⟩

/-! From the walk to the given row. -/
set_option maxRecDepth 100000 in
theorem lifted (os : Os) (started : os.Started) (H : Type) (enc : TypeId × Value → H) :
    ReturnsInHanded {} Try.checked os 7 .any (Rows.fnExactRowsBytesSpec.pre6 enc Try.prog Try.f7 Rows.fnExactRowsBytesRow.domain false) (Rows.fnExactRowsBytesSpec.post enc Try.prog Try.f7 false true false false) := by
  refine returnsInHanded_of_change (C := Try.checked) own started (by kernel_rfl) Try.func7
    (ChangeSpec.witness6 (enc := enc) (C := Try.checked) false ⟨#[], #[.slice none 0 0, .int .i64 0], []⟩ 8 (by kernel_rfl) (by kernel_rfl) (by kernel_rfl) (by kernel_rfl)) ?_
  intro W base args ds gs before hval0 hW hcnd _
  have hval : ∀ (j : Nat) t v, Try.f7.params[j]? = some t → args[j]? = some v → Value.okWide Try.prog W .any base t v := hval0
  have hW' := hW
  obtain ⟨p, q, hA0, hV, rfl, hfz, hnd⟩ := hW
  have hA : DataW.TrodAll enc Try.prog W 0 (fun _ => true) true Try.f7.params.toList args.toList ds p := hA0
  rw [Try.params7] at hA hval
  obtain ⟨v0, vs0, d0, ds0, p0, q0, hargs, rfl, rfl, h0, r0q⟩ := trodAll_cons hA
  obtain ⟨v1, vs1, d1, ds1, p1, q1, rfl, rfl, rfl, h1, r1q⟩ := trodAll_cons r0q
  obtain ⟨rfl, rfl, rfl⟩ := trodAll_nil r1q
  obtain rfl : args = #[v0, v1] := by cases args; simp_all
  obtain ⟨rfl, rfl⟩ := trodVars_none hV
  have k0 := h0
  have lt0 : ∀ x ∈ p0, x.block < W.heap.size := by obtain ⟨m, hm⟩ := k0; exact DataW.trod_lt m _ _ _ hm
  obtain ⟨A0, n0, c0, rs0, rfl, r0, l0⟩ := open_rowsA (hval 0 22 v0 rfl rfl) h0
  obtain ⟨a1, rfl, rfl, rfl, w1⟩ := open_int Try.underlying3 (hval 1 3 v1 rfl rfl) h1
  clear hA0 hval0
  refine (walk W A0 n0 c0 rs0 r0 l0 a1 w1).mono fun e W' ⟨he, bel⟩ => ?_
  subst he
  exact ⟨_, rfl, _, _, _, [], _, [], hW', trodAll_mk1 (shut_bool Try.underlying4 _), (trodAll_cons_mk (Below.trod laidOut (by kernel_rfl) (of_decide_eq_true (by kernel_rfl)) k0 bel lt0) (trodAll_cons_mk (shut_int Try.underlying3 w1) trodAll_mk0)), rfl, bel.frame _, fun h => by cases h⟩

theorem over : Rows.fnExactRowsBytesRow.holds Try.pinned (OpenSpec.ofChange Rows.fnExactRowsBytesSpec) :=
  OpenClaim.holds_of_wide 7 Try.f7 rfl rfl rfl rfl rfl rfl rfl ⟨rfl, rfl, rfl, rfl, rfl⟩ rfl rfl rfl rfl rfl (by kernel_rfl) Try.func7 (by kernel_rfl)
    (of_decide_eq_true (by kernel_rfl)) (by unfold Func.isWrapper; first | (rw [if_pos (by decide +kernel)]; kernel_rfl) | (rw [if_neg (by decide +kernel)]; exact ⟨rfl, rfl⟩))
    (fun os started H enc _ => lifted os started H enc)

/-- The given statement. -/
theorem proved : Rows.FnExactRowsBytesSaid := over
#print axioms proved
end Go.Proofs.Ytkfdehmmhgcapaa.fnExactRowsBytes

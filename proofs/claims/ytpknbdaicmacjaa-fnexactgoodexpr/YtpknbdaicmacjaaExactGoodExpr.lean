/-
  Proved: at every list of tokens, every int and every list of ints the program's GoodExpr gives the same truth as the reference GoodExpr and leaves its arguments as they were; the law FnExactGoodExpr returns true at every argument.
  Conditions: none beyond those that the given row itself prints.
-/
import Derived.Test.YtpknbdaicmacjaaRows
import Derived.Test.YtpknbdaicmacjaaHigh
import Derived.Test.YtpknbdaicmacjaaArgs
import Derived.WalkKit
import Derived.ProofKit
import Derived.OpenShut
import Derived.ShutString
import Derived.ChangeOld
import Derived.Below
namespace Go.Proofs.Ytpknbdaicmacjaa.fnExactGoodExpr
open Go.ChangeShapes Go.WideShapes Go.ChangeAt Go.RowKit Exs
open Go.ChangeMaps (open_string shut_string)
set_option linter.unusedVariables false

theorem own : ownKnob Try.prog.godebug = none := by kernel_rfl
theorem laidOut : laidOutB Try.prog = true := by kernel_rfl

/-! The walk: the functions are taken by their contracts, which name one and the same answer. -/
set_option maxHeartbeats 1000000 in
set_option maxRecDepth 100000 in
theorem walk (w : World) (A0 : Option Addr) (n0 c0 : Nat) (ts0 : List Token) (r0 : ReadsT w w.heap.size A0 n0 ts0) (l0 : n0 ≤ maxLen) (a1 : Int) (w1 : (Lit.int .i64 a1).wf = true) (A2 : Option Addr) (n2 c2 : Nat) (xs2 : List Int) (r2 : Reads w w.heap.size .i64 A2 n2 xs2) (l2 : n2 ≤ maxLen) :
    Calls Try.prog 5 #[.slice A0 n0 c0, .int .i64 a1, .slice A2 n2 c2] w fun e w' => e = .returned (.bool true) ∧ Below w.heap.size w w' := by

  unfold maxLen at l2 l0
  by_cases hbig : (1048576 : Int) < (n2 : Int)
  · go_enter Try.func5, Try.ntmps5
    go_wp2
    go_ret
    exact ⟨rfl, Below.refl _ _⟩
  · have hn : n2 ≤ 1048576 := by omega
    by_cases hbig0 : 1048576 < n0
    · go_enter Try.func5, Try.ntmps5
      go_wp2_with fail
      refine (szToks_many _ _ _ _ hbig0 (by omega)).mono ?_
      rintro e w1 ⟨rfl, rfl⟩
      go_wp2
      go_ret
      exact ⟨rfl, Below.refl _ _⟩
    · have h0 : n0 ≤ 1048576 := by omega
      go_enter Try.func5, Try.ntmps5
      go_wp2_with fail
      refine (szToks_few _ _ _ _ h0).mono ?_
      rintro e w0 ⟨rfl, rfl⟩
      go_wp2_with fail
      refine (toToks_any A0 n0 c0 ts0 _ r0 h0).mono ?_
      rintro e w1 ⟨rfl, hroom1, b1⟩
      go_wp2_with fail
      refine (toInts_any A2 n2 c2 xs2 _ ((r2.below b1).more b1.size) hn).mono ?_
      rintro e w2 ⟨rfl, hroom2, hb2⟩
      have hroom1' := hroom1.below hb2 hroom1.lt
      have b2 : Below w.heap.size w w2 := b1.trans (hb2.mono b1.size)
      clear hb2 hroom1
      go_wp2_with fail
      refine (specGoodExpr_any _ _ _ ts0 _ _ _ _ xs2 _ (hroom1'.readsT r0.1) (hroom2.reads r2.1) h0 hn).mono ?_
      rintro e w3 ⟨rfl, hb3⟩
      have b3 : Below w.heap.size w w3 := b2.trans (hb3.mono b2.size)
      clear hb3 hroom1' hroom2
      go_wp2_with fail
      refine (toToks_any A0 n0 c0 ts0 _ ((r0.below b3).more b3.size) h0).mono ?_
      rintro e w4 ⟨rfl, hroom4, hb4⟩
      have b4 : Below w.heap.size w w4 := b3.trans (hb4.mono b3.size)
      clear hb4
      go_wp2_with fail
      refine (toInts_any A2 n2 c2 xs2 _ ((r2.below b4).more b4.size) hn).mono ?_
      rintro e w5 ⟨rfl, hroom5, hb5⟩
      have hroom4' := hroom4.below hb5 hroom4.lt
      have b5 : Below w.heap.size w w5 := b4.trans (hb5.mono b4.size)
      clear hb5 hroom4
      go_wp2_with fail
      refine (goodExpr_any _ _ _ ts0 _ _ _ _ xs2 _ (hroom4'.readsT r0.1) (hroom5.reads r2.1) h0 hn).mono ?_
      rintro e w6 ⟨rfl, hb6⟩
      have hroom4 := hroom4'.below hb6 hroom4'.lt
      have hroom5' := hroom5.below hb6 hroom5.lt
      have b6 : Below w.heap.size w w6 := b5.trans (hb6.mono b5.size)
      clear hb6 hroom4' hroom5
      go_wp2_with fail
      refine (toToks_any A0 n0 c0 ts0 _ ((r0.below b6).more b6.size) h0).mono ?_
      rintro e w7 ⟨rfl, hroom7, hb7⟩
      have hroom4' := hroom4.below hb7 hroom4.lt
      have hroom5 := hroom5'.below hb7 hroom5'.lt
      have b7 : Below w.heap.size w w7 := b6.trans (hb7.mono b6.size)
      clear hb7 hroom4 hroom5'
      go_wp2_with fail
      refine (eqToks_same _ _ _ _ _ ts0 _ (hroom4'.readsT r0.1) (hroom7.readsT r0.1) h0).mono ?_
      rintro e w8 ⟨rfl, hb8⟩
      have hroom5' := hroom5.below hb8 hroom5.lt
      have b8 : Below w.heap.size w w8 := b7.trans (hb8.mono b7.size)
      clear hb8 hroom4' hroom7 hroom5
      go_wp2_with fail
      refine (toInts_any A2 n2 c2 xs2 _ ((r2.below b8).more b8.size) hn).mono ?_
      rintro e w9 ⟨rfl, hroom9, hb9⟩
      have hroom5 := hroom5'.below hb9 hroom5'.lt
      have b9 : Below w.heap.size w w9 := b8.trans (hb9.mono b8.size)
      clear hb9 hroom5'
      go_wp2_with fail
      refine (eqInts_same _ _ _ _ _ xs2 _ (hroom5.reads r2.1) (hroom9.reads r2.1) hn).mono ?_
      rintro e w10 ⟨rfl, q, rfl⟩
      go_wp2
      go_ret
      exact ⟨rfl, below_drewN b9 _⟩

/-! From the walk to the given row. -/
set_option maxRecDepth 100000 in
theorem lifted (os : Os) (started : os.Started) (H : Type) (enc : TypeId × Value → H) :
    ReturnsInHanded {} Try.checked os 5 .any (Rows.fnExactGoodExprSpec.pre6 enc Try.prog Try.f5 Rows.fnExactGoodExprRow.domain false) (Rows.fnExactGoodExprSpec.post enc Try.prog Try.f5 false true false false) := by
  refine returnsInHanded_of_change (C := Try.checked) own started (by kernel_rfl) Try.func5
    (ChangeSpec.witness6 (enc := enc) (C := Try.checked) false ⟨#[], #[.slice none 0 0, .int .i64 0, .slice none 0 0], []⟩ 8 (by kernel_rfl) (by kernel_rfl) (by kernel_rfl) (by kernel_rfl)) ?_
  intro W base args ds gs before hval0 hW hcnd _
  have hval : ∀ (j : Nat) t v, Try.f5.params[j]? = some t → args[j]? = some v → Value.okWide Try.prog W .any base t v := hval0
  have hW' := hW
  obtain ⟨p, q, hA0, hV, rfl, hfz, hnd⟩ := hW
  have hA : DataW.TrodAll enc Try.prog W 0 (fun _ => true) true Try.f5.params.toList args.toList ds p := hA0
  rw [Try.params5] at hA hval
  obtain ⟨v0, vs0, d0, ds0, p0, q0, hargs, rfl, rfl, h0, r0q⟩ := trodAll_cons hA
  obtain ⟨v1, vs1, d1, ds1, p1, q1, rfl, rfl, rfl, h1, r1q⟩ := trodAll_cons r0q
  obtain ⟨v2, vs2, d2, ds2, p2, q2, rfl, rfl, rfl, h2, r2q⟩ := trodAll_cons r1q
  obtain ⟨rfl, rfl, rfl⟩ := trodAll_nil r2q
  obtain rfl : args = #[v0, v1, v2] := by cases args; simp_all
  obtain ⟨rfl, rfl⟩ := trodVars_none hV
  have k0 := h0
  have lt0 : ∀ x ∈ p0, x.block < W.heap.size := by obtain ⟨m, hm⟩ := k0; exact DataW.trod_lt m _ _ _ hm
  obtain ⟨A0, n0, c0, rfl⟩ := okWide_slice Try.underlying34 (hval 0 34 v0 rfl rfl)
  obtain ⟨ts0, r0, l0⟩ := open_readsT Try.underlying34 Try.underlying25 (by kernel_rfl) rfl rfl (by kernel_rfl) (by kernel_rfl) Try.underlying3 Try.underlying3 h0
  obtain ⟨a1, rfl, rfl, rfl, w1⟩ := open_int Try.underlying3 (hval 1 3 v1 rfl rfl) h1
  have k2 := h2
  have lt2 : ∀ x ∈ p2, x.block < W.heap.size := by obtain ⟨m, hm⟩ := k2; exact DataW.trod_lt m _ _ _ hm
  obtain ⟨A2, n2, c2, rfl⟩ := okWide_slice Try.underlying26 (hval 2 26 v2 rfl rfl)
  obtain ⟨xs2, r2, l2, hz2⟩ := open_reads Try.underlying26 Try.underlying3 (by kernel_rfl) h2
  clear hA0 hval0
  refine (walk W A0 n0 c0 ts0 r0 l0 a1 w1 A2 n2 c2 xs2 r2 l2).mono fun e W' ⟨he, bel⟩ => ?_
  subst he
  exact ⟨_, rfl, _, _, _, [], _, [], hW', trodAll_mk1 (shut_bool Try.underlying4 _), (trodAll_cons_mk (Below.trod laidOut (by kernel_rfl) (of_decide_eq_true (by kernel_rfl)) k0 bel lt0) (trodAll_cons_mk (shut_int Try.underlying3 w1) (trodAll_cons_mk (Below.trod laidOut (by kernel_rfl) (of_decide_eq_true (by kernel_rfl)) k2 bel lt2) trodAll_mk0))), rfl, bel.frame _, fun h => by cases h⟩

theorem over : Rows.fnExactGoodExprRow.holds Try.pinned (OpenSpec.ofChange Rows.fnExactGoodExprSpec) :=
  OpenClaim.holds_of_wide 5 Try.f5 rfl rfl rfl rfl rfl rfl rfl ⟨rfl, rfl, rfl, rfl, rfl⟩ rfl rfl rfl rfl rfl (by kernel_rfl) Try.func5 (by kernel_rfl)
    (of_decide_eq_true (by kernel_rfl)) (by unfold Func.isWrapper; first | (rw [if_pos (by decide +kernel)]; kernel_rfl) | (rw [if_neg (by decide +kernel)]; exact ⟨rfl, rfl⟩))
    (fun os started H enc _ => lifted os started H enc)

/-- The given statement. -/
theorem proved : Rows.FnExactGoodExprSaid := over
#print axioms proved
end Go.Proofs.Ytpknbdaicmacjaa.fnExactGoodExpr

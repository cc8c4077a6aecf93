/-
  Proved: at every token and every list of ints the program's NeedsOf gives the same number and truth as the reference NeedsOf and leaves its argument as it was; the law FnExactNeedsOf returns true at every argument.
  Conditions: none beyond those that the given row itself prints.
-/
import Derived.Test.YtpknbdaicmacjaaRows
import Derived.Test.YtpknbdaicmacjaaNeeds
import Derived.Test.YtpknbdaicmacjaaArgs
import Derived.WalkKit
import Derived.ProofKit
import Derived.OpenShut
import Derived.ShutString
import Derived.ChangeOld
import Derived.Below
namespace Go.Proofs.Ytpknbdaicmacjaa.fnExactNeedsOf
open Go.ChangeShapes Go.WideShapes Go.ChangeAt Go.RowKit Exs
open Go.ChangeMaps (open_string shut_string)
set_option linter.unusedVariables false

theorem own : ownKnob Try.prog.godebug = none := by kernel_rfl
theorem laidOut : laidOutB Try.prog = true := by kernel_rfl

/-! The walk: the functions are taken by their contracts, which name one and the same answer. -/
set_option maxHeartbeats 1000000 in
set_option maxRecDepth 100000 in
theorem walk (w : World) (op0 x0 : Int) (A1 : Option Addr) (n1 c1 : Nat) (xs1 : List Int) (r1 : Reads w w.heap.size .i64 A1 n1 xs1) (l1 : n1 ≤ maxLen) :
    Calls Try.prog 4 #[.agg #[.int .i64 op0, .int .i64 x0], .slice A1 n1 c1] w fun e w' => e = .returned (.bool true) ∧ Below w.heap.size w w' := by

  unfold maxLen at l1
  by_cases hbig : (1048576 : Int) < (n1 : Int)
  · go_enter Try.func4, Try.ntmps4
    go_wp2
    go_ret
    exact ⟨rfl, (Below.refl _ _).alloc (Nat.le_refl _) _⟩
  · have hn : n1 ≤ 1048576 := by omega
    have b0 : Below w.heap.size w (w.alloc (Obj.cells #[Value.int IntKind.i64 op0, Value.int IntKind.i64 x0] 25)) := (Below.refl _ _).alloc (Nat.le_refl _) _
    go_enter Try.func4, Try.ntmps4
    go_wp2_with fail
    refine (toTok_any op0 x0 _).mono ?_
    rintro e w1 ⟨rfl, hb1⟩
    have hcell1 := fun j => hb1.cell (p := ⟨w.heap.size, j, none⟩) (by simp)
    have b1 : Below w.heap.size w w1 := b0.trans (hb1.mono (by simp))
    have s1 : w.heap.size < w1.heap.size := by have := hb1.size; simp at this; omega
    clear hb1 b0
    go_wp2_with fail
    refine (toInts_any A1 n1 c1 xs1 _ ((r1.below b1).more b1.size) hn).mono ?_
    rintro e w2 ⟨rfl, hroom2, hb2⟩
    have hcell2 := fun j => hb2.cell (p := ⟨w.heap.size, j, none⟩) s1
    have b2 : Below w.heap.size w w2 := b1.trans (hb2.mono b1.size)
    have s2 : w.heap.size < w2.heap.size := by have := hb2.size; omega
    clear hb2
    go_wp2_with fail
    refine (specNeedsOf_any _ _ _ _ _ xs1 _ (hroom2.reads r1.1) hn).mono ?_
    rintro e w3 ⟨rfl, hb3⟩
    have hcell3 := fun j => hb3.cell (p := ⟨w.heap.size, j, none⟩) s2
    have b3 : Below w.heap.size w w3 := b2.trans (hb3.mono b2.size)
    have s3 : w.heap.size < w3.heap.size := by have := hb3.size; omega
    clear hb3 hroom2
    go_wp2_with fail
    refine (toInts_any A1 n1 c1 xs1 _ ((r1.below b3).more b3.size) hn).mono ?_
    rintro e w4 ⟨rfl, hroom4, hb4⟩
    have hcell4 := fun j => hb4.cell (p := ⟨w.heap.size, j, none⟩) s3
    have b4 : Below w.heap.size w w4 := b3.trans (hb4.mono b3.size)
    have s4 : w.heap.size < w4.heap.size := by have := hb4.size; omega
    clear hb4
    go_wp2_with fail
    refine (toTok_any op0 x0 _).mono ?_
    rintro e w5 ⟨rfl, hb5⟩
    have hroom5 := hroom4.below hb5 hroom4.lt
    have hcell5 := fun j => hb5.cell (p := ⟨w.heap.size, j, none⟩) s4
    have b5 : Below w.heap.size w w5 := b4.trans (hb5.mono b4.size)
    have s5 : w.heap.size < w5.heap.size := by have := hb5.size; omega
    clear hb5 hroom4
    go_wp2_with fail
    refine (needsOf_any _ _ _ _ _ xs1 _ (hroom5.reads r1.1) hn).mono ?_
    rintro e w6 ⟨rfl, hb6⟩
    have hroom6 := hroom5.below hb6 hroom5.lt
    have b6 : Below w.heap.size w w6 := b5.trans (hb6.mono b5.size)
    clear hb6 hroom5
    go_wp2_with fail
    refine (toInts_any A1 n1 c1 xs1 _ ((r1.below b6).more b6.size) hn).mono ?_
    rintro e w7 ⟨rfl, hroom7, hb7⟩
    have hroom6' := hroom6.below hb7 hroom6.lt
    have b7 : Below w.heap.size w w7 := b6.trans (hb7.mono b6.size)
    clear hb7 hroom6
    go_wp2_with fail
    refine (eqInts_same _ _ _ _ _ xs1 _ (hroom6'.reads r1.1) (hroom7.reads r1.1) hn).mono ?_
    rintro e w8 ⟨rfl, q, rfl⟩
    go_wp2
    go_ret
    exact ⟨rfl, below_drewN b7 _⟩

/-! From the walk to the given row. -/
set_option maxRecDepth 100000 in
theorem lifted (os : Os) (started : os.Started) (H : Type) (enc : TypeId × Value → H) :
    ReturnsInHanded {} Try.checked os 4 .any (Rows.fnExactNeedsOfSpec.pre6 enc Try.prog Try.f4 Rows.fnExactNeedsOfRow.domain false) (Rows.fnExactNeedsOfSpec.post enc Try.prog Try.f4 false true false false) := by
  refine returnsInHanded_of_change (C := Try.checked) own started (by kernel_rfl) Try.func4
    (ChangeSpec.witness6 (enc := enc) (C := Try.checked) false ⟨#[], #[.agg #[.int .i64 0, .int .i64 0], .slice none 0 0], []⟩ 8 (by kernel_rfl) (by kernel_rfl) (by kernel_rfl) (by kernel_rfl)) ?_
  intro W base args ds gs before hval0 hW hcnd _
  have hval : ∀ (j : Nat) t v, Try.f4.params[j]? = some t → args[j]? = some v → Value.okWide Try.prog W .any base t v := hval0
  have hW' := hW
  obtain ⟨p, q, hA0, hV, rfl, hfz, hnd⟩ := hW
  have hA : DataW.TrodAll enc Try.prog W 0 (fun _ => true) true Try.f4.params.toList args.toList ds p := hA0
  rw [Try.params4] at hA hval
  obtain ⟨v0, vs0, d0, ds0, p0, q0, hargs, rfl, rfl, h0, r0q⟩ := trodAll_cons hA
  obtain ⟨v1, vs1, d1, ds1, p1, q1, rfl, rfl, rfl, h1, r1q⟩ := trodAll_cons r0q
  obtain ⟨rfl, rfl, rfl⟩ := trodAll_nil r1q
  obtain rfl : args = #[v0, v1] := by cases args; simp_all
  obtain ⟨rfl, rfl⟩ := trodVars_none hV
  have k0 := h0
  have lt0 : ∀ x ∈ p0, x.block < W.heap.size := by obtain ⟨m, hm⟩ := k0; exact DataW.trod_lt m _ _ _ hm
  obtain ⟨op0, x0, rfl⟩ := open_tok Try.underlying25 (by kernel_rfl) (by kernel_rfl) Try.underlying3 Try.underlying3 (hval 0 25 v0 rfl rfl) h0
  have k1 := h1
  have lt1 : ∀ x ∈ p1, x.block < W.heap.size := by obtain ⟨m, hm⟩ := k1; exact DataW.trod_lt m _ _ _ hm
  obtain ⟨A1, n1, c1, rfl⟩ := okWide_slice Try.underlying26 (hval 1 26 v1 rfl rfl)
  obtain ⟨xs1, r1, l1, hz1⟩ := open_reads Try.underlying26 Try.underlying3 (by kernel_rfl) h1
  clear hA0 hval0
  refine (walk W op0 x0 A1 n1 c1 xs1 r1 l1).mono fun e W' ⟨he, bel⟩ => ?_
  subst he
  exact ⟨_, rfl, _, _, _, [], _, [], hW', trodAll_mk1 (shut_bool Try.underlying4 _), (trodAll_cons_mk (Below.trod laidOut (by kernel_rfl) (of_decide_eq_true (by kernel_rfl)) k0 bel lt0) (trodAll_cons_mk (Below.trod laidOut (by kernel_rfl) (of_decide_eq_true (by kernel_rfl)) k1 bel lt1) trodAll_mk0)), rfl, bel.frame _, fun h => by cases h⟩

theorem over : Rows.fnExactNeedsOfRow.holds Try.pinned (OpenSpec.ofChange Rows.fnExactNeedsOfSpec) :=
  OpenClaim.holds_of_wide 4 Try.f4 rfl rfl rfl rfl rfl rfl rfl ⟨rfl, rfl, rfl, rfl, rfl⟩ rfl rfl rfl rfl rfl (by kernel_rfl) Try.func4 (by kernel_rfl)
    (of_decide_eq_true (by kernel_rfl)) (by unfold Func.isWrapper; first | (rw [if_pos (by decide +kernel)]; kernel_rfl) | (rw [if_neg (by decide +kernel)]; exact ⟨rfl, rfl⟩))
    (fun os started H enc _ => lifted os started H enc)

/-- The given statement. -/
theorem proved : Rows.FnExactNeedsOfSaid := over
#print axioms proved
end Go.Proofs.Ytpknbdaicmacjaa.fnExactNeedsOf

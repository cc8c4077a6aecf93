/-
  Proved: at every list of tokens the program's ExprText gives the same text and truth as the reference ExprText and leaves its argument as it was; the law FnExactExprText returns true at every argument, where the listed variables are as the program's text lays them.
  Conditions: none beyond those that the given card itself prints.
-/
import Derived.Test.YtpknbdaicmacjaaDoorRows
import Derived.Test.YtpknbdaicmacjaaDoorTie
import Derived.Test.YtpknbdaicmacjaaDoorCards
import Derived.Test.YtpknbdaicmacjaaDoorLaid
import Derived.Test.YtpknbdaicmacjaaDoorArgs
import Derived.WalkKit
import Derived.ProofKit
import Derived.OpenShut
import Derived.OpenVars
import Derived.ShutString
import Derived.ChangeOld
import Derived.Below
import Derived.LaidMore
import Derived.SevenTiedAt
namespace Go.Proofs.YtpknbdaicmacjaaDoor.fnExactExprText
open Go.ChangeShapes Go.WideShapes Go.ChangeAt Go.RowKit Exs
open Go.ChangeMaps (open_string shut_string)
set_option linter.unusedVariables false

theorem own : ownKnob Tryd.prog.godebug = none := by kernel_rfl
theorem laidOut : laidOutB Tryd.prog = true := by kernel_rfl

/-! The walk: the functions are taken by their contracts, which name one and the same answer. -/
set_option maxHeartbeats 1000000 in
set_option maxRecDepth 100000 in
theorem walk (w : World) (A0 : Option Addr) (n0 c0 : Nat) (ts0 : List Token) (r0 : ReadsT w w.heap.size A0 n0 ts0) (l0 : n0 ≤ maxLen) (hpos : 0 < w.heap.size) (hw : Words w) (hp : Lib.TabIs Tryd.prog w "internal/strconv.uint64pow10" .u64 Lib.pow10Tab) :
    Calls Tryd.prog 3 #[.slice A0 n0 c0] w fun e w' => e = .returned (.bool true) ∧ Below w.heap.size w w' := by

  unfold maxLen at l0
  by_cases hbig : 1048576 < n0
  · go_enter Tryd.func3, Tryd.ntmps3
    go_wp2_with fail
    refine (szToks_many _ _ _ _ hbig (by omega)).mono ?_
    rintro e w1 ⟨rfl, rfl⟩
    go_wp2
    go_ret
    exact ⟨rfl, Below.refl _ _⟩
  · have h0 : n0 ≤ 1048576 := by omega
    have HW := put hw
    have HP := put (Lib.tabBelow_of_tabIs hp)
    clear hw hp
    go_enter Tryd.func3, Tryd.ntmps3
    go_wp2_with fail
    refine (szToks_few _ _ _ _ h0).mono ?_
    rintro e w0 ⟨rfl, rfl⟩
    go_wp2_with fail
    refine (toToks_any A0 n0 c0 ts0 _ r0 h0).mono ?_
    rintro e w1 ⟨rfl, hroom1, b1⟩
    go_wp2_with fail
    refine (specExprText_any _ _ _ ts0 _ (hroom1.readsT r0.1) h0).mono ?_
    rintro e w2 ⟨rfl, hb2⟩
    have b2 : Below w.heap.size w w2 := b1.trans (hb2.mono b1.size)
    clear hb2 hroom1
    go_wp2_with fail
    refine (toToks_any A0 n0 c0 ts0 _ ((r0.below b2).more b2.size) h0).mono ?_
    rintro e w3 ⟨rfl, hroom3, hb3⟩
    have b3 : Below w.heap.size w w3 := b2.trans (hb3.mono b2.size)
    clear hb3
    go_wp2_with fail
    refine (exprText_any _ _ _ ts0 _ (hroom3.readsT r0.1) h0 (by have := b3.size; omega) (put (HW.out.below b3 hpos)) (put (Lib.tabBelow_of_tabIs (HP.out _ b3)))).mono ?_
    rintro e w4 ⟨rfl, hb4⟩
    have hroom4 := hroom3.below hb4 hroom3.lt
    have b4 : Below w.heap.size w w4 := b3.trans (hb4.mono b3.size)
    clear hb4 hroom3
    go_wp2_with fail
    refine (toToks_any A0 n0 c0 ts0 _ ((r0.below b4).more b4.size) h0).mono ?_
    rintro e w5 ⟨rfl, hroom5, hb5⟩
    have hroom4' := hroom4.below hb5 hroom4.lt
    have b5 : Below w.heap.size w w5 := b4.trans (hb5.mono b4.size)
    clear hb5 hroom4
    go_wp2_with fail
    refine (eqToks_same _ _ _ _ _ ts0 _ (hroom4'.readsT r0.1) (hroom5.readsT r0.1) h0).mono ?_
    rintro e w6 ⟨rfl, hb6⟩
    have b6 : Below w.heap.size w w6 := b5.trans (hb6.mono b5.size)
    go_wp2
    go_ret
    exact ⟨rfl, b6⟩

/-- The world that the program's own start leaves. -/
noncomputable def startWorld (os : Os) : World := World.doorLaid Tryd.prog 77 os
theorem start_met (os : Os) (args : Array Value) : laidMetH Tryd.prog Rows.fnExactExprTextRow.laid ((startWorld os).forCall (fun _ _ => 0) ⟨#[], args, []⟩).memory :=
  laidMetH_of_parts3 (fuel := 8) (laidMet_of_run' 8 (by kernel_rfl) (by kernel_rfl)) (by kernel_rfl) (by kernel_rfl)

/-! From the walk to the given row. -/
set_option maxRecDepth 100000 in
theorem lifted (os : Os) (started : os.Started) (H : Type) (enc : TypeId × Value → H) :
    ReturnsInHanded {} Tryd.checked os 3 .any (fun w args => (Rows.fnExactExprTextSpec.pre enc Tryd.prog Tryd.f3 [] false w args ∧ laidMetH Tryd.prog Rows.fnExactExprTextRow.laid w) ∧ sizedMet enc Tryd.prog Tryd.f3 (OpenSpec.ofChange Rows.fnExactExprTextSpec) false w args) (Rows.fnExactExprTextSpec.post enc Tryd.prog Tryd.f3 false true false false) := by
  refine returnsInHanded_of_change_and (C := Tryd.checked) (X := fun w _ => laidMetH Tryd.prog Rows.fnExactExprTextRow.laid w) (fun _ _ _ hh h => h.of_heap hh) own started (by kernel_rfl) Tryd.func3
    (ChangeSpec.witness_shaped (enc := enc) (C := Tryd.checked) (os := os) (X := fun w _ => laidMetH Tryd.prog Rows.fnExactExprTextRow.laid w) false (startWorld os) #[.slice none 0 0] 8 rfl (World.shaped_of_RefB (by kernel_rfl) (by kernel_rfl)) (by kernel_rfl) (by kernel_rfl) (by kernel_rfl) (start_met os _)) ?_
  intro W base args ds gs before hval0 hW _ _ hL _
  have hval : ∀ (j : Nat) t v, Tryd.f3.params[j]? = some t → args[j]? = some v → Value.okWide Tryd.prog W .any base t v := hval0
  have hW' := hW
  obtain ⟨p, q, hA0, hV, rfl, hfz, hnd⟩ := hW
  have hA : DataW.TrodAll enc Tryd.prog W 0 (fun _ => true) true Tryd.f3.params.toList args.toList ds p := hA0
  rw [Tryd.params3] at hA hval
  obtain ⟨v0, vs0, d0, ds0, p0, q0, hargs, rfl, rfl, h0, r0q⟩ := trodAll_cons hA
  obtain ⟨rfl, rfl, rfl⟩ := trodAll_nil r0q
  obtain rfl : args = #[v0] := by cases args; simp_all
  have k0 := h0
  have lt0 : ∀ x ∈ p0, x.block < W.heap.size := by obtain ⟨m, hm⟩ := k0; exact DataW.trod_lt m _ _ _ hm
  obtain ⟨A0, n0, c0, rfl⟩ := okWide_slice Tryd.underlying22 (hval 0 22 v0 rfl rfl)
  obtain ⟨ts0, r0, l0⟩ := open_readsT Tryd.underlying22 Tryd.underlying40 (by kernel_rfl) rfl rfl (by kernel_rfl) (by kernel_rfl) Tryd.underlying3 Tryd.underlying3 h0
  obtain ⟨g, t, cs, fuel, dg, pg, rfl, hgn, hgt, hgv, hgd, rfl⟩ := trodVars_one (show DataW.TrodVars enc Tryd.prog W (fun _ => true) [_] gs q from hV)
  rw [MakeChecks.laidMetH_plain _ _ _ (by kernel_rfl)] at hL
  have hp := pows_of_laid hL.tail.tail
  have hw := words_of_laid hL.tail.tail.tail
  have hpos : 0 < W.heap.size := World.block_lt_of_cell? W _ (hw 0 (by omega))
  clear hA0 hval0
  refine (walk W A0 n0 c0 ts0 r0 l0 hpos hw hp).mono fun e W' ⟨he, bel⟩ => ?_
  subst he
  exact ⟨_, rfl, _, _, _, [], _, _, hW', trodAll_mk1 (shut_bool Tryd.underlying4 _), (trodAll_cons_mk (Below.trod laidOut (by kernel_rfl) (of_decide_eq_true (by kernel_rfl)) k0 bel lt0) trodAll_mk0), Below.trodVars laidOut bel (by kernel_rfl) hV, bel.frame _, fun h => by cases h⟩

theorem over : Rows.FnExactExprTextSaid :=
  OpenClaim.holds_of_wide 3 Tryd.f3 rfl rfl rfl rfl rfl rfl rfl ⟨rfl, rfl, rfl, rfl, rfl⟩ rfl rfl rfl rfl rfl (by kernel_rfl) Tryd.func3 (by kernel_rfl)
    (of_decide_eq_true (by kernel_rfl)) (by unfold Func.isWrapper; first | (rw [if_pos (by decide +kernel)]; kernel_rfl) | (rw [if_neg (by decide +kernel)]; exact ⟨rfl, rfl⟩))
    (fun os started H enc _ => lifted os started H enc)

/-- The given statement: the row, its listed variables tied to the program's text. -/
theorem proved : Rows.FnExactExprTextCardSaid :=
  Claim7.holds_tied_plain_at .later [] [.data, .data, .data, .data] true (true, "4bc77272e847dae5592b99705bb438b735b67dd1d3b83078148f12a0c5218984") true
    over (fun _ h => by cases h) (by kernel_rfl) (fun _ h => by cases h) fnExactExprText_row_tie rfl ⟨rfl, rfl⟩ (by kernel_rfl) rfl
    (fun f fn hf hfn => by
      obtain rfl : f = 3 := Option.some.inj ((show Tryd.prog.funcNamed "loop.example/g00745/laws.FnExactExprText" = some 3 by kernel_rfl).symm.trans hf) |>.symm
      obtain rfl : fn = Tryd.f3 := (Option.some.inj (Tryd.func3.symm.trans hfn)).symm
      exact ⟨by kernel_rfl, fun j t ht => by
        rw [Tryd.params3] at ht
        have hm : t ∈ [22] := by
          have := Array.mem_of_getElem? ht
          simpa using this
        simp only [List.mem_cons, List.mem_nil_iff, or_false] at hm
        rcases hm with rfl
        · exact (show Tryd.prog.wantsStandIn 22 = false by kernel_rfl)⟩)
    (by kernel_rfl)
#print axioms proved
end Go.Proofs.YtpknbdaicmacjaaDoor.fnExactExprText

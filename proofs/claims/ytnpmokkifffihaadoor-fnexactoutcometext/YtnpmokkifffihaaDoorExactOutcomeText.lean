/-
  Proved: at every outcome the program's OutcomeText gives the same text and truth as the reference OutcomeText and leaves its argument as it was; the law FnExactOutcomeText returns true at every argument, where the listed variables are as the program's text lays them.
  Conditions: none beyond those that the given card itself prints.
-/
import Derived.Test.YtnpmokkifffihaaDoorRows
import Derived.Test.YtnpmokkifffihaaDoorTie
import Derived.Test.YtnpmokkifffihaaDoorCards
import Derived.Test.YtnpmokkifffihaaDoorLaid
import Derived.Test.YtnpmokkifffihaaDoorArgsP
import Derived.Deep.RegionLaw
import Derived.WalkKit
import Derived.ProofKit
import Derived.OpenShut
import Derived.OpenVars
import Derived.ShutString
import Derived.ChangeOld
import Derived.Below
import Derived.LaidMore
import Derived.SevenTiedAt
namespace Go.Proofs.YtnpmokkifffihaaDoor.fnExactOutcomeText
open Go.ChangeShapes Go.WideShapes Go.ChangeAt Go.RowKit Exs
open Go.ChangeMaps (open_string shut_string)
set_option linter.unusedVariables false

theorem own : ownKnob Tryd.prog.godebug = none := by kernel_rfl
theorem laidOut : laidOutB Tryd.prog = true := by kernel_rfl

/-! The walk: the functions are taken by their contracts, which name one and the same answer. -/
set_option maxHeartbeats 1000000 in
set_option maxRecDepth 100000 in
theorem walk (w : World) (o0 : Oc) (A0 : Option Addr) (n0 c0 : Nat) (r0 : Reads w w.heap.size .i64 A0 n0 o0.trace) (l0 : n0 ≤ maxLen) (hpos : 0 < w.heap.size) (hw : OWords w) (hp : Lib.TabIs Tryd.prog w "internal/strconv.uint64pow10" .u64 Lib.pow10Tab) :
    Calls Tryd.prog 3 #[ocV o0 A0 n0 c0] w fun e w' => e = .returned (.bool true) ∧ Below w.heap.size w w' := by

  have hb0 : Below w.heap.size w (w.alloc (.cells #[.int .i64 o0.code, .int .i64 o0.value, .slice A0 n0 c0, .int .i64 o0.used] 24)) := (Below.refl _ _).alloc (Nat.le_refl _) _
  have k0 := Keep.new w #[.int .i64 o0.code, .int .i64 o0.value, .slice A0 n0 c0, .int .i64 o0.used] 24
  unfold ocV
  by_cases h0 : (n0 : Int) ≤ 1048576
  · have z0 := szA_fit h0
    have s0 : n0 ≤ 1048576 := by omega
    have hq0 : ¬ (1048576 : Int) - n0 < 0 := by omega
    have HW := put hw
    have HP := put (Lib.tabBelow_of_tabIs hp)
    clear hw hp h0
    go_enter Tryd.func3, Tryd.ntmps3
    go_wp2_with fail
    generalize hW : w.alloc (.cells #[.int .i64 o0.code, .int .i64 o0.value, .slice A0 n0 c0, .int .i64 o0.used] 24) = W0 at hb0 k0 ⊢
    clear hW
    refine (szOutcome_any o0 A0 n0 c0 1048576 W0 l0 (by decide) (by decide)).mono ?_
    rintro e w1 ⟨rfl, hb1⟩
    rw [z0]
    have b1 : Below w.heap.size w w1 := hb0.trans (hb1.mono hb0.size)
    have k1 := k0.below hb1
    clear hb0 k0 hb1 z0
    have x0 := k1.cell 0
    have x1 := k1.cell 1
    have x2 := k1.cell 2
    have x3 := k1.cell 3
    simp at x0 x1 x2 x3
    go_wp2_with fail
    refine (toOutcome_v o0 A0 n0 c0 w1 (r0.now b1) s0).mono ?_
    rintro e w2 ⟨C1, rfl, m2, hb2⟩
    have b2 : Below w.heap.size w w2 := b1.trans (hb2.mono b1.size)
    have k2 := k1.below hb2
    clear b1 k1 hb2 x0 x1 x2 x3
    go_wp2_with fail
    refine (specOutcomeText_any o0 C1 n0 n0 w2 m2.reads s0).mono ?_
    rintro e w3 ⟨rfl, hb3⟩
    have b3 : Below w.heap.size w w3 := b2.trans (hb3.mono b2.size)
    have k3 := k2.below hb3
    clear b2 k2 hb3 m2
    have hans : ∃ p q, ocAns o0 = (p, q) := ⟨_, _, rfl⟩
    obtain ⟨p, q, hpq⟩ := hans
    have HPQ := put hpq
    rw [hpq]
    clear hpq
    have x0 := k3.cell 0
    have x1 := k3.cell 1
    have x2 := k3.cell 2
    have x3 := k3.cell 3
    simp at x0 x1 x2 x3
    go_wp2_with fail
    refine (toOutcome_v o0 A0 n0 c0 w3 (r0.now b3) s0).mono ?_
    rintro e w4 ⟨D1, rfl, m4, hb4⟩
    have b4 : Below w.heap.size w w4 := b3.trans (hb4.mono b3.size)
    have k4 := (k3.below hb4).alloc (.cells #[.int .i64 o0.code, .int .i64 o0.value, .slice D1 n0 n0, .int .i64 o0.used] 28)
    have p4 := Keep.new w4 #[.int .i64 o0.code, .int .i64 o0.value, .slice D1 n0 n0, .int .i64 o0.used] 28
    have m4a := m4.same (SameFrom.of_below ((Below.refl _ w4).alloc (Nat.le_refl _) (.cells #[.int .i64 o0.code, .int .i64 o0.value, .slice D1 n0 n0, .int .i64 o0.used] 28)))
    have b4a := b4.alloc b4.size (.cells #[.int .i64 o0.code, .int .i64 o0.value, .slice D1 n0 n0, .int .i64 o0.used] 28)
    clear x0 x1 x2 x3
    go_wp2_with fail
    generalize hW : w4.alloc (.cells #[.int .i64 o0.code, .int .i64 o0.value, .slice D1 n0 n0, .int .i64 o0.used] 28) = w5 at k4 p4 m4a b4a ⊢
    clear hW m4 b4 k3 b3 hb4
    refine (outcomeText_any o0 D1 n0 n0 w5 m4a.reads s0 (by have := b4a.size; omega) (put (HW.out.below b4a hpos)) (put (Lib.tabBelow_of_tabIs (HP.out _ b4a)))).mono ?_
    rintro e w6 ⟨rfl, hb6⟩
    rw [HPQ.out]
    have b6 : Below w.heap.size w w6 := b4a.trans (hb6.mono b4a.size)
    have k6 := k4.below hb6
    have p6 := p4.below hb6
    have m6 := m4a.same (SameFrom.of_below hb6)
    clear k4 p4 m4a b4a hb6
    have x0 := k6.cell 0
    have x1 := k6.cell 1
    have x2 := k6.cell 2
    have x3 := k6.cell 3
    simp at x0 x1 x2 x3
    have y0 := p6.cell 0
    have y1 := p6.cell 1
    have y2 := p6.cell 2
    have y3 := p6.cell 3
    simp at y0 y1 y2 y3
    go_wp2
    go_region_law (first
      | (go_simp; go_at_call 8; refine (eqOutcome_same o0 D1 n0 n0 C3 n0 w7 m6d.reads m7.reads s0).mono ?_; rintro e w8 ⟨rfl, hb8⟩)
      | (go_simp; go_at_call 6; refine (toOutcome_v o0 A0 n0 c0 w6.drew (r0.now b6.drew) s0).mono ?_; rintro e w7 ⟨C3, rfl, m7, hb7⟩; have p7 := Keep.below (w := w6.drew) p6 hb7; have v0 := p7.cell 0; have v1 := p7.cell 1; have v2 := p7.cell 2; have v3 := p7.cell 3; simp at v0 v1 v2 v3; have m6d := m6.same (SameFrom.of_below ((Below.refl w6.heap.size w6).drew.trans hb7))))
    all_goals (
      have b7 : Below w.heap.size w w7 := b6.drew.trans (hb7.mono b6.size)
      have b8 : Below w.heap.size w w8 := b7.trans (hb8.mono b7.size)
      go_wp2
      go_ret
      exact ⟨rfl, b8⟩)
  · have z0 := szA_no (Int.not_le.1 h0)
    clear hw hp
    go_enter Tryd.func3, Tryd.ntmps3
    go_wp2_with fail
    generalize hW : w.alloc (.cells #[.int .i64 o0.code, .int .i64 o0.value, .slice A0 n0 c0, .int .i64 o0.used] 24) = W0 at hb0 k0 ⊢
    clear hW
    refine (szOutcome_any o0 A0 n0 c0 1048576 W0 l0 (by decide) (by decide)).mono ?_
    rintro e w1 ⟨rfl, hb1⟩
    rw [z0]
    go_wp2
    go_ret
    exact ⟨rfl, hb0.trans (hb1.mono hb0.size)⟩

/-- The world that the program's own start leaves. -/
noncomputable def startWorld (os : Os) : World := World.doorLaid Tryd.prog 57 os
theorem start_met (os : Os) (args : Array Value) : laidMetH Tryd.prog Rows.fnExactOutcomeTextRow.laid ((startWorld os).forCall (fun _ _ => 0) ⟨#[], args, []⟩).memory :=
  laidMetH_of_parts3 (fuel := 8) (laidMet_of_run' 8 (by kernel_rfl) (by kernel_rfl)) (by kernel_rfl) (by kernel_rfl)

/-! From the walk to the given row. -/
set_option maxRecDepth 100000 in
theorem lifted (os : Os) (started : os.Started) (H : Type) (enc : TypeId × Value → H) :
    ReturnsInHanded {} Tryd.checked os 3 .any (fun w args => (Rows.fnExactOutcomeTextSpec.pre enc Tryd.prog Tryd.f3 [] false w args ∧ laidMetH Tryd.prog Rows.fnExactOutcomeTextRow.laid w) ∧ sizedMet enc Tryd.prog Tryd.f3 (OpenSpec.ofChange Rows.fnExactOutcomeTextSpec) false w args) (Rows.fnExactOutcomeTextSpec.post enc Tryd.prog Tryd.f3 false true false false) := by
  refine returnsInHanded_of_change_and (C := Tryd.checked) (X := fun w _ => laidMetH Tryd.prog Rows.fnExactOutcomeTextRow.laid w) (fun _ _ _ hh h => h.of_heap hh) own started (by kernel_rfl) Tryd.func3
    (ChangeSpec.witness_shaped (enc := enc) (C := Tryd.checked) (os := os) (X := fun w _ => laidMetH Tryd.prog Rows.fnExactOutcomeTextRow.laid w) false (startWorld os) #[.agg #[.int .i64 0, .int .i64 0, .slice none 0 0, .int .i64 0]] 8 rfl (World.shaped_of_RefB (by kernel_rfl) (by kernel_rfl)) (by kernel_rfl) (by kernel_rfl) (by kernel_rfl) (start_met os _)) ?_
  intro W base args ds gs before hval0 hW _ _ hL _
  have hval : ∀ (j : Nat) t v, Tryd.f3.params[j]? = some t → args[j]? = some v → Value.okWide Tryd.prog W .any base t v := hval0
  have hW' := hW
  obtain ⟨p, q, hA0, hV, rfl, hfz, hnd⟩ := hW
  have hA : DataW.TrodAll enc Tryd.prog W 0 (fun _ => true) true Tryd.f3.params.toList args.toList ds p := hA0
  rw [Tryd.params3] at hA hval
  obtain ⟨v0, vs0, d0, ds0, p0, q0, hargs, rfl, rfl, h0, r0q⟩ := trodAll_cons hA
  obtain ⟨rfl, rfl, rfl⟩ := trodAll_nil r0q
  obtain rfl : args = #[v0] := by cases args; simp_all
  have k0 := h0
  have lt0 : ∀ x ∈ p0, x.block < W.heap.size := by obtain ⟨m, hm⟩ := k0; exact DataW.trod_lt m _ _ _ hm
  obtain ⟨o0, A0, n0, c0, rfl, r0, l0⟩ := open_outcome (hval 0 24 v0 rfl rfl) h0
  obtain ⟨g, t, cs, fuel, dg, pg, rfl, hgn, hgt, hgv, hgd, rfl⟩ := trodVars_one (show DataW.TrodVars enc Tryd.prog W (fun _ => true) [_] gs q from hV)
  rw [MakeChecks.laidMetH_plain _ _ _ (by kernel_rfl)] at hL
  have hp := pows_of_laid hL.tail.tail
  have hw := owords_of_laid hL.tail.tail.tail
  have hpos : 0 < W.heap.size := World.block_lt_of_cell? W _ (hw 0 (by omega))
  clear hA0 hval0
  refine (walk W o0 A0 n0 c0 r0 l0 hpos hw hp).mono fun e W' ⟨he, bel⟩ => ?_
  subst he
  exact ⟨_, rfl, _, _, _, [], _, _, hW', trodAll_mk1 (shut_bool Tryd.underlying4 _), (trodAll_cons_mk (Below.trod laidOut (by kernel_rfl) (of_decide_eq_true (by kernel_rfl)) k0 bel lt0) trodAll_mk0), Below.trodVars laidOut bel (by kernel_rfl) hV, bel.frame _, fun h => by cases h⟩

theorem over : Rows.FnExactOutcomeTextSaid :=
  OpenClaim.holds_of_wide 3 Tryd.f3 rfl rfl rfl rfl rfl rfl rfl ⟨rfl, rfl, rfl, rfl, rfl⟩ rfl rfl rfl rfl rfl (by kernel_rfl) Tryd.func3 (by kernel_rfl)
    (of_decide_eq_true (by kernel_rfl)) (by unfold Func.isWrapper; first | (rw [if_pos (by decide +kernel)]; kernel_rfl) | (rw [if_neg (by decide +kernel)]; exact ⟨rfl, rfl⟩))
    (fun os started H enc _ => lifted os started H enc)

/-- The given statement: the row, its listed variables tied to the program's text. -/
theorem proved : Rows.FnExactOutcomeTextCardSaid :=
  Claim7.holds_tied_plain_at .later [] [.data, .data, .data, .data] true (true, "2e7025a0a3068b7f36f1b01ad4c80037633fc94dee5b91f325ab5d00b8710575") false
    over (fun _ h => by cases h) (by kernel_rfl) (fun _ h => by cases h) fnExactOutcomeText_row_tie rfl ⟨rfl, rfl⟩ (by kernel_rfl) rfl
    (fun f fn hf hfn => by
      obtain rfl : f = 3 := Option.some.inj ((show Tryd.prog.funcNamed "loop.example/g00745/laws.FnExactOutcomeText" = some 3 by kernel_rfl).symm.trans hf) |>.symm
      obtain rfl : fn = Tryd.f3 := (Option.some.inj (Tryd.func3.symm.trans hfn)).symm
      exact ⟨by kernel_rfl, fun j t ht => by
        rw [Tryd.params3] at ht
        have hm : t ∈ [24] := by
          have := Array.mem_of_getElem? ht
          simpa using this
        simp only [List.mem_cons, List.mem_nil_iff, or_false] at hm
        rcases hm with rfl
        · exact (show Tryd.prog.wantsStandIn 24 = false by kernel_rfl)⟩)
    (by kernel_rfl)
#print axioms proved
end Go.Proofs.YtnpmokkifffihaaDoor.fnExactOutcomeText

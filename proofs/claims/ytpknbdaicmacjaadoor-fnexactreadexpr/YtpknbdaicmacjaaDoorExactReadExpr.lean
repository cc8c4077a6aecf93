/-
  Proved: at every text the program's ReadExpr gives the same tokens and truth as the reference ReadExpr, in memory of its own; the law FnExactReadExpr returns true at every argument, where the listed variables are as the program's text lays them.
  Conditions: none beyond those that the given card itself prints.
-/
import Derived.Test.YtpknbdaicmacjaaDoorRows
import Derived.Test.YtpknbdaicmacjaaDoorTie
import Derived.Test.YtpknbdaicmacjaaDoorCards
import Derived.Test.YtpknbdaicmacjaaDoorLaid2
import Derived.Test.YtpknbdaicmacjaaDoorMarks
import Derived.Test.YtpknbdaicmacjaaDoorArgs
import Derived.WalkKit
import Derived.ProofKit
import Derived.OpenShut
import Derived.OpenVars
import Derived.ShutString
import Derived.ChangeOld
import Derived.Below
import Derived.LaidMore
import Derived.SevenTiedAt
namespace Go.Proofs.YtpknbdaicmacjaaDoor.fnExactReadExpr
open Go.ChangeShapes Go.WideShapes Go.ChangeAt Go.RowKit Exs
open Go.ChangeMaps (open_string shut_string)
set_option linter.unusedVariables false

theorem own : ownKnob Tryd.prog.godebug = none := by kernel_rfl
theorem laidOut : laidOutB Tryd.prog = true := by kernel_rfl

/-! The walk: the functions are taken by their contracts, which name one and the same answer. -/
set_option maxHeartbeats 2000000 in
set_option maxRecDepth 100000 in
theorem walk (w : World) (s0 : ByteArray) (hs0 : s0.size ≤ maxLen) (hpos : 3 < w.heap.size) (hw : Words w) (hp : Lib.TabIs Tryd.prog w "internal/strconv.uint64pow10" .u64 Lib.pow10Tab) (he : Errs w) :
    Calls Tryd.prog 4 #[.string s0] w fun e w' => e = .returned (.bool true) ∧ Below w.heap.size w w' := by

  unfold maxLen at hs0
  obtain ⟨l, hl⟩ : ∃ l, l = s0.data.toList := ⟨_, rfl⟩
  obtain rfl : s0 = strB l := by rw [hl]; rfl
  clear hl
  have hsz := strB_size l
  by_cases hbig : (1048576 : Int) < ((strB l).size : Int)
  · clear hsz
    go_enter Tryd.func4, Tryd.ntmps4
    go_wp2
    go_ret
    exact ⟨rfl, Below.refl _ _⟩
  · have hl0 : l.length ≤ 9223372036854775807 := by omega
    have HW := put hw
    have HP := put (Lib.tabBelow_of_tabIs hp)
    have HE := put he
    have hszle : (strB l).size ≤ 1048576 := by omega
    clear hw hp he hsz
    go_enter Tryd.func4, Tryd.ntmps4
    go_wp2_with fail
    refine (specReadExpr_any l _ hl0).mono ?_
    rintro e w1 ⟨A, n, c, b, ts, rfl, hrd, hn12, hans, b1⟩
    have hpos1 : 3 < w1.heap.size := by have := b1.size; omega
    go_wp2_with fail
    refine (readExpr_any l _ hl0 hpos1 (put (HW.out.below b1 (by omega))) (put (Lib.tabBelow_of_tabIs (HP.out _ b1))) (put (HE.out.below b1 hpos))).mono ?_
    rintro e w2 (⟨rfl, hans2, hb2⟩ | ⟨g, m, ts', rfl, hg, hroom2, hlm, hm12, hans2, hb2⟩)
    · have hE := hans.out.symm.trans hans2.out
      obtain ⟨rfl, rfl⟩ : ts = [] ∧ b = false := by injection hE with a1 a2; exact ⟨a1, a2⟩
      obtain rfl : n = 0 := hrd.1.symm
      have hrd2 := (hrd.below hb2).more hb2.size
      clear hE
      go_wp2_with fail
      refine (eqToks_same _ _ _ _ _ [] _ (readsT_nil _ _) hrd2 (by omega)).mono ?_
      rintro e w3 ⟨rfl, hb3⟩
      have b13 : Below w1.heap.size w1 w3 := hb2.trans (hb3.mono hb2.size)
      have bw3 : Below w.heap.size w w3 := b1.trans (b13.mono b1.size)
      clear hb2 hb3 hrd2
      go_wp2_with fail
      refine (mark_nil _).mono ?_
      rintro e w4 ⟨rfl, rfl⟩
      go_wp2_with fail
      refine (held_nil _).mono ?_
      rintro e w5 ⟨rfl, rfl⟩
      go_wp2_with fail
      refine (readExpr_any l _ hl0 (by have := bw3.size; omega) (put (HW.out.below bw3 (by omega))) (put (Lib.tabBelow_of_tabIs (HP.out _ bw3))) (put (HE.out.below bw3 hpos))).mono ?_
      rintro e w6 (⟨rfl, _, hb6⟩ | ⟨g', m', ts'', rfl, _, _, _, _, hans6, _⟩)
      · have b16 : Below w1.heap.size w1 w6 := b13.trans (hb6.mono b13.size)
        have hrd6 := (hrd.below b16).more b16.size
        go_wp2_with fail
        refine (eqToks_same _ _ _ _ _ [] _ (readsT_nil _ _) hrd6 (by omega)).mono ?_
        rintro e w7 ⟨rfl, hb7⟩
        have b17 : Below w1.heap.size w1 w7 := b16.trans (hb7.mono b16.size)
        go_wp2_with fail
        refine (held_nil _).mono ?_
        rintro e w8 ⟨rfl, rfl⟩
        go_wp2
        go_ret
        exact ⟨rfl, b1.trans (b17.mono b1.size)⟩
      · have := hans.out.symm.trans hans6.out
        injection this with _ a2
        cases a2
    · have hE := hans.out.symm.trans hans2.out
      obtain ⟨rfl, rfl⟩ : ts = ts' ∧ b = true := by injection hE with a1 a2; exact ⟨a1, a2⟩
      obtain rfl : n = m := hrd.1.symm.trans hlm
      have HLM := put hlm
      clear hE hlm
      have hrd2 := (hrd.below hb2).more hb2.size
      have hnb : n ≤ 1048576 := by omega
      go_wp2_with fail
      refine (eqToks_same _ _ _ _ _ ts _ (hroom2.readsT HLM.out) hrd2 hnb).mono ?_
      rintro e w3 ⟨rfl, hb3⟩
      have b13 : Below w1.heap.size w1 w3 := hb2.trans (hb3.mono hb2.size)
      have hroom3 := hroom2.below hb3 hroom2.lt
      clear hb2 hb3 hrd2 hroom2
      go_wp2_with fail
      refine (mark_any _ _ _ _ hroom3 hnb).mono ?_
      rintro e w4 ⟨rfl, hroom4, hg4⟩
      have b14 : Below w1.heap.size w1 w4 := b13.grown hg4 b13.size (fun k hk => by injection hk with hk; omega)
      have bw4 : Below w.heap.size w w4 := b1.trans (b14.mono b1.size)
      clear hroom3 b13 hg4
      go_wp2_with fail
      refine (held_any _ _ _ hroom4 hnb).mono ?_
      rintro e w5 ⟨rfl, rfl⟩
      go_wp2_with fail
      refine (readExpr_any l _ hl0 (by have := bw4.size; omega) (put (HW.out.below bw4 (by omega))) (put (Lib.tabBelow_of_tabIs (HP.out _ bw4))) (put (HE.out.below bw4 hpos))).mono ?_
      rintro e w6 (⟨rfl, hans6, hb6⟩ | ⟨g', m', ts'', rfl, hg', hroom6, hlm6, _, hans6, hb6⟩)
      · have := hans.out.symm.trans hans6.out
        injection this with _ a2
        cases a2
      · have hE := hans.out.symm.trans hans6.out
        obtain rfl : ts = ts'' := by injection hE
        obtain rfl : n = m' := hrd.1.symm.trans hlm6
        have b16 : Below w1.heap.size w1 w6 := b14.trans (hb6.mono b14.size)
        have hrd6 := (hrd.below b16).more b16.size
        have hroom46 := hroom4.below hb6 hroom4.lt
        clear hE hlm6 hroom4 b14 hb6
        go_wp2_with fail
        refine (eqToks_same _ _ _ _ _ ts _ (hroom6.readsT HLM.out) hrd6 hnb).mono ?_
        rintro e w7 ⟨rfl, hb7⟩
        have b17 : Below w1.heap.size w1 w7 := b16.trans (hb7.mono b16.size)
        have hroom7 := hroom46.below hb7 hroom46.lt
        clear hroom46 hroom6 hrd6 hb7
        go_wp2_with fail
        refine (held_any _ _ _ hroom7 hnb).mono ?_
        rintro e w8 ⟨rfl, rfl⟩
        go_wp2
        go_ret
        exact ⟨rfl, b1.trans (b17.mono b1.size)⟩

/-- The world that the program's own start leaves, the library's table laid besides. -/
noncomputable def startWorld (os : Os) : World :=
  let w0 := World.doorLaid Tryd.prog 77 os
  { w0 with heap := w0.heap.modify 5 fun
      | .cells _ t frozen => .cells (Go.Pinned.utf8FirstZ.map fun (z : Nat) => Value.int .u8 z).toArray t frozen
      | o => o }
theorem start_met (os : Os) (args : Array Value) : laidMetH Tryd.prog Rows.fnExactReadExprRow.laid ((startWorld os).forCall (fun _ _ => 0) ⟨#[], args, []⟩).memory :=
  laidMetH_of_parts3 (fuel := 8) (laidMet_of_run' 8 (by kernel_rfl) (by kernel_rfl)) (by kernel_rfl) (by kernel_rfl)

/-! From the walk to the given row. -/
set_option maxRecDepth 100000 in
theorem lifted (os : Os) (started : os.Started) (H : Type) (enc : TypeId × Value → H) :
    ReturnsInHanded {} Tryd.checked os 4 .any (fun w args => (Rows.fnExactReadExprSpec.pre enc Tryd.prog Tryd.f4 [] false w args ∧ laidMetH Tryd.prog Rows.fnExactReadExprRow.laid w) ∧ sizedMet enc Tryd.prog Tryd.f4 (OpenSpec.ofChange Rows.fnExactReadExprSpec) false w args) (Rows.fnExactReadExprSpec.post enc Tryd.prog Tryd.f4 false true false false) := by
  refine returnsInHanded_and_shaped (C := Tryd.checked) (X := fun w _ => laidMetH Tryd.prog Rows.fnExactReadExprRow.laid w) (fun _ _ _ hh h => h.of_heap hh) own started (by kernel_rfl) Tryd.func4
    (ChangeSpec.witness_shaped (enc := enc) (C := Tryd.checked) (os := os) (X := fun w _ => laidMetH Tryd.prog Rows.fnExactReadExprRow.laid w) false (startWorld os) #[.string ⟨#[]⟩] 8 rfl (World.shaped_of_RefB (by kernel_rfl) (by kernel_rfl)) (by kernel_rfl) (by kernel_rfl) (by kernel_rfl) (start_met os _)) ?_
  intro W base args ds gs before hval0 hW _ _ hL hsh _
  have hval : ∀ (j : Nat) t v, Tryd.f4.params[j]? = some t → args[j]? = some v → Value.okWide Tryd.prog W .any base t v := hval0
  have hW' := hW
  obtain ⟨p, q, hA0, hV, rfl, hfz, hnd⟩ := hW
  have hA : DataW.TrodAll enc Tryd.prog W 0 (fun _ => true) true Tryd.f4.params.toList args.toList ds p := hA0
  rw [Tryd.params4] at hA hval
  obtain ⟨v0, vs0, d0, ds0, p0, q0, hargs, rfl, rfl, h0, r0q⟩ := trodAll_cons hA
  obtain ⟨rfl, rfl, rfl⟩ := trodAll_nil r0q
  obtain rfl : args = #[v0] := by cases args; simp_all
  obtain ⟨s0, rfl, rfl, rfl, hs0⟩ := open_string Tryd.underlying9 (hval 0 9 v0 rfl rfl) h0
  obtain ⟨g, t, cs, fuel, dg, pg, rfl, hgn, hgt, hgv, hgd, rfl⟩ := trodVars_one (show DataW.TrodVars enc Tryd.prog W (fun _ => true) [_] gs q from hV)
  rw [MakeChecks.laidMetH_plain _ _ _ (by kernel_rfl)] at hL
  have hp := pows_of_laid hL.tail.tail
  have he1 := range_of_laid hL.tail.tail.tail.tail
  have he2 := syntax_of_laid hL.tail.tail.tail.tail.tail
  have hw := words_of_laid hL.tail.tail.tail.tail.tail.tail
  have he : Errs W := ⟨he2, he1, most_of_shape hsh⟩
  have hpos : 3 < W.heap.size := by obtain ⟨v, hv, _⟩ := he1; exact World.block_lt_of_cell? W _ hv
  clear hA0 hval0
  refine (walk W s0 hs0 hpos hw hp he).mono fun e W' ⟨he, bel⟩ => ?_
  subst he
  exact ⟨_, rfl, _, _, _, [], _, _, hW', trodAll_mk1 (shut_bool Tryd.underlying4 _), (trodAll_cons_mk (shut_string Tryd.underlying9 hs0) trodAll_mk0), Below.trodVars laidOut bel (by kernel_rfl) hV, bel.frame _, fun h => by cases h⟩

theorem over : Rows.FnExactReadExprSaid :=
  OpenClaim.holds_of_wide 4 Tryd.f4 rfl rfl rfl rfl rfl rfl rfl ⟨rfl, rfl, rfl, rfl, rfl⟩ rfl rfl rfl rfl rfl (by kernel_rfl) Tryd.func4 (by kernel_rfl)
    (of_decide_eq_true (by kernel_rfl)) (by unfold Func.isWrapper; first | (rw [if_pos (by decide +kernel)]; kernel_rfl) | (rw [if_neg (by decide +kernel)]; exact ⟨rfl, rfl⟩))
    (fun os started H enc _ => lifted os started H enc)

/-- The given statement: the row, its listed variables tied to the program's text. -/
theorem proved : Rows.FnExactReadExprCardSaid :=
  Claim7.holds_tied_plain_at .later [] [.data, .data, .data, .data, .sentinel, .sentinel, .data, .pinned] true (true, "4bc77272e847dae5592b99705bb438b735b67dd1d3b83078148f12a0c5218984") true
    over (fun _ h => by cases h) (by kernel_rfl) (fun _ h => by cases h) fnExactReadExpr_row_tie rfl ⟨rfl, rfl⟩ (by kernel_rfl) rfl
    (fun f fn hf hfn => by
      obtain rfl : f = 4 := Option.some.inj ((show Tryd.prog.funcNamed "loop.example/g00745/laws.FnExactReadExpr" = some 4 by kernel_rfl).symm.trans hf) |>.symm
      obtain rfl : fn = Tryd.f4 := (Option.some.inj (Tryd.func4.symm.trans hfn)).symm
      exact ⟨by kernel_rfl, fun j t ht => by
        rw [Tryd.params4] at ht
        have hm : t ∈ [9] := by
          have := Array.mem_of_getElem? ht
          simpa using this
        simp only [List.mem_cons, List.mem_nil_iff, or_false] at hm
        rcases hm with rfl
        · exact (show Tryd.prog.wantsStandIn 9 = false by kernel_rfl)⟩)
    (by kernel_rfl)
#print axioms proved
end Go.Proofs.YtpknbdaicmacjaaDoor.fnExactReadExpr

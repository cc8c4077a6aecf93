/-
  Proved: at every list of tokens the program's LowerExpr gives the same instructions and truth as the reference LowerExpr, in memory of its own, and leaves its argument as it was; the law FnExactLowerExpr returns true at every argument, where the listed variables are as the program's text lays them.
  Conditions: none beyond those that the given card itself prints.
-/
import Derived.Test.YtfdijeeilfhjeaaDoorRows
import Derived.Test.YtfdijeeilfhjeaaDoorTie
import Derived.Test.YtfdijeeilfhjeaaDoorCards
import Derived.Test.YtfdijeeilfhjeaaDoorLaid
import Derived.Test.YtfdijeeilfhjeaaDoorLow1
import Derived.Test.YtfdijeeilfhjeaaDoorMarkI
import Derived.Test.YtfdijeeilfhjeaaDoorArgs
import Derived.Test.YtfdijeeilfhjeaaDoorArgs
import Derived.WalkKit
import Derived.ProofKit
import Derived.OpenShut
import Derived.OpenVars
import Derived.ShutString
import Derived.ChangeOld
import Derived.Below
import Derived.LaidMore
import Derived.SevenTiedAt
namespace Go.Proofs.YtfdijeeilfhjeaaDoor.fnExactLowerExpr
open Go.ChangeShapes Go.WideShapes Go.ChangeAt Go.RowKit Exs
open Go.ChangeMaps (open_string shut_string)
set_option linter.unusedVariables false

theorem own : ownKnob Tryd.prog.godebug = none := by kernel_rfl
theorem laidOut : laidOutB Tryd.prog = true := by kernel_rfl

theorem readsT_nil0 (w : World) (B : Nat) : ReadsT w B none 0 [] := ⟨rfl, by simp [flat], fun h => absurd h (by omega)⟩
theorem room_grown {w w' : World} {g g' : Nat} {t : TypeId} {c : Nat} {k : IntKind} {xs : List Int} (h : Room w g t c k xs) (hg : w.grownBy w' (some g')) (hne : g ≠ g') : Room w' g t c k xs := by
  have hl := h.lt
  obtain ⟨cs, h1, h2, h3⟩ := h
  exact ⟨cs, (hg.block g hl (fun e => hne (by injection e))).trans h1, h2, h3⟩

/-! The walk: the functions are taken by their contracts, which name one and the same answer. -/
set_option maxHeartbeats 2000000 in
set_option maxRecDepth 100000 in
theorem walk (w : World) (A0 : Option Addr) (n0 c0 : Nat) (ts0 : List Token) (r0 : ReadsT w w.heap.size A0 n0 ts0) (l0 : n0 ≤ maxLen) (hpos : 0 < w.heap.size) (hw : Words w) (hp : Lib.TabIs Tryd.prog w "internal/strconv.uint64pow10" .u64 Lib.pow10Tab) :
    Calls Tryd.prog 3 #[.slice A0 n0 c0] w fun e w' => e = .returned (.bool true) ∧ Below w.heap.size w w' := by

  unfold maxLen at l0
  by_cases hbig : 1048576 < n0
  · go_enter Tryd.func3, Tryd.ntmps3
    go_wp2_with fail
    refine (szToks_many _ _ _ _ hbig (by omega)).mono ?_
    rintro e w1 ⟨rfl, rfl⟩
    go_wp2
    go_ret
    exact ⟨rfl, Below.refl _ _⟩
  · have h0 : n0 ≤ 1048576 := by omega
    have HW := put hw
    have HP := put (Lib.tabBelow_of_tabIs hp)
    have CI := put (fun W (hW : Below w.heap.size w W) A n c (hn : n = n0) (hr : ReadsT W W.heap.size A n ts0) => lowerExpr_any A n c ts0 W hr (by omega) (by have := hW.size; omega) (put (HW.out.below hW hpos)) (put (Lib.tabBelow_of_tabIs (HP.out _ hW))))
    have HR := put r0.1
    clear hw hp
    go_enter Tryd.func3, Tryd.ntmps3
    go_wp2_with fail
    refine (szToks_few _ _ _ _ h0).mono ?_
    rintro e w0 ⟨rfl, rfl⟩
    go_wp2_with fail
    refine (toToks_any A0 n0 c0 ts0 _ r0 h0).mono ?_
    rintro e w1 ⟨rfl, hroom1, b1⟩
    go_wp2_with fail
    refine (specLowerExpr_any _ _ _ ts0 _ (hroom1.readsT HR.out) h0).mono ?_
    rintro e w2 ⟨vw, rfl, nw, hb2⟩
    have b2 : Below w.heap.size w w2 := b1.trans (hb2.mono b1.size)
    obtain ⟨Aw, cw, hvw, rw0⟩ := nw.reads
    subst hvw
    clear hb2 hroom1 nw
    go_wp2_with fail
    refine (toToks_any A0 n0 c0 ts0 _ ((r0.below b2).more b2.size) h0).mono ?_
    rintro e w3 ⟨rfl, hx3, c3⟩
    have b3 : Below w.heap.size w w3 := b2.trans (c3.mono b2.size)
    go_wp2_with fail
    refine (CI.out _ b3 _ _ _ rfl (hx3.readsT HR.out)).mono ?_
    rintro e w4 (⟨rfl, hans, hb4⟩ | ⟨g, rfl, hg, hroom, hans, hb4⟩)
    · have HANS := put hans
      rw [hans] at rw0 ⊢
      simp only at rw0 ⊢
      obtain ⟨m, hm⟩ : ∃ m, ([] : List Token).length = m := ⟨_, rfl⟩
      rw [hm] at rw0 ⊢
      obtain rfl : 0 = m := by simpa using hm
      clear hm hans
      have c4 : Below w2.heap.size w2 w4 := c3.trans (hb4.mono c3.size)
      have hx4 := hx3.below hb4 hx3.lt
      clear hb4 hx3 c3 b3
      have d4 : Below w.heap.size w w4 := b2.trans (c4.mono b2.size)
      go_wp2_with fail
      refine (eqIns_same none Aw 0 0 cw [] w4 (readsT_nil0 _ _) ((rw0.below c4).more c4.size) (by omega)).mono ?_
      rintro e w5 ⟨rfl, hb5⟩
      have c5 : Below w2.heap.size w2 w5 := c4.trans (hb5.mono c4.size)
      have d5 : Below w.heap.size w w5 := b2.trans (c5.mono b2.size)
      have hx5 := hx4.below hb5 hx4.lt
      clear hb5 hx4 c4 d4 
      go_wp2_with fail
      refine (toToks_any A0 n0 c0 ts0 _ ((r0.below d5).more d5.size) h0).mono ?_
      rintro e w6 ⟨rfl, hy6, hb6⟩
      have c6 : Below w2.heap.size w2 w6 := c5.trans (hb6.mono c5.size)
      have hx6 := hx5.below hb6 hx5.lt
      clear hb6 hx5 c5 d5 
      go_wp2_with fail
      refine (eqToks_same _ _ _ _ _ ts0 _ (hx6.readsT HR.out) (hy6.readsT HR.out) h0).mono ?_
      rintro e w7 ⟨rfl, hb7⟩
      have c7 : Below w2.heap.size w2 w7 := c6.trans (hb7.mono c6.size)
      have hx7 := hx6.below hb7 hx6.lt
      clear hb7 hx6 c6 hy6 
      go_wp2_with fail
      refine (mark_any w2.heap.size n0 _ w7 hx7 h0).mono ?_
      rintro e w8 ⟨rfl, hx8, hg8⟩
      have c8 : Below w2.heap.size w2 w8 := c7.trans ((Below.refl w2.heap.size w7).grown hg8 c7.size (fun j hj => by injection hj with hj; omega))
      clear hg8 hx7 c7 hx8 
      have hk0 : (0 : Int) ≤ 2 * (n0 : Int) + 1 := by omega
      generalize 2 * (n0 : Int) + 1 = kk at hk0 ⊢
      go_wp2_with fail
      refine (eqIns_same none Aw 0 0 cw [] w8 (readsT_nil0 _ _) ((rw0.below c8).more c8.size) (by omega)).mono ?_
      rintro e w9 ⟨rfl, hb9⟩
      have c9 : Below w2.heap.size w2 w9 := c8.trans (hb9.mono c8.size)
      clear hb9 c8 
      go_wp2_with fail
      refine (markI_nil w9).mono ?_
      rintro e w10 ⟨rfl, rfl⟩
      have c10 := c9
      go_wp2_with fail
      refine (heldI_nil w9).mono ?_
      rintro e w11 ⟨rfl, rfl⟩
      have d10 : Below w.heap.size w w9 := b2.trans (c10.mono b2.size)
      go_wp2_with fail
      refine (toToks_any A0 n0 c0 ts0 _ ((r0.below d10).more d10.size) h0).mono ?_
      rintro e w12 ⟨rfl, hy12, hb12⟩
      have c12 : Below w2.heap.size w2 w12 := c10.trans (hb12.mono c10.size)
      have d12 : Below w.heap.size w w12 := b2.trans (c12.mono b2.size)
      clear hb12 c10 d10 
      go_wp2_with fail
      refine (CI.out _ d12 _ _ _ rfl (hy12.readsT HR.out)).mono ?_
      rintro e w13 (⟨rfl, hans, hb13⟩ | ⟨g', rfl, _, hroom', hans, hb13⟩)
      · clear hans
        have c13 : Below w2.heap.size w2 w13 := c12.trans (hb13.mono c12.size)
        go_wp2_with fail
        refine (eqIns_same none Aw 0 0 cw [] w13 (readsT_nil0 _ _) ((rw0.below c13).more c13.size) (by omega)).mono ?_
        rintro e w14 ⟨rfl, hb14⟩
        have c14 : Below w2.heap.size w2 w14 := c13.trans (hb14.mono c13.size)
        go_wp2_with fail
        refine (heldI_nil w14).mono ?_
        rintro e w15 ⟨rfl, rfl⟩
        go_wp2
        go_ret
        exact ⟨rfl, b2.trans (c14.mono b2.size)⟩
      · exact absurd (hans.symm.trans HANS.out) (by simp)
    · have HANS := put hans
      rw [hans] at rw0 ⊢
      simp only at rw0 ⊢
      obtain ⟨m, hm⟩ : ∃ m, (lowE ts0).length = m := ⟨_, rfl⟩
      rw [hm] at rw0 ⊢
      obtain rfl : n0 = m := by rw [lowE_length] at hm; have := HR.out; omega
      clear hm hans
      have c4 : Below w2.heap.size w2 w4 := c3.trans (hb4.mono c3.size)
      have hx4 := hx3.below hb4 hx3.lt
      have hg3 : w2.heap.size < g := by have := hx3.lt; omega
      have HLE := put (show (lowE ts0).length = n0 by rw [lowE_length]; exact HR.out)
      have r4 := hroom
      clear hb4 hx3 c3 b3
      have d4 : Below w.heap.size w w4 := b2.trans (c4.mono b2.size)
      go_wp2_with fail
      refine (eqIns_same (some ⟨g, 0, none⟩) Aw n0 n0 cw (lowE ts0) w4 (r4.readsT HLE.out) ((rw0.below c4).more c4.size) (by omega)).mono ?_
      rintro e w5 ⟨rfl, hb5⟩
      have c5 : Below w2.heap.size w2 w5 := c4.trans (hb5.mono c4.size)
      have d5 : Below w.heap.size w w5 := b2.trans (c5.mono b2.size)
      have hx5 := hx4.below hb5 hx4.lt
      have r5 := r4.below hb5 r4.lt
      clear hb5 hx4 c4 d4 r4
      go_wp2_with fail
      refine (toToks_any A0 n0 c0 ts0 _ ((r0.below d5).more d5.size) h0).mono ?_
      rintro e w6 ⟨rfl, hy6, hb6⟩
      have c6 : Below w2.heap.size w2 w6 := c5.trans (hb6.mono c5.size)
      have hx6 := hx5.below hb6 hx5.lt
      have r6 := r5.below hb6 r5.lt
      clear hb6 hx5 c5 d5 r5
      go_wp2_with fail
      refine (eqToks_same _ _ _ _ _ ts0 _ (hx6.readsT HR.out) (hy6.readsT HR.out) h0).mono ?_
      rintro e w7 ⟨rfl, hb7⟩
      have c7 : Below w2.heap.size w2 w7 := c6.trans (hb7.mono c6.size)
      have hx7 := hx6.below hb7 hx6.lt
      have r7 := r6.below hb7 r6.lt
      clear hb7 hx6 c6 hy6 r6
      go_wp2_with fail
      refine (mark_any w2.heap.size n0 _ w7 hx7 h0).mono ?_
      rintro e w8 ⟨rfl, hx8, hg8⟩
      have c8 : Below w2.heap.size w2 w8 := c7.trans ((Below.refl w2.heap.size w7).grown hg8 c7.size (fun j hj => by injection hj with hj; omega))
      have r8 := room_grown r7 hg8 (by omega)
      clear hg8 hx7 c7 hx8 r7
      have hk0 : (0 : Int) ≤ 2 * (n0 : Int) + 1 := by omega
      generalize 2 * (n0 : Int) + 1 = kk at hk0 ⊢
      go_wp2_with fail
      refine (eqIns_same (some ⟨g, 0, none⟩) Aw n0 n0 cw (lowE ts0) w8 (r8.readsT HLE.out) ((rw0.below c8).more c8.size) (by omega)).mono ?_
      rintro e w9 ⟨rfl, hb9⟩
      have c9 : Below w2.heap.size w2 w9 := c8.trans (hb9.mono c8.size)
      have r9 := r8.below hb9 r8.lt
      clear hb9 c8 r8
      go_wp2_with fail
      refine (markI_any g n0 _ w9 r9 h0).mono ?_
      rintro e w10 ⟨rfl, r10, hg10⟩
      have c10 : Below w2.heap.size w2 w10 := c9.trans ((Below.refl w2.heap.size w9).grown hg10 c9.size (fun j hj => by injection hj with hj; omega))
      clear hg10 r9 c9
      go_wp2_with fail
      refine (heldI_any g n0 w10 r10 h0).mono ?_
      rintro e w11 ⟨rfl, rfl⟩
      have hm0 : (0 : Int) ≤ 2 * (n0 : Int) + 1 := by omega
      have HMM := put (heldI_any g n0)
      have d10 : Below w.heap.size w w10 := b2.trans (c10.mono b2.size)
      go_wp2_with fail
      refine (toToks_any A0 n0 c0 ts0 _ ((r0.below d10).more d10.size) h0).mono ?_
      rintro e w12 ⟨rfl, hy12, hb12⟩
      have c12 : Below w2.heap.size w2 w12 := c10.trans (hb12.mono c10.size)
      have d12 : Below w.heap.size w w12 := b2.trans (c12.mono b2.size)
      have r12 := r10.below hb12 r10.lt
      clear hb12 c10 d10 r10
      go_wp2_with fail
      refine (CI.out _ d12 _ _ _ rfl (hy12.readsT HR.out)).mono ?_
      rintro e w13 (⟨rfl, hans, hb13⟩ | ⟨g', rfl, _, hroom', hans, hb13⟩)
      · exact absurd (hans.symm.trans HANS.out) (by simp)
      · clear hans
        have c13 : Below w2.heap.size w2 w13 := c12.trans (hb13.mono c12.size)
        have r13 := r12.below hb13 r12.lt
        go_wp2_with fail
        refine (eqIns_same (some ⟨g', 0, none⟩) Aw n0 n0 cw (lowE ts0) w13 (hroom'.readsT HLE.out) ((rw0.below c13).more c13.size) (by omega)).mono ?_
        rintro e w14 ⟨rfl, hb14⟩
        have c14 : Below w2.heap.size w2 w14 := c13.trans (hb14.mono c13.size)
        have r14 := r13.below hb14 r13.lt
        go_wp2_with fail
        refine (heldI_any g n0 w14 r14 h0).mono ?_
        rintro e w15 ⟨rfl, rfl⟩
        go_wp2
        go_ret
        exact ⟨rfl, b2.trans (c14.mono b2.size)⟩

/-- The world that the program's own start leaves. -/
noncomputable def startWorld (os : Os) : World := World.doorLaid Tryd.prog 70 os
theorem start_met (os : Os) (args : Array Value) : laidMetH Tryd.prog Rows.fnExactLowerExprRow.laid ((startWorld os).forCall (fun _ _ => 0) ⟨#[], args, []⟩).memory :=
  laidMetH_of_parts3 (fuel := 8) (laidMet_of_run' 8 (by kernel_rfl) (by kernel_rfl)) (by kernel_rfl) (by kernel_rfl)

/-! From the walk to the given row. -/
set_option maxRecDepth 100000 in
theorem lifted (os : Os) (started : os.Started) (H : Type) (enc : TypeId × Value → H) :
    ReturnsInHanded {} Tryd.checked os 3 .any (fun w args => (Rows.fnExactLowerExprSpec.pre enc Tryd.prog Tryd.f3 [] false w args ∧ laidMetH Tryd.prog Rows.fnExactLowerExprRow.laid w) ∧ sizedMet enc Tryd.prog Tryd.f3 (OpenSpec.ofChange Rows.fnExactLowerExprSpec) false w args) (Rows.fnExactLowerExprSpec.post enc Tryd.prog Tryd.f3 false true false false) := by
  refine returnsInHanded_of_change_and (C := Tryd.checked) (X := fun w _ => laidMetH Tryd.prog Rows.fnExactLowerExprRow.laid w) (fun _ _ _ hh h => h.of_heap hh) own started (by kernel_rfl) Tryd.func3
    (ChangeSpec.witness_shaped (enc := enc) (C := Tryd.checked) (os := os) (X := fun w _ => laidMetH Tryd.prog Rows.fnExactLowerExprRow.laid w) false (startWorld os) #[.slice none 0 0] 8 rfl (World.shaped_of_RefB (by kernel_rfl) (by kernel_rfl)) (by kernel_rfl) (by kernel_rfl) (by kernel_rfl) (start_met os _)) ?_
  intro W base args ds gs before hval0 hW _ _ hL _
  have hval : ∀ (j : Nat) t v, Tryd.f3.params[j]? = some t → args[j]? = some v → Value.okWide Tryd.prog W .any base t v := hval0
  have hW' := hW
  obtain ⟨p, q, hA0, hV, rfl, hfz, hnd⟩ := hW
  have hA : DataW.TrodAll enc Tryd.prog W 0 (fun _ => true) true Tryd.f3.params.toList args.toList ds p := hA0
  rw [Tryd.params3] at hA hval
  obtain ⟨v0, vs0, d0, ds0, p0, q0, hargs, rfl, rfl, h0, r0q⟩ := trodAll_cons hA
  obtain ⟨rfl, rfl, rfl⟩ := trodAll_nil r0q
  obtain rfl : args = #[v0] := by cases args; simp_all
  have k0 := h0
  have lt0 : ∀ x ∈ p0, x.block < W.heap.size := by obtain ⟨m, hm⟩ := k0; exact DataW.trod_lt m _ _ _ hm
  obtain ⟨A0, n0, c0, rfl⟩ := okWide_slice Tryd.underlying22 (hval 0 22 v0 rfl rfl)
  obtain ⟨ts0, r0, l0⟩ := open_readsT Tryd.underlying22 Tryd.underlying40 (by kernel_rfl) rfl rfl (by kernel_rfl) (by kernel_rfl) Tryd.underlying3 Tryd.underlying3 h0
  obtain ⟨g, t, cs, fuel, dg, pg, rfl, hgn, hgt, hgv, hgd, rfl⟩ := trodVars_one (show DataW.TrodVars enc Tryd.prog W (fun _ => true) [_] gs q from hV)
  rw [MakeChecks.laidMetH_plain _ _ _ (by kernel_rfl)] at hL
  have hp := pows_of_laid hL.tail.tail
  have hw := words_of_laid hL.tail.tail.tail
  have hpos : 0 < W.heap.size := World.block_lt_of_cell? W _ (hw 0 (by omega))
  clear hA0 hval0
  refine (walk W A0 n0 c0 ts0 r0 l0 hpos hw hp).mono fun e W' ⟨he, bel⟩ => ?_
  subst he
  exact ⟨_, rfl, _, _, _, [], _, _, hW', trodAll_mk1 (shut_bool Tryd.underlying4 _), (trodAll_cons_mk (Below.trod laidOut (by kernel_rfl) (of_decide_eq_true (by kernel_rfl)) k0 bel lt0) trodAll_mk0), Below.trodVars laidOut bel (by kernel_rfl) hV, bel.frame _, fun h => by cases h⟩

theorem over : Rows.FnExactLowerExprSaid :=
  OpenClaim.holds_of_wide 3 Tryd.f3 rfl rfl rfl rfl rfl rfl rfl ⟨rfl, rfl, rfl, rfl, rfl⟩ rfl rfl rfl rfl rfl (by kernel_rfl) Tryd.func3 (by kernel_rfl)
    (of_decide_eq_true (by kernel_rfl)) (by unfold Func.isWrapper; first | (rw [if_pos (by decide +kernel)]; kernel_rfl) | (rw [if_neg (by decide +kernel)]; exact ⟨rfl, rfl⟩))
    (fun os started H enc _ => lifted os started H enc)

/-- The given statement: the row, its listed variables tied to the program's text. -/
theorem proved : Rows.FnExactLowerExprCardSaid :=
  Claim7.holds_tied_plain_at .later [] [.data, .data, .data, .data] true (true, "fcaf541e57cdbd6b91a91835cd40f18465b8483ca1fef9edc1110d06b4d88874") false
    over (fun _ h => by cases h) (by kernel_rfl) (fun _ h => by cases h) fnExactLowerExpr_row_tie rfl ⟨rfl, rfl⟩ (by kernel_rfl) rfl
    (fun f fn hf hfn => by
      obtain rfl : f = 3 := Option.some.inj ((show Tryd.prog.funcNamed "loop.example/g00745/laws.FnExactLowerExpr" = some 3 by kernel_rfl).symm.trans hf) |>.symm
      obtain rfl : fn = Tryd.f3 := (Option.some.inj (Tryd.func3.symm.trans hfn)).symm
      exact ⟨by kernel_rfl, fun j t ht => by
        rw [Tryd.params3] at ht
        have hm : t ∈ [22] := by
          have := Array.mem_of_getElem? ht
          simpa using this
        simp only [List.mem_cons, List.mem_nil_iff, or_false] at hm
        rcases hm with rfl
        · exact (show Tryd.prog.wantsStandIn 22 = false by kernel_rfl)⟩)
    (by kernel_rfl)
#print axioms proved
end Go.Proofs.YtfdijeeilfhjeaaDoor.fnExactLowerExpr

/-
  The walk of the law FnExprs.
-/
import Derived.Test.YtpknbdaicmacjaaGreatDoorDrawN
import Derived.Test.YtpknbdaicmacjaaGreatDoorIRead
import Derived.Test.YtpknbdaicmacjaaGreatDoorHigh
namespace Go.Proofs.YtpknbdaicmacjaaGreatDoor
open Go.RowKit Exs

/-- The tables that the program reads. -/
def Tabs (w : World) : Prop := 3 < w.heap.size ∧ Words w ∧ Pows w.heap.size w ∧ Errs w
theorem Tabs.below {w w' : World} (h : Tabs w) (hb : Below w.heap.size w w') : Tabs w' :=
  ⟨Nat.lt_of_lt_of_le h.1 hb.size, h.2.1.below hb (by have := h.1; omega), Lib.tabBelow_of_tabIs (h.2.2.1 _ hb), h.2.2.2.below hb h.1⟩

theorem text_yes {ts : List Token} {l : List UInt8} (h : textAns ts = (l, true)) : l = textL ts ∧ (∀ t ∈ ts, goodTok t) ∧ 1 ≤ ts.length ∧ ts.length ≤ 12 := by
  unfold textAns at h
  split at h
  · rename_i hg
    rw [Bool.and_eq_true] at hg
    have hw := (within_iff _ _ _).1 hg.2
    injection h with h1 _
    exact ⟨h1.symm, fun t ht => by have := List.all_eq_true.1 hg.1 t ht; unfold tokB at this; exact of_decide_eq_true this, by omega, by omega⟩
  · injection h with _ h2; cases h2
theorem text_back {ts : List Token} {l : List UInt8} (h : textAns ts = (l, true)) (hl : l.length ≤ 200) : readAns l = (ts, true) := by
  obtain ⟨rfl, h1, h2, h3⟩ := text_yes h
  exact readAns_some (readL_textL h1 h2 h3 hl)
theorem text_again {ts : List Token} {l : List UInt8} (h : readAns l = (ts, true)) : textAns ts = (l, true) := by
  unfold readAns at h
  split at h
  · rename_i e he
    injection h with h1 _
    subst h1
    obtain ⟨h1, h2, h3, h4, _⟩ := readL_some he
    rw [textAns_yes (List.all_eq_true.2 fun t ht => by unfold tokB; exact decide_eq_true (h1 t ht)) ((within_iff _ _ _).2 (by omega)), h4]
  · injection h with _ h2; cases h2
theorem high_told (ts : List Token) : (highAns ts 6 [1, 0, 2]).2 = true → 1 ≤ (highAns ts 6 [1, 0, 2]).1 ∧ (highAns ts 6 [1, 0, 2]).1 ≤ ts.length := by
  intro h
  have hp : parB [1, 0, 2] = true := by decide
  rw [highAns_is (by omega) (by omega) hp] at h
  have hh := of_decide_eq_true h
  have := high_pos (vars := 6) (ps := [1, 0, 2]) (by decide) (e := ts) hh
  have h2 := (highAns_yes (ts := ts) (vars := 6) (ps := [1, 0, 2]) (by rw [highAns_is (by omega) (by omega) hp]; exact h)).1
  rw [h2]
  exact ⟨by show (1 : Int) ≤ high 6 [1, 0, 2] ts; omega, this.2.2.2⟩

set_option maxHeartbeats 8000000 in
set_option maxRecDepth 100000 in
theorem exprs_walk (A A' : Option Addr) (n n' c c' : Nat) (bs bs' : List Int) (w : World) (hr : Reads w w.heap.size .u8 A n bs) (hr' : Reads w w.heap.size .u8 A' n' bs') (hbs : Hid (∀ x ∈ bs, 0 ≤ x ∧ x ≤ 255)) (hbs' : Hid (∀ x ∈ bs', 0 ≤ x ∧ x ≤ 255)) (hn : n + n' ≤ 1048576) (T0 : Hid (Tabs w)) :
    Calls Tryz.prog 3 #[.slice A n c, .slice A' n' c'] w fun e w' => e = .returned (.bool true) ∧ Below w.heap.size w w' := by
  go_enter Tryz.func3, Tryz.ntmps3
  go_wp2_with fail
  refine (big_no A A' n n' c c' _ hn).mono ?_
  rintro e w0 ⟨rfl, rfl⟩
  go_wp2_with fail
  refine (drawExprText_any A n c bs _ hr hbs (by omega)).mono ?_
  rintro e w1 ⟨A1, m1, c1, ts, rfl, hr1, hm1, hb1⟩
  have T1 := put (T0.out.below hb1)
  clear T0
  go_wp2_with fail
  refine (exprText_any A1 m1 c1 ts _ hr1 (by omega) (by have := T1.out.1; omega) T1.out.2.1 T1.out.2.2.1).mono ?_
  rintro e w2 ⟨rfl, hb2⟩
  have hr2 := (hr1.below hb2).more hb2.size
  have B2 := hb1.trans (hb2.mono hb1.size)
  have T2 := put (T1.out.below hb2)
  clear hr1 hb1 hb2 T1
  go_wp2_with fail
  refine (specExprText_any A1 m1 c1 ts _ hr2 (by omega)).mono ?_
  rintro e w3 ⟨rfl, hb3⟩
  have hr3 := (hr2.below hb3).more hb3.size
  have B3 := B2.trans (hb3.mono B2.size)
  have T3 := put (T2.out.below hb3)
  have HQ : Hid (textAns ts = ((textAns ts).1, (textAns ts).2)) := rfl
  generalize (textAns ts).1 = l at HQ ⊢
  generalize (textAns ts).2 = b at HQ ⊢
  have hsz := put (strB_size l)
  clear hr2 hb3 B2 T2
  cases b with
  | false =>
    have hp0 := (hr'.below B3).more B3.size
    go_wp2_with fail
    refine (drawReadExpr_any A' n' c' bs' _ hp0 hbs' (by omega)).mono ?_
    rintro e w6 ⟨l2, rfl, hl2, hb6⟩
    have B6 := B3.trans (hb6.mono B3.size)
    have T6 := put (T3.out.below hb6)
    clear hp0 hb6 B3 T3
    go_wp2_with fail
    refine (readExpr_any l2 _ (by omega) T6.out.1 T6.out.2.1 T6.out.2.2.1 T6.out.2.2.2).mono ?_
    rintro e w7 (⟨rfl, hno, hb7⟩ | ⟨g7, n7, ts7, rfl, hg7, hrm7, hl7, hn7, hyes, hb7⟩)
    · have B7 := B6.trans (hb7.mono B6.size)
      have T7 := put (T6.out.below hb7)
      clear hb7 B6 T6
      go_wp2_with fail
      refine (specReadExpr_any l2 _ (by omega)).mono ?_
      rintro e w8 ⟨A8, n8, c8, b8, ts8, rfl, hr8, hn8, hans, hb8⟩
      have B8 := B7.trans (hb8.mono B7.size)
      have T8 := put (T7.out.below hb8)
      clear hb8 B7 T7
      obtain ⟨rfl, rfl⟩ : ts8 = [] ∧ b8 = false := by have := hans.out; rw [hno.out] at this; injection this with h1 h2; exact ⟨h1.symm, h2.symm⟩
      obtain rfl : n8 = 0 := hr8.1.symm
      go_wp2_with fail
      refine (sameToks_same none A8 0 0 c8 [] _ (readsT_nil _ _) hr8 (by omega)).mono ?_
      rintro e w9 ⟨rfl, q2, rfl⟩
      have B9 : Below w.heap.size w (w8.drewN q2) := below_drewN B8 q2
      have T9 := put (T8.out.below (below_drewN (Below.refl _ _) q2))
      clear hr8 hans hno B8 T8
      have hq0 := (hr'.below B9).more B9.size
      go_wp2_with fail
      refine (drawHighOf_any A' n' c' bs' _ hq0 hbs' (by omega)).mono ?_
      rintro e v1 ⟨A3, m3, c3, ts3, p3, rfl, hd1, hd2, hd3, hv1⟩
      have Z1 := B9.trans (hv1.mono B9.size)
      have HF := put (high_told ts3)
      have HM := put hd1.1
      clear hq0 hv1 B9 T9
      go_wp2_with fail
      refine (highOf_any A3 m3 c3 ts3 (some ⟨p3, 0, none⟩) 3 3 [1, 0, 2] _ hd1 hd3 (by omega) (by omega)).mono ?_
      rintro e v2 ⟨rfl, hv2⟩
      have Z2 := Z1.trans (hv2.mono Z1.size)
      have hd1' := (hd1.below hv2).more hv2.size
      have hd3' := (hd3.below hv2).more hv2.size
      clear hd1 hd3 hv2 Z1
      go_wp2_with fail
      refine (specHighOf_any A3 m3 c3 ts3 (some ⟨p3, 0, none⟩) 3 3 [1, 0, 2] _ hd1' hd3' (by omega) (by omega)).mono ?_
      rintro e v3 ⟨rfl, hv3⟩
      have Z3 := Z2.trans (hv3.mono Z2.size)
      generalize (highAns ts3 6 [1, 0, 2]).1 = hi at HF ⊢
      generalize (highAns ts3 6 [1, 0, 2]).2 = hb at HF ⊢
      have hq3 := (hr'.below Z3).more Z3.size
      clear hd1' hd3' hv3 Z2
      go_wp2_with fail
      refine (drawGoodExpr_any A' n' c' bs' _ hq3 hbs' (by omega)).mono ?_
      rintro e v4 ⟨A4, m4, c4, ts4, x4, p4, rfl, hf1, hf2, hf3, hv4⟩
      have Z4 := Z3.trans (hv4.mono Z3.size)
      have hq4 := (hr'.below Z4).more Z4.size
      clear hv4 hq3 Z3
      go_wp2_with fail
      refine (drawNeedsOf_any A' n' c' bs' _ hq4 hbs' (by omega)).mono ?_
      rintro e v5 ⟨op, x5, p5, m5, ps, rfl, hg5, hm5, hv5⟩
      have Z5 := Z4.trans (hv5.mono Z4.size)
      have hf1' := (hf1.below hv5).more hv5.size
      have hf3' := (hf3.below hv5).more hv5.size
      have a5 : Below v5.heap.size v5 (v5.alloc (Obj.cells #[Value.int IntKind.i64 op, Value.int IntKind.i64 x5] 40)) := (Below.refl _ _).alloc (Nat.le_refl _) _
      have hg5' : Reads (v5.alloc (Obj.cells #[Value.int IntKind.i64 op, Value.int IntKind.i64 x5] 40)) (v5.alloc (Obj.cells #[Value.int IntKind.i64 op, Value.int IntKind.i64 x5] 40)).heap.size .i64 (some ⟨p5, 0, none⟩) m5 ps := (hg5.below a5).more a5.size
      have hf1a := (hf1'.below a5).more a5.size
      have hf3a := (hf3'.below a5).more a5.size
      clear hf1 hf3 hf1' hf3' hg5 hv5 hq4 Z4
      go_wp2_with fail
      refine (needsOf_any op x5 (some ⟨p5, 0, none⟩) m5 3 ps _ hg5' (by omega)).mono ?_
      rintro e v6 ⟨rfl, hv6⟩
      have hcell := fun j => hv6.cell (p := ⟨v5.heap.size, j, none⟩) (by simp)
      have Z6 := (Z5.trans (a5.mono Z5.size)).trans (hv6.mono (Nat.le_trans Z5.size a5.size))
      have hg6 := (hg5'.below hv6).more hv6.size
      have hf16 := (hf1a.below hv6).more hv6.size
      have hf36 := (hf3a.below hv6).more hv6.size
      clear hf1a hf3a hg5' hv6
      go_wp2_with fail
      refine (specNeedsOf_any op x5 (some ⟨p5, 0, none⟩) m5 3 ps _ hg6 (by omega)).mono ?_
      rintro e v7 ⟨rfl, hv7⟩
      have Z7 := Z6.trans (hv7.mono Z6.size)
      have hf17 := (hf16.below hv7).more hv7.size
      have hf37 := (hf36.below hv7).more hv7.size
      generalize (needsAns ps op x5).1 = nn
      generalize (needsAns ps op x5).2 = nb
      clear hcell hf16 hf36 hg6 hv7 Z6 a5 Z5
      cases hb with
      | false =>
        go_wp2_with fail
        refine (goodExpr_any A4 m4 c4 ts4 x4 (some ⟨p4, 0, none⟩) 3 3 [1, 0, 2] _ hf17 hf37 (by omega) (by omega)).mono ?_
        rintro e v8 ⟨rfl, hv8⟩
        have Z8 := Z7.trans (hv8.mono Z7.size)
        have hf18 := (hf17.below hv8).more hv8.size
        have hf38 := (hf37.below hv8).more hv8.size
        clear hf17 hf37 hv8
        go_wp2_with fail
        refine (specGoodExpr_any A4 m4 c4 ts4 x4 (some ⟨p4, 0, none⟩) 3 3 [1, 0, 2] _ hf18 hf38 (by omega) (by omega)).mono ?_
        rintro e v9 ⟨rfl, hv9⟩
        have Z9 := Z8.trans (hv9.mono Z8.size)
        generalize (highAns ts4 x4 [1, 0, 2]).2 = gb
        clear hf18 hf38 hv9
        go_wp2
        go_ret
        exact ⟨rfl, Z9⟩
      | true =>
        have hh := HF.out rfl
        rw [HM.out] at hh
        have b1 : decide ((1 : Int) ≤ hi) = true := by simpa using hh.1
        have b2 : decide (hi ≤ (m3 : Int)) = true := by simpa using hh.2
        go_wp2_with fail
        refine (goodExpr_any A4 m4 c4 ts4 x4 (some ⟨p4, 0, none⟩) 3 3 [1, 0, 2] _ hf17 hf37 (by omega) (by omega)).mono ?_
        rintro e v8 ⟨rfl, hv8⟩
        have Z8 := Z7.trans (hv8.mono Z7.size)
        have hf18 := (hf17.below hv8).more hv8.size
        have hf38 := (hf37.below hv8).more hv8.size
        clear hf17 hf37 hv8
        go_wp2_with fail
        refine (specGoodExpr_any A4 m4 c4 ts4 x4 (some ⟨p4, 0, none⟩) 3 3 [1, 0, 2] _ hf18 hf38 (by omega) (by omega)).mono ?_
        rintro e v9 ⟨rfl, hv9⟩
        have Z9 := Z8.trans (hv9.mono Z8.size)
        generalize (highAns ts4 x4 [1, 0, 2]).2 = gb
        clear hf18 hf38 hv9
        go_wp2
        go_ret
        exact ⟨rfl, Z9⟩
    · have B7 := B6.trans (hb7.mono B6.size)
      have T7 := put (T6.out.below hb7)
      have hr7 := hrm7.readsT hl7
      have HX := put (text_again hyes.out)
      clear hb7 B6 T6 hrm7
      go_wp2_with fail
      refine (specReadExpr_any l2 _ (by omega)).mono ?_
      rintro e w8 ⟨A8, n8, c8, b8, ts8, rfl, hr8, hn8, hans, hb8⟩
      have B8 := B7.trans (hb8.mono B7.size)
      have T8 := put (T7.out.below hb8)
      have hr78 := (hr7.below hb8).more hb8.size
      clear hb8 B7 T7 hr7
      obtain ⟨rfl, rfl⟩ : ts7 = ts8 ∧ b8 = true := by have := hans.out; rw [hyes.out] at this; injection this with h1 h2; exact ⟨h1, h2.symm⟩
      obtain rfl : n7 = n8 := hl7.symm.trans hr8.1
      clear hyes hans
      go_wp2_with fail
      refine (sameToks_same (some ⟨g7, 0, none⟩) A8 n7 n7 c8 ts7 _ hr78 hr8 (by omega)).mono ?_
      rintro e w9 ⟨rfl, q2, rfl⟩
      have B9 : Below w.heap.size w (w8.drewN q2) := below_drewN B8 q2
      have T9 := put (T8.out.below (below_drewN (Below.refl _ _) q2))
      have hr79 : ReadsT (w8.drewN q2) (w8.drewN q2).heap.size (some ⟨g7, 0, none⟩) n7 ts7 := hr78
      clear hr8 B8 T8 hr78
      go_wp2_with fail
      refine (exprText_any (some ⟨g7, 0, none⟩) n7 n7 ts7 _ hr79 (by omega) (by have := T9.out.1; omega) T9.out.2.1 T9.out.2.2.1).mono ?_
      rintro e wa ⟨rfl, hba⟩
      have Ba := B9.trans (hba.mono B9.size)
      have Ta := put (T9.out.below hba)
      rw [HX.out]
      dsimp only
      clear hba B9 T9 hr79 HX
      have hq0 := (hr'.below Ba).more Ba.size
      go_wp2_with fail
      refine (drawHighOf_any A' n' c' bs' _ hq0 hbs' (by omega)).mono ?_
      rintro e v1 ⟨A3, m3, c3, ts3, p3, rfl, hd1, hd2, hd3, hv1⟩
      have Z1 := Ba.trans (hv1.mono Ba.size)
      have HF := put (high_told ts3)
      have HM := put hd1.1
      clear hq0 hv1 Ba Ta
      go_wp2_with fail
      refine (highOf_any A3 m3 c3 ts3 (some ⟨p3, 0, none⟩) 3 3 [1, 0, 2] _ hd1 hd3 (by omega) (by omega)).mono ?_
      rintro e v2 ⟨rfl, hv2⟩
      have Z2 := Z1.trans (hv2.mono Z1.size)
      have hd1' := (hd1.below hv2).more hv2.size
      have hd3' := (hd3.below hv2).more hv2.size
      clear hd1 hd3 hv2 Z1
      go_wp2_with fail
      refine (specHighOf_any A3 m3 c3 ts3 (some ⟨p3, 0, none⟩) 3 3 [1, 0, 2] _ hd1' hd3' (by omega) (by omega)).mono ?_
      rintro e v3 ⟨rfl, hv3⟩
      have Z3 := Z2.trans (hv3.mono Z2.size)
      generalize (highAns ts3 6 [1, 0, 2]).1 = hi at HF ⊢
      generalize (highAns ts3 6 [1, 0, 2]).2 = hb at HF ⊢
      have hq3 := (hr'.below Z3).more Z3.size
      clear hd1' hd3' hv3 Z2
      go_wp2_with fail
      refine (drawGoodExpr_any A' n' c' bs' _ hq3 hbs' (by omega)).mono ?_
      rintro e v4 ⟨A4, m4, c4, ts4, x4, p4, rfl, hf1, hf2, hf3, hv4⟩
      have Z4 := Z3.trans (hv4.mono Z3.size)
      have hq4 := (hr'.below Z4).more Z4.size
      clear hv4 hq3 Z3
      go_wp2_with fail
      refine (drawNeedsOf_any A' n' c' bs' _ hq4 hbs' (by omega)).mono ?_
      rintro e v5 ⟨op, x5, p5, m5, ps, rfl, hg5, hm5, hv5⟩
      have Z5 := Z4.trans (hv5.mono Z4.size)
      have hf1' := (hf1.below hv5).more hv5.size
      have hf3' := (hf3.below hv5).more hv5.size
      have a5 : Below v5.heap.size v5 (v5.alloc (Obj.cells #[Value.int IntKind.i64 op, Value.int IntKind.i64 x5] 40)) := (Below.refl _ _).alloc (Nat.le_refl _) _
      have hg5' : Reads (v5.alloc (Obj.cells #[Value.int IntKind.i64 op, Value.int IntKind.i64 x5] 40)) (v5.alloc (Obj.cells #[Value.int IntKind.i64 op, Value.int IntKind.i64 x5] 40)).heap.size .i64 (some ⟨p5, 0, none⟩) m5 ps := (hg5.below a5).more a5.size
      have hf1a := (hf1'.below a5).more a5.size
      have hf3a := (hf3'.below a5).more a5.size
      clear hf1 hf3 hf1' hf3' hg5 hv5 hq4 Z4
      go_wp2_with fail
      refine (needsOf_any op x5 (some ⟨p5, 0, none⟩) m5 3 ps _ hg5' (by omega)).mono ?_
      rintro e v6 ⟨rfl, hv6⟩
      have hcell := fun j => hv6.cell (p := ⟨v5.heap.size, j, none⟩) (by simp)
      have Z6 := (Z5.trans (a5.mono Z5.size)).trans (hv6.mono (Nat.le_trans Z5.size a5.size))
      have hg6 := (hg5'.below hv6).more hv6.size
      have hf16 := (hf1a.below hv6).more hv6.size
      have hf36 := (hf3a.below hv6).more hv6.size
      clear hf1a hf3a hg5' hv6
      go_wp2_with fail
      refine (specNeedsOf_any op x5 (some ⟨p5, 0, none⟩) m5 3 ps _ hg6 (by omega)).mono ?_
      rintro e v7 ⟨rfl, hv7⟩
      have Z7 := Z6.trans (hv7.mono Z6.size)
      have hf17 := (hf16.below hv7).more hv7.size
      have hf37 := (hf36.below hv7).more hv7.size
      generalize (needsAns ps op x5).1 = nn
      generalize (needsAns ps op x5).2 = nb
      clear hcell hf16 hf36 hg6 hv7 Z6 a5 Z5
      cases hb with
      | false =>
        go_wp2_with fail
        refine (goodExpr_any A4 m4 c4 ts4 x4 (some ⟨p4, 0, none⟩) 3 3 [1, 0, 2] _ hf17 hf37 (by omega) (by omega)).mono ?_
        rintro e v8 ⟨rfl, hv8⟩
        have Z8 := Z7.trans (hv8.mono Z7.size)
        have hf18 := (hf17.below hv8).more hv8.size
        have hf38 := (hf37.below hv8).more hv8.size
        clear hf17 hf37 hv8
        go_wp2_with fail
        refine (specGoodExpr_any A4 m4 c4 ts4 x4 (some ⟨p4, 0, none⟩) 3 3 [1, 0, 2] _ hf18 hf38 (by omega) (by omega)).mono ?_
        rintro e v9 ⟨rfl, hv9⟩
        have Z9 := Z8.trans (hv9.mono Z8.size)
        generalize (highAns ts4 x4 [1, 0, 2]).2 = gb
        clear hf18 hf38 hv9
        go_wp2
        go_ret
        exact ⟨rfl, Z9⟩
      | true =>
        have hh := HF.out rfl
        rw [HM.out] at hh
        have b1 : decide ((1 : Int) ≤ hi) = true := by simpa using hh.1
        have b2 : decide (hi ≤ (m3 : Int)) = true := by simpa using hh.2
        go_wp2_with fail
        refine (goodExpr_any A4 m4 c4 ts4 x4 (some ⟨p4, 0, none⟩) 3 3 [1, 0, 2] _ hf17 hf37 (by omega) (by omega)).mono ?_
        rintro e v8 ⟨rfl, hv8⟩
        have Z8 := Z7.trans (hv8.mono Z7.size)
        have hf18 := (hf17.below hv8).more hv8.size
        have hf38 := (hf37.below hv8).more hv8.size
        clear hf17 hf37 hv8
        go_wp2_with fail
        refine (specGoodExpr_any A4 m4 c4 ts4 x4 (some ⟨p4, 0, none⟩) 3 3 [1, 0, 2] _ hf18 hf38 (by omega) (by omega)).mono ?_
        rintro e v9 ⟨rfl, hv9⟩
        have Z9 := Z8.trans (hv9.mono Z8.size)
        generalize (highAns ts4 x4 [1, 0, 2]).2 = gb
        clear hf18 hf38 hv9
        go_wp2
        go_ret
        exact ⟨rfl, Z9⟩
  | true =>
    by_cases hl : l.length ≤ 200
    · have b1 : decide (((strB l).size : Int) ≤ 200) = true := by rw [hsz.out]; simp; omega
      go_wp2_with fail
      refine (readExpr_any l _ (by omega) T3.out.1 T3.out.2.1 T3.out.2.2.1 T3.out.2.2.2).mono ?_
      rintro e w4 (⟨rfl, hno, hb4⟩ | ⟨g4, n4, ts4, rfl, hg4, hrm4, hl4, hn4, hyes, hb4⟩)
      · exfalso
        have := hno.out
        rw [text_back HQ.out hl] at this
        injection this with _ h2
        cases h2
      · have B4 := B3.trans (hb4.mono B3.size)
        have T4 := put (T3.out.below hb4)
        have hr4 := (hr3.below hb4).more hb4.size
        have hr4' := hrm4.readsT hl4
        obtain rfl : ts = ts4 := by have := hyes.out; rw [text_back HQ.out hl] at this; injection this with h1 _
        obtain rfl : m1 = n4 := hr3.1.symm.trans hl4
        clear hb4 B3 T3 hr3 hrm4 hyes HQ
        go_wp2_with fail
        refine (sameToks_same (some ⟨g4, 0, none⟩) A1 m1 m1 c1 ts _ hr4' hr4 (by omega)).mono ?_
        rintro e w5 ⟨rfl, q, rfl⟩
        have B5 : Below w.heap.size w (w4.drewN q) := below_drewN B4 q
        have T5 := put (T4.out.below (below_drewN (Below.refl _ _) q))
        clear hr4 hr4' B4 T4
        have hp0 := (hr'.below B5).more B5.size
        go_wp2_with fail
        refine (drawReadExpr_any A' n' c' bs' _ hp0 hbs' (by omega)).mono ?_
        rintro e w6 ⟨l2, rfl, hl2, hb6⟩
        have B6 := B5.trans (hb6.mono B5.size)
        have T6 := put (T5.out.below hb6)
        clear hp0 hb6 B5 T5
        go_wp2_with fail
        refine (readExpr_any l2 _ (by omega) T6.out.1 T6.out.2.1 T6.out.2.2.1 T6.out.2.2.2).mono ?_
        rintro e w7 (⟨rfl, hno, hb7⟩ | ⟨g7, n7, ts7, rfl, hg7, hrm7, hl7, hn7, hyes, hb7⟩)
        · have B7 := B6.trans (hb7.mono B6.size)
          have T7 := put (T6.out.below hb7)
          clear hb7 B6 T6
          go_wp2_with fail
          refine (specReadExpr_any l2 _ (by omega)).mono ?_
          rintro e w8 ⟨A8, n8, c8, b8, ts8, rfl, hr8, hn8, hans, hb8⟩
          have B8 := B7.trans (hb8.mono B7.size)
          have T8 := put (T7.out.below hb8)
          clear hb8 B7 T7
          obtain ⟨rfl, rfl⟩ : ts8 = [] ∧ b8 = false := by have := hans.out; rw [hno.out] at this; injection this with h1 h2; exact ⟨h1.symm, h2.symm⟩
          obtain rfl : n8 = 0 := hr8.1.symm
          go_wp2_with fail
          refine (sameToks_same none A8 0 0 c8 [] _ (readsT_nil _ _) hr8 (by omega)).mono ?_
          rintro e w9 ⟨rfl, q2, rfl⟩
          have B9 : Below w.heap.size w (w8.drewN q2) := below_drewN B8 q2
          have T9 := put (T8.out.below (below_drewN (Below.refl _ _) q2))
          clear hr8 hans hno B8 T8
          have hq0 := (hr'.below B9).more B9.size
          go_wp2_with fail
          refine (drawHighOf_any A' n' c' bs' _ hq0 hbs' (by omega)).mono ?_
          rintro e v1 ⟨A3, m3, c3, ts3, p3, rfl, hd1, hd2, hd3, hv1⟩
          have Z1 := B9.trans (hv1.mono B9.size)
          have HF := put (high_told ts3)
          have HM := put hd1.1
          clear hq0 hv1 B9 T9
          go_wp2_with fail
          refine (highOf_any A3 m3 c3 ts3 (some ⟨p3, 0, none⟩) 3 3 [1, 0, 2] _ hd1 hd3 (by omega) (by omega)).mono ?_
          rintro e v2 ⟨rfl, hv2⟩
          have Z2 := Z1.trans (hv2.mono Z1.size)
          have hd1' := (hd1.below hv2).more hv2.size
          have hd3' := (hd3.below hv2).more hv2.size
          clear hd1 hd3 hv2 Z1
          go_wp2_with fail
          refine (specHighOf_any A3 m3 c3 ts3 (some ⟨p3, 0, none⟩) 3 3 [1, 0, 2] _ hd1' hd3' (by omega) (by omega)).mono ?_
          rintro e v3 ⟨rfl, hv3⟩
          have Z3 := Z2.trans (hv3.mono Z2.size)
          generalize (highAns ts3 6 [1, 0, 2]).1 = hi at HF ⊢
          generalize (highAns ts3 6 [1, 0, 2]).2 = hb at HF ⊢
          have hq3 := (hr'.below Z3).more Z3.size
          clear hd1' hd3' hv3 Z2
          go_wp2_with fail
          refine (drawGoodExpr_any A' n' c' bs' _ hq3 hbs' (by omega)).mono ?_
          rintro e v4 ⟨A4, m4, c4, ts4, x4, p4, rfl, hf1, hf2, hf3, hv4⟩
          have Z4 := Z3.trans (hv4.mono Z3.size)
          have hq4 := (hr'.below Z4).more Z4.size
          clear hv4 hq3 Z3
          go_wp2_with fail
          refine (drawNeedsOf_any A' n' c' bs' _ hq4 hbs' (by omega)).mono ?_
          rintro e v5 ⟨op, x5, p5, m5, ps, rfl, hg5, hm5, hv5⟩
          have Z5 := Z4.trans (hv5.mono Z4.size)
          have hf1' := (hf1.below hv5).more hv5.size
          have hf3' := (hf3.below hv5).more hv5.size
          have a5 : Below v5.heap.size v5 (v5.alloc (Obj.cells #[Value.int IntKind.i64 op, Value.int IntKind.i64 x5] 40)) := (Below.refl _ _).alloc (Nat.le_refl _) _
          have hg5' : Reads (v5.alloc (Obj.cells #[Value.int IntKind.i64 op, Value.int IntKind.i64 x5] 40)) (v5.alloc (Obj.cells #[Value.int IntKind.i64 op, Value.int IntKind.i64 x5] 40)).heap.size .i64 (some ⟨p5, 0, none⟩) m5 ps := (hg5.below a5).more a5.size
          have hf1a := (hf1'.below a5).more a5.size
          have hf3a := (hf3'.below a5).more a5.size
          clear hf1 hf3 hf1' hf3' hg5 hv5 hq4 Z4
          go_wp2_with fail
          refine (needsOf_any op x5 (some ⟨p5, 0, none⟩) m5 3 ps _ hg5' (by omega)).mono ?_
          rintro e v6 ⟨rfl, hv6⟩
          have hcell := fun j => hv6.cell (p := ⟨v5.heap.size, j, none⟩) (by simp)
          have Z6 := (Z5.trans (a5.mono Z5.size)).trans (hv6.mono (Nat.le_trans Z5.size a5.size))
          have hg6 := (hg5'.below hv6).more hv6.size
          have hf16 := (hf1a.below hv6).more hv6.size
          have hf36 := (hf3a.below hv6).more hv6.size
          clear hf1a hf3a hg5' hv6
          go_wp2_with fail
          refine (specNeedsOf_any op x5 (some ⟨p5, 0, none⟩) m5 3 ps _ hg6 (by omega)).mono ?_
          rintro e v7 ⟨rfl, hv7⟩
          have Z7 := Z6.trans (hv7.mono Z6.size)
          have hf17 := (hf16.below hv7).more hv7.size
          have hf37 := (hf36.below hv7).more hv7.size
          generalize (needsAns ps op x5).1 = nn
          generalize (needsAns ps op x5).2 = nb
          clear hcell hf16 hf36 hg6 hv7 Z6 a5 Z5
          cases hb with
          | false =>
            go_wp2_with fail
            refine (goodExpr_any A4 m4 c4 ts4 x4 (some ⟨p4, 0, none⟩) 3 3 [1, 0, 2] _ hf17 hf37 (by omega) (by omega)).mono ?_
            rintro e v8 ⟨rfl, hv8⟩
            have Z8 := Z7.trans (hv8.mono Z7.size)
            have hf18 := (hf17.below hv8).more hv8.size
            have hf38 := (hf37.below hv8).more hv8.size
            clear hf17 hf37 hv8
            go_wp2_with fail
            refine (specGoodExpr_any A4 m4 c4 ts4 x4 (some ⟨p4, 0, none⟩) 3 3 [1, 0, 2] _ hf18 hf38 (by omega) (by omega)).mono ?_
            rintro e v9 ⟨rfl, hv9⟩
            have Z9 := Z8.trans (hv9.mono Z8.size)
            generalize (highAns ts4 x4 [1, 0, 2]).2 = gb
            clear hf18 hf38 hv9
            go_wp2
            go_ret
            exact ⟨rfl, Z9⟩
          | true =>
            have hh := HF.out rfl
            rw [HM.out] at hh
            have b1 : decide ((1 : Int) ≤ hi) = true := by simpa using hh.1
            have b2 : decide (hi ≤ (m3 : Int)) = true := by simpa using hh.2
            go_wp2_with fail
            refine (goodExpr_any A4 m4 c4 ts4 x4 (some ⟨p4, 0, none⟩) 3 3 [1, 0, 2] _ hf17 hf37 (by omega) (by omega)).mono ?_
            rintro e v8 ⟨rfl, hv8⟩
            have Z8 := Z7.trans (hv8.mono Z7.size)
            have hf18 := (hf17.below hv8).more hv8.size
            have hf38 := (hf37.below hv8).more hv8.size
            clear hf17 hf37 hv8
            go_wp2_with fail
            refine (specGoodExpr_any A4 m4 c4 ts4 x4 (some ⟨p4, 0, none⟩) 3 3 [1, 0, 2] _ hf18 hf38 (by omega) (by omega)).mono ?_
            rintro e v9 ⟨rfl, hv9⟩
            have Z9 := Z8.trans (hv9.mono Z8.size)
            generalize (highAns ts4 x4 [1, 0, 2]).2 = gb
            clear hf18 hf38 hv9
            go_wp2
            go_ret
            exact ⟨rfl, Z9⟩
        · have B7 := B6.trans (hb7.mono B6.size)
          have T7 := put (T6.out.below hb7)
          have hr7 := hrm7.readsT hl7
          have HX := put (text_again hyes.out)
          clear hb7 B6 T6 hrm7
          go_wp2_with fail
          refine (specReadExpr_any l2 _ (by omega)).mono ?_
          rintro e w8 ⟨A8, n8, c8, b8, ts8, rfl, hr8, hn8, hans, hb8⟩
          have B8 := B7.trans (hb8.mono B7.size)
          have T8 := put (T7.out.below hb8)
          have hr78 := (hr7.below hb8).more hb8.size
          clear hb8 B7 T7 hr7
          obtain ⟨rfl, rfl⟩ : ts7 = ts8 ∧ b8 = true := by have := hans.out; rw [hyes.out] at this; injection this with h1 h2; exact ⟨h1, h2.symm⟩
          obtain rfl : n7 = n8 := hl7.symm.trans hr8.1
          clear hyes hans
          go_wp2_with fail
          refine (sameToks_same (some ⟨g7, 0, none⟩) A8 n7 n7 c8 ts7 _ hr78 hr8 (by omega)).mono ?_
          rintro e w9 ⟨rfl, q2, rfl⟩
          have B9 : Below w.heap.size w (w8.drewN q2) := below_drewN B8 q2
          have T9 := put (T8.out.below (below_drewN (Below.refl _ _) q2))
          have hr79 : ReadsT (w8.drewN q2) (w8.drewN q2).heap.size (some ⟨g7, 0, none⟩) n7 ts7 := hr78
          clear hr8 B8 T8 hr78
          go_wp2_with fail
          refine (exprText_any (some ⟨g7, 0, none⟩) n7 n7 ts7 _ hr79 (by omega) (by have := T9.out.1; omega) T9.out.2.1 T9.out.2.2.1).mono ?_
          rintro e wa ⟨rfl, hba⟩
          have Ba := B9.trans (hba.mono B9.size)
          have Ta := put (T9.out.below hba)
          rw [HX.out]
          dsimp only
          clear hba B9 T9 hr79 HX
          have hq0 := (hr'.below Ba).more Ba.size
          go_wp2_with fail
          refine (drawHighOf_any A' n' c' bs' _ hq0 hbs' (by omega)).mono ?_
          rintro e v1 ⟨A3, m3, c3, ts3, p3, rfl, hd1, hd2, hd3, hv1⟩
          have Z1 := Ba.trans (hv1.mono Ba.size)
          have HF := put (high_told ts3)
          have HM := put hd1.1
          clear hq0 hv1 Ba Ta
          go_wp2_with fail
          refine (highOf_any A3 m3 c3 ts3 (some ⟨p3, 0, none⟩) 3 3 [1, 0, 2] _ hd1 hd3 (by omega) (by omega)).mono ?_
          rintro e v2 ⟨rfl, hv2⟩
          have Z2 := Z1.trans (hv2.mono Z1.size)
          have hd1' := (hd1.below hv2).more hv2.size
          have hd3' := (hd3.below hv2).more hv2.size
          clear hd1 hd3 hv2 Z1
          go_wp2_with fail
          refine (specHighOf_any A3 m3 c3 ts3 (some ⟨p3, 0, none⟩) 3 3 [1, 0, 2] _ hd1' hd3' (by omega) (by omega)).mono ?_
          rintro e v3 ⟨rfl, hv3⟩
          have Z3 := Z2.trans (hv3.mono Z2.size)
          generalize (highAns ts3 6 [1, 0, 2]).1 = hi at HF ⊢
          generalize (highAns ts3 6 [1, 0, 2]).2 = hb at HF ⊢
          have hq3 := (hr'.below Z3).more Z3.size
          clear hd1' hd3' hv3 Z2
          go_wp2_with fail
          refine (drawGoodExpr_any A' n' c' bs' _ hq3 hbs' (by omega)).mono ?_
          rintro e v4 ⟨A4, m4, c4, ts4, x4, p4, rfl, hf1, hf2, hf3, hv4⟩
          have Z4 := Z3.trans (hv4.mono Z3.size)
          have hq4 := (hr'.below Z4).more Z4.size
          clear hv4 hq3 Z3
          go_wp2_with fail
          refine (drawNeedsOf_any A' n' c' bs' _ hq4 hbs' (by omega)).mono ?_
          rintro e v5 ⟨op, x5, p5, m5, ps, rfl, hg5, hm5, hv5⟩
          have Z5 := Z4.trans (hv5.mono Z4.size)
          have hf1' := (hf1.below hv5).more hv5.size
          have hf3' := (hf3.below hv5).more hv5.size
          have a5 : Below v5.heap.size v5 (v5.alloc (Obj.cells #[Value.int IntKind.i64 op, Value.int IntKind.i64 x5] 40)) := (Below.refl _ _).alloc (Nat.le_refl _) _
          have hg5' : Reads (v5.alloc (Obj.cells #[Value.int IntKind.i64 op, Value.int IntKind.i64 x5] 40)) (v5.alloc (Obj.cells #[Value.int IntKind.i64 op, Value.int IntKind.i64 x5] 40)).heap.size .i64 (some ⟨p5, 0, none⟩) m5 ps := (hg5.below a5).more a5.size
          have hf1a := (hf1'.below a5).more a5.size
          have hf3a := (hf3'.below a5).more a5.size
          clear hf1 hf3 hf1' hf3' hg5 hv5 hq4 Z4
          go_wp2_with fail
          refine (needsOf_any op x5 (some ⟨p5, 0, none⟩) m5 3 ps _ hg5' (by omega)).mono ?_
          rintro e v6 ⟨rfl, hv6⟩
          have hcell := fun j => hv6.cell (p := ⟨v5.heap.size, j, none⟩) (by simp)
          have Z6 := (Z5.trans (a5.mono Z5.size)).trans (hv6.mono (Nat.le_trans Z5.size a5.size))
          have hg6 := (hg5'.below hv6).more hv6.size
          have hf16 := (hf1a.below hv6).more hv6.size
          have hf36 := (hf3a.below hv6).more hv6.size
          clear hf1a hf3a hg5' hv6
          go_wp2_with fail
          refine (specNeedsOf_any op x5 (some ⟨p5, 0, none⟩) m5 3 ps _ hg6 (by omega)).mono ?_
          rintro e v7 ⟨rfl, hv7⟩
          have Z7 := Z6.trans (hv7.mono Z6.size)
          have hf17 := (hf16.below hv7).more hv7.size
          have hf37 := (hf36.below hv7).more hv7.size
          generalize (needsAns ps op x5).1 = nn
          generalize (needsAns ps op x5).2 = nb
          clear hcell hf16 hf36 hg6 hv7 Z6 a5 Z5
          cases hb with
          | false =>
            go_wp2_with fail
            refine (goodExpr_any A4 m4 c4 ts4 x4 (some ⟨p4, 0, none⟩) 3 3 [1, 0, 2] _ hf17 hf37 (by omega) (by omega)).mono ?_
            rintro e v8 ⟨rfl, hv8⟩
            have Z8 := Z7.trans (hv8.mono Z7.size)
            have hf18 := (hf17.below hv8).more hv8.size
            have hf38 := (hf37.below hv8).more hv8.size
            clear hf17 hf37 hv8
            go_wp2_with fail
            refine (specGoodExpr_any A4 m4 c4 ts4 x4 (some ⟨p4, 0, none⟩) 3 3 [1, 0, 2] _ hf18 hf38 (by omega) (by omega)).mono ?_
            rintro e v9 ⟨rfl, hv9⟩
            have Z9 := Z8.trans (hv9.mono Z8.size)
            generalize (highAns ts4 x4 [1, 0, 2]).2 = gb
            clear hf18 hf38 hv9
            go_wp2
            go_ret
            exact ⟨rfl, Z9⟩
          | true =>
            have hh := HF.out rfl
            rw [HM.out] at hh
            have b1 : decide ((1 : Int) ≤ hi) = true := by simpa using hh.1
            have b2 : decide (hi ≤ (m3 : Int)) = true := by simpa using hh.2
            go_wp2_with fail
            refine (goodExpr_any A4 m4 c4 ts4 x4 (some ⟨p4, 0, none⟩) 3 3 [1, 0, 2] _ hf17 hf37 (by omega) (by omega)).mono ?_
            rintro e v8 ⟨rfl, hv8⟩
            have Z8 := Z7.trans (hv8.mono Z7.size)
            have hf18 := (hf17.below hv8).more hv8.size
            have hf38 := (hf37.below hv8).more hv8.size
            clear hf17 hf37 hv8
            go_wp2_with fail
            refine (specGoodExpr_any A4 m4 c4 ts4 x4 (some ⟨p4, 0, none⟩) 3 3 [1, 0, 2] _ hf18 hf38 (by omega) (by omega)).mono ?_
            rintro e v9 ⟨rfl, hv9⟩
            have Z9 := Z8.trans (hv9.mono Z8.size)
            generalize (highAns ts4 x4 [1, 0, 2]).2 = gb
            clear hf18 hf38 hv9
            go_wp2
            go_ret
            exact ⟨rfl, Z9⟩
    · have b1 : decide (((strB l).size : Int) ≤ 200) = false := by rw [hsz.out]; simp; omega
      have hp0 := (hr'.below B3).more B3.size
      go_wp2_with fail
      refine (drawReadExpr_any A' n' c' bs' _ hp0 hbs' (by omega)).mono ?_
      rintro e w6 ⟨l2, rfl, hl2, hb6⟩
      have B6 := B3.trans (hb6.mono B3.size)
      have T6 := put (T3.out.below hb6)
      clear hp0 hb6 B3 T3
      go_wp2_with fail
      refine (readExpr_any l2 _ (by omega) T6.out.1 T6.out.2.1 T6.out.2.2.1 T6.out.2.2.2).mono ?_
      rintro e w7 (⟨rfl, hno, hb7⟩ | ⟨g7, n7, ts7, rfl, hg7, hrm7, hl7, hn7, hyes, hb7⟩)
      · have B7 := B6.trans (hb7.mono B6.size)
        have T7 := put (T6.out.below hb7)
        clear hb7 B6 T6
        go_wp2_with fail
        refine (specReadExpr_any l2 _ (by omega)).mono ?_
        rintro e w8 ⟨A8, n8, c8, b8, ts8, rfl, hr8, hn8, hans, hb8⟩
        have B8 := B7.trans (hb8.mono B7.size)
        have T8 := put (T7.out.below hb8)
        clear hb8 B7 T7
        obtain ⟨rfl, rfl⟩ : ts8 = [] ∧ b8 = false := by have := hans.out; rw [hno.out] at this; injection this with h1 h2; exact ⟨h1.symm, h2.symm⟩
        obtain rfl : n8 = 0 := hr8.1.symm
        go_wp2_with fail
        refine (sameToks_same none A8 0 0 c8 [] _ (readsT_nil _ _) hr8 (by omega)).mono ?_
        rintro e w9 ⟨rfl, q2, rfl⟩
        have B9 : Below w.heap.size w (w8.drewN q2) := below_drewN B8 q2
        have T9 := put (T8.out.below (below_drewN (Below.refl _ _) q2))
        clear hr8 hans hno B8 T8
        have hq0 := (hr'.below B9).more B9.size
        go_wp2_with fail
        refine (drawHighOf_any A' n' c' bs' _ hq0 hbs' (by omega)).mono ?_
        rintro e v1 ⟨A3, m3, c3, ts3, p3, rfl, hd1, hd2, hd3, hv1⟩
        have Z1 := B9.trans (hv1.mono B9.size)
        have HF := put (high_told ts3)
        have HM := put hd1.1
        clear hq0 hv1 B9 T9
        go_wp2_with fail
        refine (highOf_any A3 m3 c3 ts3 (some ⟨p3, 0, none⟩) 3 3 [1, 0, 2] _ hd1 hd3 (by omega) (by omega)).mono ?_
        rintro e v2 ⟨rfl, hv2⟩
        have Z2 := Z1.trans (hv2.mono Z1.size)
        have hd1' := (hd1.below hv2).more hv2.size
        have hd3' := (hd3.below hv2).more hv2.size
        clear hd1 hd3 hv2 Z1
        go_wp2_with fail
        refine (specHighOf_any A3 m3 c3 ts3 (some ⟨p3, 0, none⟩) 3 3 [1, 0, 2] _ hd1' hd3' (by omega) (by omega)).mono ?_
        rintro e v3 ⟨rfl, hv3⟩
        have Z3 := Z2.trans (hv3.mono Z2.size)
        generalize (highAns ts3 6 [1, 0, 2]).1 = hi at HF ⊢
        generalize (highAns ts3 6 [1, 0, 2]).2 = hb at HF ⊢
        have hq3 := (hr'.below Z3).more Z3.size
        clear hd1' hd3' hv3 Z2
        go_wp2_with fail
        refine (drawGoodExpr_any A' n' c' bs' _ hq3 hbs' (by omega)).mono ?_
        rintro e v4 ⟨A4, m4, c4, ts4, x4, p4, rfl, hf1, hf2, hf3, hv4⟩
        have Z4 := Z3.trans (hv4.mono Z3.size)
        have hq4 := (hr'.below Z4).more Z4.size
        clear hv4 hq3 Z3
        go_wp2_with fail
        refine (drawNeedsOf_any A' n' c' bs' _ hq4 hbs' (by omega)).mono ?_
        rintro e v5 ⟨op, x5, p5, m5, ps, rfl, hg5, hm5, hv5⟩
        have Z5 := Z4.trans (hv5.mono Z4.size)
        have hf1' := (hf1.below hv5).more hv5.size
        have hf3' := (hf3.below hv5).more hv5.size
        have a5 : Below v5.heap.size v5 (v5.alloc (Obj.cells #[Value.int IntKind.i64 op, Value.int IntKind.i64 x5] 40)) := (Below.refl _ _).alloc (Nat.le_refl _) _
        have hg5' : Reads (v5.alloc (Obj.cells #[Value.int IntKind.i64 op, Value.int IntKind.i64 x5] 40)) (v5.alloc (Obj.cells #[Value.int IntKind.i64 op, Value.int IntKind.i64 x5] 40)).heap.size .i64 (some ⟨p5, 0, none⟩) m5 ps := (hg5.below a5).more a5.size
        have hf1a := (hf1'.below a5).more a5.size
        have hf3a := (hf3'.below a5).more a5.size
        clear hf1 hf3 hf1' hf3' hg5 hv5 hq4 Z4
        go_wp2_with fail
        refine (needsOf_any op x5 (some ⟨p5, 0, none⟩) m5 3 ps _ hg5' (by omega)).mono ?_
        rintro e v6 ⟨rfl, hv6⟩
        have hcell := fun j => hv6.cell (p := ⟨v5.heap.size, j, none⟩) (by simp)
        have Z6 := (Z5.trans (a5.mono Z5.size)).trans (hv6.mono (Nat.le_trans Z5.size a5.size))
        have hg6 := (hg5'.below hv6).more hv6.size
        have hf16 := (hf1a.below hv6).more hv6.size
        have hf36 := (hf3a.below hv6).more hv6.size
        clear hf1a hf3a hg5' hv6
        go_wp2_with fail
        refine (specNeedsOf_any op x5 (some ⟨p5, 0, none⟩) m5 3 ps _ hg6 (by omega)).mono ?_
        rintro e v7 ⟨rfl, hv7⟩
        have Z7 := Z6.trans (hv7.mono Z6.size)
        have hf17 := (hf16.below hv7).more hv7.size
        have hf37 := (hf36.below hv7).more hv7.size
        generalize (needsAns ps op x5).1 = nn
        generalize (needsAns ps op x5).2 = nb
        clear hcell hf16 hf36 hg6 hv7 Z6 a5 Z5
        cases hb with
        | false =>
          go_wp2_with fail
          refine (goodExpr_any A4 m4 c4 ts4 x4 (some ⟨p4, 0, none⟩) 3 3 [1, 0, 2] _ hf17 hf37 (by omega) (by omega)).mono ?_
          rintro e v8 ⟨rfl, hv8⟩
          have Z8 := Z7.trans (hv8.mono Z7.size)
          have hf18 := (hf17.below hv8).more hv8.size
          have hf38 := (hf37.below hv8).more hv8.size
          clear hf17 hf37 hv8
          go_wp2_with fail
          refine (specGoodExpr_any A4 m4 c4 ts4 x4 (some ⟨p4, 0, none⟩) 3 3 [1, 0, 2] _ hf18 hf38 (by omega) (by omega)).mono ?_
          rintro e v9 ⟨rfl, hv9⟩
          have Z9 := Z8.trans (hv9.mono Z8.size)
          generalize (highAns ts4 x4 [1, 0, 2]).2 = gb
          clear hf18 hf38 hv9
          go_wp2
          go_ret
          exact ⟨rfl, Z9⟩
        | true =>
          have hh := HF.out rfl
          rw [HM.out] at hh
          have b1 : decide ((1 : Int) ≤ hi) = true := by simpa using hh.1
          have b2 : decide (hi ≤ (m3 : Int)) = true := by simpa using hh.2
          go_wp2_with fail
          refine (goodExpr_any A4 m4 c4 ts4 x4 (some ⟨p4, 0, none⟩) 3 3 [1, 0, 2] _ hf17 hf37 (by omega) (by omega)).mono ?_
          rintro e v8 ⟨rfl, hv8⟩
          have Z8 := Z7.trans (hv8.mono Z7.size)
          have hf18 := (hf17.below hv8).more hv8.size
          have hf38 := (hf37.below hv8).more hv8.size
          clear hf17 hf37 hv8
          go_wp2_with fail
          refine (specGoodExpr_any A4 m4 c4 ts4 x4 (some ⟨p4, 0, none⟩) 3 3 [1, 0, 2] _ hf18 hf38 (by omega) (by omega)).mono ?_
          rintro e v9 ⟨rfl, hv9⟩
          have Z9 := Z8.trans (hv9.mono Z8.size)
          generalize (highAns ts4 x4 [1, 0, 2]).2 = gb
          clear hf18 hf38 hv9
          go_wp2
          go_ret
          exact ⟨rfl, Z9⟩
      · have B7 := B6.trans (hb7.mono B6.size)
        have T7 := put (T6.out.below hb7)
        have hr7 := hrm7.readsT hl7
        have HX := put (text_again hyes.out)
        clear hb7 B6 T6 hrm7
        go_wp2_with fail
        refine (specReadExpr_any l2 _ (by omega)).mono ?_
        rintro e w8 ⟨A8, n8, c8, b8, ts8, rfl, hr8, hn8, hans, hb8⟩
        have B8 := B7.trans (hb8.mono B7.size)
        have T8 := put (T7.out.below hb8)
        have hr78 := (hr7.below hb8).more hb8.size
        clear hb8 B7 T7 hr7
        obtain ⟨rfl, rfl⟩ : ts7 = ts8 ∧ b8 = true := by have := hans.out; rw [hyes.out] at this; injection this with h1 h2; exact ⟨h1, h2.symm⟩
        obtain rfl : n7 = n8 := hl7.symm.trans hr8.1
        clear hyes hans
        go_wp2_with fail
        refine (sameToks_same (some ⟨g7, 0, none⟩) A8 n7 n7 c8 ts7 _ hr78 hr8 (by omega)).mono ?_
        rintro e w9 ⟨rfl, q2, rfl⟩
        have B9 : Below w.heap.size w (w8.drewN q2) := below_drewN B8 q2
        have T9 := put (T8.out.below (below_drewN (Below.refl _ _) q2))
        have hr79 : ReadsT (w8.drewN q2) (w8.drewN q2).heap.size (some ⟨g7, 0, none⟩) n7 ts7 := hr78
        clear hr8 B8 T8 hr78
        go_wp2_with fail
        refine (exprText_any (some ⟨g7, 0, none⟩) n7 n7 ts7 _ hr79 (by omega) (by have := T9.out.1; omega) T9.out.2.1 T9.out.2.2.1).mono ?_
        rintro e wa ⟨rfl, hba⟩
        have Ba := B9.trans (hba.mono B9.size)
        have Ta := put (T9.out.below hba)
        rw [HX.out]
        dsimp only
        clear hba B9 T9 hr79 HX
        have hq0 := (hr'.below Ba).more Ba.size
        go_wp2_with fail
        refine (drawHighOf_any A' n' c' bs' _ hq0 hbs' (by omega)).mono ?_
        rintro e v1 ⟨A3, m3, c3, ts3, p3, rfl, hd1, hd2, hd3, hv1⟩
        have Z1 := Ba.trans (hv1.mono Ba.size)
        have HF := put (high_told ts3)
        have HM := put hd1.1
        clear hq0 hv1 Ba Ta
        go_wp2_with fail
        refine (highOf_any A3 m3 c3 ts3 (some ⟨p3, 0, none⟩) 3 3 [1, 0, 2] _ hd1 hd3 (by omega) (by omega)).mono ?_
        rintro e v2 ⟨rfl, hv2⟩
        have Z2 := Z1.trans (hv2.mono Z1.size)
        have hd1' := (hd1.below hv2).more hv2.size
        have hd3' := (hd3.below hv2).more hv2.size
        clear hd1 hd3 hv2 Z1
        go_wp2_with fail
        refine (specHighOf_any A3 m3 c3 ts3 (some ⟨p3, 0, none⟩) 3 3 [1, 0, 2] _ hd1' hd3' (by omega) (by omega)).mono ?_
        rintro e v3 ⟨rfl, hv3⟩
        have Z3 := Z2.trans (hv3.mono Z2.size)
        generalize (highAns ts3 6 [1, 0, 2]).1 = hi at HF ⊢
        generalize (highAns ts3 6 [1, 0, 2]).2 = hb at HF ⊢
        have hq3 := (hr'.below Z3).more Z3.size
        clear hd1' hd3' hv3 Z2
        go_wp2_with fail
        refine (drawGoodExpr_any A' n' c' bs' _ hq3 hbs' (by omega)).mono ?_
        rintro e v4 ⟨A4, m4, c4, ts4, x4, p4, rfl, hf1, hf2, hf3, hv4⟩
        have Z4 := Z3.trans (hv4.mono Z3.size)
        have hq4 := (hr'.below Z4).more Z4.size
        clear hv4 hq3 Z3
        go_wp2_with fail
        refine (drawNeedsOf_any A' n' c' bs' _ hq4 hbs' (by omega)).mono ?_
        rintro e v5 ⟨op, x5, p5, m5, ps, rfl, hg5, hm5, hv5⟩
        have Z5 := Z4.trans (hv5.mono Z4.size)
        have hf1' := (hf1.below hv5).more hv5.size
        have hf3' := (hf3.below hv5).more hv5.size
        have a5 : Below v5.heap.size v5 (v5.alloc (Obj.cells #[Value.int IntKind.i64 op, Value.int IntKind.i64 x5] 40)) := (Below.refl _ _).alloc (Nat.le_refl _) _
        have hg5' : Reads (v5.alloc (Obj.cells #[Value.int IntKind.i64 op, Value.int IntKind.i64 x5] 40)) (v5.alloc (Obj.cells #[Value.int IntKind.i64 op, Value.int IntKind.i64 x5] 40)).heap.size .i64 (some ⟨p5, 0, none⟩) m5 ps := (hg5.below a5).more a5.size
        have hf1a := (hf1'.below a5).more a5.size
        have hf3a := (hf3'.below a5).more a5.size
        clear hf1 hf3 hf1' hf3' hg5 hv5 hq4 Z4
        go_wp2_with fail
        refine (needsOf_any op x5 (some ⟨p5, 0, none⟩) m5 3 ps _ hg5' (by omega)).mono ?_
        rintro e v6 ⟨rfl, hv6⟩
        have hcell := fun j => hv6.cell (p := ⟨v5.heap.size, j, none⟩) (by simp)
        have Z6 := (Z5.trans (a5.mono Z5.size)).trans (hv6.mono (Nat.le_trans Z5.size a5.size))
        have hg6 := (hg5'.below hv6).more hv6.size
        have hf16 := (hf1a.below hv6).more hv6.size
        have hf36 := (hf3a.below hv6).more hv6.size
        clear hf1a hf3a hg5' hv6
        go_wp2_with fail
        refine (specNeedsOf_any op x5 (some ⟨p5, 0, none⟩) m5 3 ps _ hg6 (by omega)).mono ?_
        rintro e v7 ⟨rfl, hv7⟩
        have Z7 := Z6.trans (hv7.mono Z6.size)
        have hf17 := (hf16.below hv7).more hv7.size
        have hf37 := (hf36.below hv7).more hv7.size
        generalize (needsAns ps op x5).1 = nn
        generalize (needsAns ps op x5).2 = nb
        clear hcell hf16 hf36 hg6 hv7 Z6 a5 Z5
        cases hb with
        | false =>
          go_wp2_with fail
          refine (goodExpr_any A4 m4 c4 ts4 x4 (some ⟨p4, 0, none⟩) 3 3 [1, 0, 2] _ hf17 hf37 (by omega) (by omega)).mono ?_
          rintro e v8 ⟨rfl, hv8⟩
          have Z8 := Z7.trans (hv8.mono Z7.size)
          have hf18 := (hf17.below hv8).more hv8.size
          have hf38 := (hf37.below hv8).more hv8.size
          clear hf17 hf37 hv8
          go_wp2_with fail
          refine (specGoodExpr_any A4 m4 c4 ts4 x4 (some ⟨p4, 0, none⟩) 3 3 [1, 0, 2] _ hf18 hf38 (by omega) (by omega)).mono ?_
          rintro e v9 ⟨rfl, hv9⟩
          have Z9 := Z8.trans (hv9.mono Z8.size)
          generalize (highAns ts4 x4 [1, 0, 2]).2 = gb
          clear hf18 hf38 hv9
          go_wp2
          go_ret
          exact ⟨rfl, Z9⟩
        | true =>
          have hh := HF.out rfl
          rw [HM.out] at hh
          have b1 : decide ((1 : Int) ≤ hi) = true := by simpa using hh.1
          have b2 : decide (hi ≤ (m3 : Int)) = true := by simpa using hh.2
          go_wp2_with fail
          refine (goodExpr_any A4 m4 c4 ts4 x4 (some ⟨p4, 0, none⟩) 3 3 [1, 0, 2] _ hf17 hf37 (by omega) (by omega)).mono ?_
          rintro e v8 ⟨rfl, hv8⟩
          have Z8 := Z7.trans (hv8.mono Z7.size)
          have hf18 := (hf17.below hv8).more hv8.size
          have hf38 := (hf37.below hv8).more hv8.size
          clear hf17 hf37 hv8
          go_wp2_with fail
          refine (specGoodExpr_any A4 m4 c4 ts4 x4 (some ⟨p4, 0, none⟩) 3 3 [1, 0, 2] _ hf18 hf38 (by omega) (by omega)).mono ?_
          rintro e v9 ⟨rfl, hv9⟩
          have Z9 := Z8.trans (hv9.mono Z8.size)
          generalize (highAns ts4 x4 [1, 0, 2]).2 = gb
          clear hf18 hf38 hv9
          go_wp2
          go_ret
          exact ⟨rfl, Z9⟩

end Go.Proofs.YtpknbdaicmacjaaGreatDoor

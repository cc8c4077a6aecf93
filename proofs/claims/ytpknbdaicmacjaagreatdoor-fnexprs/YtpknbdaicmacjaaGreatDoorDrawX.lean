/-
  Contracts of the reference's cursor where it draws expressions.
-/
import Derived.Test.YtpknbdaicmacjaaGreatDoorDrawE
namespace Go.Proofs.YtpknbdaicmacjaaGreatDoor
open Go.RowKit Exs

theorem far_le {d : Nat} (h : d ≤ 3) : 10 ≤ far d ∧ far d ≤ 500 := by
  rcases d with _ | _ | _ | _ | d
  all_goals (simp only [far]; omega)
theorem most_le {d : Nat} (h : d ≤ 3) : 1 ≤ most d ∧ most d ≤ 40 := by
  rcases d with _ | _ | _ | _ | d
  all_goals (simp only [most]; omega)

set_option maxHeartbeats 4000000 in
set_option maxRecDepth 100000 in
theorem expr_more (d : Nat) (hd : d ≤ 2) (ih : ∀ (y : Int) (g : Nat) (A : Option Addr) (n c T : Nat) (b : Bool) (p : Nat) (w : World), y = d → d ≤ 3 → Cur w g A n c T → T + 1000 * d ≤ 60000 → Room w p 3 3 .i64 [1, 0, 2] → p ≠ g →
      Calls Tryz.prog 42 #[.pointer (some ⟨g, 0, none⟩), .int .i64 y, .int .i64 3, .slice (some ⟨p, 0, none⟩) 3 3, .bool b] w (GivesT (most d) g A n c (T + far d) w))
    (y : Int) (hy : y = d + 1) (g : Nat) (A : Option Addr) (n c T : Nat) (b : Bool) (p : Nat) (w : World) (hc : Cur w g A n c T) (hT : T + 1000 * (d + 1) ≤ 60000) (hp : Room w p 3 3 .i64 [1, 0, 2]) (hpg : p ≠ g) :
    Calls Tryz.prog 42 #[.pointer (some ⟨g, 0, none⟩), .int .i64 y, .int .i64 3, .slice (some ⟨p, 0, none⟩) 3 3, .bool b] w (GivesT (most (d + 1)) g A n c (T + far (d + 1)) w) := by
  have hd0 : ¬ y = 0 := by omega
  have hd1 : 1 ≤ y := by omega
  have hd3 : y ≤ 3 := by omega
  have HY := put hy
  have HN := put (show (10 ≤ far d ∧ far d ≤ 500) ∧ (1 ≤ most d ∧ most d ≤ 40) ∧ d ≤ 2 ∧ T + 1000 * (d + 1) ≤ 60000 ∧ far (d + 1) = 2 * far d + 50 ∧ most (d + 1) = 2 * most d + 3 from ⟨far_le (by omega), most_le (by omega), hd, hT, rfl, rfl⟩)
  have HI := put ih
  have KL := put hc.lt
  clear hd hT ih hy
  go_enter Tryz.func42, Tryz.ntmps42
  go_wp2_with fail
  refine (one_any g A n c T 3 _ hc (by have := HN.out; omega) (by have := HN.out; omega) (by have := HN.out; omega)).mono ?_
  rintro e w1 ⟨b1, rfl, hc1, hg1⟩
  cases b1 with
  | true =>
    go_wp2_with fail
    refine (pick_any g A n c _ 6 _ hc1 (by have := HN.out; omega) (by have := HN.out; omega) (by have := HN.out; omega)).mono ?_
    rintro e wl ⟨x, hx0, hx1, rfl, hcl, hgl'⟩
    have hgl := grownBy_trans hg1 hgl'
    have hcase : x = 0 ∨ x = 1 ∨ x = 2 ∨ (x ≠ 0 ∧ x ≠ 1 ∧ x ≠ 2) := by omega
    rcases hcase with rfl | rfl | rfl | ⟨h0, h1, h2⟩
    · go_wp2_with fail
      refine (pick_any g A n c _ 3 _ hcl (by have := HN.out; omega) (by have := HN.out; omega) (by have := HN.out; omega)).mono ?_
      rintro e w2 ⟨y, hy0, hy1, rfl, hc2, hg2⟩
      go_wp2
      go_ret
      exact leaf_given hc2 (grownBy_trans hgl hg2) (by have := HN.out; omega) (by have := HN.out; omega) 2 y
    · go_wp2_with fail
      refine (pick_any g A n c _ 3 _ hcl (by have := HN.out; omega) (by have := HN.out; omega) (by have := HN.out; omega)).mono ?_
      rintro e w2 ⟨y, hy0, hy1, rfl, hc2, hg2⟩
      go_wp2
      go_ret
      exact leaf_given hc2 (grownBy_trans hgl hg2) (by have := HN.out; omega) (by have := HN.out; omega) 2 y
    · cases b with
      | false =>
        go_wp2_with fail
        refine (among_any g A n c _ _ (hcl.alloc _) (by have := HN.out; omega) wl.heap.size 2 [9, 10] 9 10 (by refine Room.lit ?_ ?_ <;> rfl) rfl hcl.lt (by decide) (by decide) (by show ∀ x ∈ _, _; decide)).mono ?_
        rintro e w2 ⟨y, hy0, hy1, rfl, hc2, hg2⟩
        go_wp2
        go_ret
        exact leaf_given hc2 (grownBy_trans (grownBy_alloc' hgl _) hg2) (by have := HN.out; omega) (by have := HN.out; omega) y 0
      | true =>
        go_wp2_with fail
        refine (num_any g A n c _ _ hcl (by have := HN.out; omega)).mono ?_
        rintro e w2 ⟨y, hy0, hy1, rfl, hc2, hg2⟩
        go_wp2
        go_ret
        exact leaf_given hc2 (grownBy_trans hgl hg2) (by have := HN.out; omega) (by have := HN.out; omega) 1 y
    · go_wp2_with fail
      refine (num_any g A n c _ _ hcl (by have := HN.out; omega)).mono ?_
      rintro e w2 ⟨y, hy0, hy1, rfl, hc2, hg2⟩
      go_wp2
      go_ret
      exact leaf_given hc2 (grownBy_trans hgl hg2) (by have := HN.out; omega) (by have := HN.out; omega) 1 y
  | false =>
    cases b with
    | true =>
      go_wp2_with fail
      refine (HI.out _ g A n c _ true p _ (by have := HY.out; omega) (by have := HN.out; omega) hc1 (by have := HN.out; omega) (hp.grown hg1 hpg) hpg).mono ?_
      rintro e w3 ⟨v3, ts3, rfl, ht3, hl3, hm3, hc3, hg3⟩
      have hg3' := grownBy_trans hg1 hg3
      go_wp2_with fail
      refine (HI.out _ g A n c _ true p _ (by have := HY.out; omega) (by have := HN.out; omega) hc3 (by have := HN.out; omega) (hp.grown hg3' hpg) hpg).mono ?_
      rintro e w4 ⟨v4, ts4, rfl, ht4, hl4, hm4, hc4, hg4⟩
      have hg4' := grownBy_trans hg3' hg4
      have ht34 := (ht3.base hg1.size).grown hg4 KL.out
      have ht4' := ht4.base hg3'.size
      have hs4 := hg4'.size
      clear hg3 hg4 hc3 ht3 ht4
      go_wp2_with (at_builtin; refine wpList_append_toks rfl _ _ rfl w.heap.size _ ts3 rfl hs4 ht34 w.heap.size _ ts4 rfl ht4' hl4 (by have := HN.out; omega) (by have := HN.out; omega) ?_)
      intro v5 w5 ht5 hb5
      have hc5 := hc4.below hb5 KL.out
      have hg5 := grownBy_below hg4' hb5
      clear ht34 ht4' hc4
      go_wp2_with fail
      refine (pick_any g A n c _ 6 _ hc5 (by have := HN.out; omega) (by have := HN.out; omega) (by have := HN.out; omega)).mono ?_
      rintro e w6 ⟨x, hx0, hx1, rfl, hc6, hg6⟩
      have ht6 := ht5.grown hg6 KL.out
      have hg6' := grownBy_trans hg5 hg6
      have hs6 := hg6'.size
      have HL := put (show (ts3 ++ ts4).length ≤ 1000 by have := HN.out; simp; omega)
      go_wp2_with (at_builtin; refine wpList_append_toks rfl _ _ rfl w.heap.size _ (ts3 ++ ts4) rfl (by simp; omega) (ht6.alloc _) w.heap.size _ [(3 + x, 0)] rfl (Toks.lit w6 w.heap.size hs6 (3 + x) 0) (by simp) HL.out (by simp) ?_)
      intro v7 w7 ht7 hb7
      go_wp2
      go_ret
      exact ⟨v7, _, rfl, ht7, by simp; omega, by have := HN.out; simp; omega, (((hc6.alloc _).below hb7 KL.out).more (by have := HN.out; omega)), grownBy_below (grownBy_alloc' hg6' _) hb7⟩
    | false =>
      go_wp2_with fail
      refine (one_any g A n c _ 3 _ hc1 (by have := HN.out; omega) (by have := HN.out; omega) (by have := HN.out; omega)).mono ?_
      rintro e w2 ⟨b2, rfl, hc2, hg2⟩
      have hg2' := grownBy_trans hg1 hg2
      cases b2 with
      | false =>
        go_wp2_with fail
        refine (HI.out _ g A n c _ false p _ (by have := HY.out; omega) (by have := HN.out; omega) hc2 (by have := HN.out; omega) (hp.grown hg2' hpg) hpg).mono ?_
        rintro e w3 ⟨v3, ts3, rfl, ht3, hl3, hm3, hc3, hg3⟩
        have hg3' := grownBy_trans hg2' hg3
        go_wp2_with fail
        refine (HI.out _ g A n c _ false p _ (by have := HY.out; omega) (by have := HN.out; omega) hc3 (by have := HN.out; omega) (hp.grown hg3' hpg) hpg).mono ?_
        rintro e w4 ⟨v4, ts4, rfl, ht4, hl4, hm4, hc4, hg4⟩
        have hg4' := grownBy_trans hg3' hg4
        have ht34 := (ht3.base hg2'.size).grown hg4 KL.out
        have ht4' := ht4.base hg3'.size
        have hs4 := hg4'.size
        clear hg3 hg4 hc3 ht3 ht4
        go_wp2_with (at_builtin; refine wpList_append_toks rfl _ _ rfl w.heap.size _ ts3 rfl hs4 ht34 w.heap.size _ ts4 rfl ht4' hl4 (by have := HN.out; omega) (by have := HN.out; omega) ?_)
        intro v5 w5 ht5 hb5
        have hc5 := hc4.below hb5 KL.out
        have hg5 := grownBy_below hg4' hb5
        clear ht34 ht4' hc4
        go_wp2_with fail
        refine (pick_any g A n c _ 6 _ hc5 (by have := HN.out; omega) (by have := HN.out; omega) (by have := HN.out; omega)).mono ?_
        rintro e w6 ⟨x, hx0, hx1, rfl, hc6, hg6⟩
        have ht6 := ht5.grown hg6 KL.out
        have hg6' := grownBy_trans hg5 hg6
        have hs6 := hg6'.size
        have HL := put (show (ts3 ++ ts4).length ≤ 1000 by have := HN.out; simp; omega)
        go_wp2_with (at_builtin; refine wpList_append_toks rfl _ _ rfl w.heap.size _ (ts3 ++ ts4) rfl (by simp; omega) (ht6.alloc _) w.heap.size _ [(3 + x, 0)] rfl (Toks.lit w6 w.heap.size hs6 (3 + x) 0) (by simp) HL.out (by simp) ?_)
        intro v7 w7 ht7 hb7
        go_wp2
        go_ret
        exact ⟨v7, _, rfl, ht7, by simp; omega, by have := HN.out; simp; omega, (((hc6.alloc _).below hb7 KL.out).more (by have := HN.out; omega)), grownBy_below (grownBy_alloc' hg6' _) hb7⟩
      | true =>
        go_wp2_with fail
        refine (pick_any g A n c _ 3 _ hc2 (by have := HN.out; omega) (by have := HN.out; omega) (by have := HN.out; omega)).mono ?_
        rintro e w3 ⟨x, hx0, hx1, rfl, hc3, hg3⟩
        have hg3' := grownBy_trans hg2' hg3
        clear hg3 hc2
        obtain ⟨j, rfl⟩ := Int.eq_ofNat_of_zero_le hx0
        have hj : j < 3 := by omega
        have hm2 : 0 ≤ [(1 : Int), 0, 2].getD j 0 ∧ [(1 : Int), 0, 2].getD j 0 ≤ 2 := by
          have : ∀ i : Fin 3, 0 ≤ [(1 : Int), 0, 2].getD i.val 0 ∧ [(1 : Int), 0, 2].getD i.val 0 ≤ 2 := by decide
          exact this ⟨j, hj⟩
        have hcp := fun (wr : World) (h : w.grownBy wr (some g)) => (hp.grown h hpg).cell j (by simpa using hj)
        generalize [(1 : Int), 0, 2].getD j 0 = m at hm2 hcp
        go_wp2_with fail
        go_loopw [12, 13] (fun v i wr => ∃ (k : Nat) (ts : List Token), (k : Int) ≤ m ∧ i = .int .i64 k ∧ Hid (ts.length ≤ k) ∧ Toks wr w.heap.size v ts ∧ Cur wr g A n c (T + 8 + 10 * k) ∧ w.grownBy wr (some g)) (fun _ i _ => m.toNat - (intOf i).toNat)
        case atStart => exact ⟨0, [], hm2.1, rfl, Nat.le_refl _, Toks.nil _ _, hc3.more (by have := HN.out; omega), hg3'⟩
        case round =>
          obtain ⟨k, ts, hk, rfl, hlen, hown, hcr, hgr⟩ := hrel
          have hcell := hcp _ hgr
          clear hc3 hg3'
          by_cases hlt : (k : Int) < m
          · go_wp2_with fail
            refine (exprLeaf_any g A n c _ false p _ hcr (by have := HN.out; omega)).mono ?_
            rintro e w4 ⟨v4, ts4, rfl, ht4, hl4, hm4, hc4, hg4⟩
            have hg4' := grownBy_trans hgr hg4
            have hs4 := hg4'.size
            have hown4 := hown.grown hg4 KL.out
            have ht4' := ht4.base hgr.size
            have HL := put (show ts.length ≤ 1000 by have := hlen.out; omega)
            clear hg4 ht4 hown
            go_wp2_with (at_builtin; refine wpList_append_toks rfl _ _ rfl w.heap.size _ ts rfl hs4 hown4 w.heap.size _ ts4 rfl ht4' hl4 HL.out (by have := HN.out; omega) ?_)
            intro v5 w5 ht5 hb5
            go_wp2
            go_roundw
            case rel => exact ⟨k + 1, ts ++ ts4, by omega, by go_num, by have := hlen.out; show _ ≤ _; simp; omega, ht5, (hc4.below hb5 KL.out).more (by have := HN.out; omega), grownBy_below hg4' hb5⟩
            case measure => simp [intOf]; omega
          · have hs := hgr.size
            have HL := put (show ts.length ≤ 1000 by have := hlen.out; omega)
            go_wp2_with (at_builtin; refine wpList_append_toks rfl _ _ rfl w.heap.size _ ts rfl (by simp; omega) (hown.alloc _) w.heap.size _ [(11, (j : Int))] rfl (Toks.lit _ w.heap.size hs 11 j) (by simp) HL.out (by simp) ?_)
            intro v5 w5 ht5 hb5
            go_wp2
            go_ret
            exact ⟨v5, _, rfl, ht5, by simp, by have := hlen.out; have := HN.out; simp; omega, (((hcr.alloc _).below hb5 KL.out).more (by have := HN.out; omega)), grownBy_below (grownBy_alloc' hgr _) hb5⟩

theorem expr_any : ∀ (d : Nat) (y : Int) (g : Nat) (A : Option Addr) (n c T : Nat) (b : Bool) (p : Nat) (w : World), y = d → d ≤ 3 → Cur w g A n c T → T + 1000 * d ≤ 60000 → Room w p 3 3 .i64 [1, 0, 2] → p ≠ g →
      Calls Tryz.prog 42 #[.pointer (some ⟨g, 0, none⟩), .int .i64 y, .int .i64 3, .slice (some ⟨p, 0, none⟩) 3 3, .bool b] w (GivesT (most d) g A n c (T + far d) w)
  | 0, y, g, A, n, c, T, b, p, w, hy, _, hc, hT, _, _ => by
    obtain rfl : y = 0 := by simpa using hy
    exact exprLeaf_any g A n c T b p w hc (by omega)
  | d + 1, y, g, A, n, c, T, b, p, w, hy, hd, hc, hT, hp, hpg => expr_more d (by omega) (expr_any d) y (by omega) g A n c T b p w hc hT hp hpg

end Go.Proofs.YtpknbdaicmacjaaGreatDoor

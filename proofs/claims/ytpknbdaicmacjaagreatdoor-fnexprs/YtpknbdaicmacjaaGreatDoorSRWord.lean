/-
  The contract of the reference's reading of one word.
-/
import Derived.Test.YtpknbdaicmacjaaGreatDoorSRCut
namespace Go.Proofs.YtpknbdaicmacjaaGreatDoor
open Go.RowKit Exs
set_option linter.unusedVariables false

theorem digI_some {l : List UInt8} {n : Nat} (h : digs l = some n) : digI l = n := by unfold digI; rw [h]
theorem digI_none {l : List UInt8} (h : digs l = none) : digI l = -1 := by unfold digI; rw [h]
theorem digI_ge (l : List UInt8) : -1 ≤ digI l := by
  cases h : digs l with
  | none => rw [digI_none h]; omega
  | some n => rw [digI_some h]; omega
theorem digs_lt {l : List UInt8} {n : Nat} (h : digs l = some n) : n < 10000000000 := by
  unfold digs at h
  split at h
  · cases h
  · rename_i hc
    injection h with h
    have ha : l.all isDig = true := by
      cases hq : l.all isDig with
      | true => rfl
      | false => exact absurd (.inr (.inr (.inr hq))) hc
    have hl : l.length ≤ 10 := by
      rcases Nat.lt_or_ge 10 l.length with h1 | h1
      · exact absurd (.inr (.inl h1)) hc
      · exact h1
    have := valL_lt l.length l rfl ha
    rw [← h]
    exact Nat.lt_of_lt_of_le this (Nat.le_trans (Nat.pow_le_pow_right (by omega) hl) (by decide))
theorem digI_le (l : List UInt8) : digI l ≤ 10000000000 := by
  cases h : digs l with
  | none => rw [digI_none h]; omega
  | some n => rw [digI_some h]; have := digs_lt h; omega

theorem plain_v (r : List UInt8) : plainTok (118 :: r) = if (decide (0 ≤ digI r) && tokB 2 (digI r)) = true then some (2, digI r) else none := by
  rw [plainTok]
  rw [if_pos rfl]
  cases h : digs r with
  | none => rw [digI_none h, if_neg (by decide)]; rfl
  | some n =>
    rw [digI_some h]
    have ht : tokB 2 (n : Int) = decide (n ≤ 99) := by rw [Bool.eq_iff_iff, tokB_iff, decide_eq_true_eq]; omega
    rw [Option.bind_some, ht]
    by_cases h9 : n ≤ 99
    · rw [if_pos h9, if_pos (by simp; omega)]
    · rw [if_neg h9, if_neg (by simp; omega)]
theorem plain_f (r : List UInt8) : plainTok (102 :: r) = if (decide (0 ≤ digI r) && tokB 11 (digI r)) = true then some (11, digI r) else none := by
  rw [plainTok]
  rw [if_neg (by decide), if_pos rfl]
  cases h : digs r with
  | none => rw [digI_none h, if_neg (by decide)]; rfl
  | some n =>
    rw [digI_some h]
    have ht : tokB 11 (n : Int) = decide (n ≤ 99) := by rw [Bool.eq_iff_iff, tokB_iff, decide_eq_true_eq]; omega
    rw [Option.bind_some, ht]
    by_cases h9 : n ≤ 99
    · rw [if_pos h9, if_pos (by simp; omega)]
    · rw [if_neg h9, if_neg (by simp; omega)]
theorem plain_m (r : List UInt8) : plainTok (45 :: r) = if (decide (-digI r < 0) && tokB 1 (-digI r)) = true then some (1, -digI r) else none := by
  rw [plainTok]
  rw [if_neg (by decide), if_neg (by decide), if_pos rfl]
  cases h : digs r with
  | none => rw [digI_none h, if_neg (by decide)]; rfl
  | some n =>
    rw [digI_some h]
    have ht : tokB 1 (-(n : Int)) = decide (n ≤ 2147483648) := by rw [Bool.eq_iff_iff, tokB_iff, decide_eq_true_eq]; omega
    rw [Option.bind_some, ht]
    by_cases h9 : 1 ≤ n ∧ n ≤ 2147483648
    · rw [if_pos h9, if_pos (by simp; omega)]
    · rw [if_neg h9, if_neg (by simp; omega)]
theorem plain_n {c : UInt8} (r : List UInt8) (h1 : c ≠ 118) (h2 : c ≠ 102) (h3 : c ≠ 45) : plainTok (c :: r) = if (decide (0 ≤ digI (c :: r)) && tokB 1 (digI (c :: r))) = true then some (1, digI (c :: r)) else none := by
  rw [plainTok]
  rw [if_neg h1, if_neg h2, if_neg h3]
  cases h : digs (c :: r) with
  | none => rw [digI_none h, if_neg (by decide)]; rfl
  | some n =>
    rw [digI_some h]
    have ht : tokB 1 (n : Int) = decide (n ≤ 2147483647) := by rw [Bool.eq_iff_iff, tokB_iff, decide_eq_true_eq]; omega
    rw [Option.bind_some, ht]
    by_cases h9 : n ≤ 2147483647
    · rw [if_pos h9, if_pos (by simp; omega)]
    · rw [if_neg h9, if_neg (by simp; omega)]

theorem str_eq (a b : List UInt8) : ((strB a).toList == (strB b).toList) = decide (a = b) := by
  rw [Lib.toList_data, Lib.toList_data, strB_toList, strB_toList]
  by_cases h : a = b
  · simp [h]
  · simp [h]

theorem bfrozen {W w1 : World} (hb : Below W.heap.size W w1) : ∀ b o, b < W.heap.size → w1.frozen? ⟨b, o, none⟩ = W.frozen? ⟨b, o, none⟩ :=
  fun b o h => hb.frozen (p := ⟨b, o, none⟩) h

theorem two_set {w1 : World} {g : Nat} {u0 u1 : Value} (c0 : w1.cell? ⟨g, 0, none⟩ = some u0) (c1 : w1.cell? ⟨g, 1, none⟩ = some u1) (a b : Value) :
    (w1.setCell ⟨g, 0, none⟩ a).cell? ⟨g, 0, none⟩ = some a ∧ ((w1.setCell ⟨g, 0, none⟩ a).setCell ⟨g, 1, none⟩ b).cell? ⟨g, 1, none⟩ = some b := by
  refine ⟨World.cell?_setCell_same _ _ _ c0, World.cell?_setCell_same _ _ _ (u := u1) ?_⟩
  rw [World.cell?_setCell_other _ _ _ _ (by simp)]
  exact c1

theorem third_cell (w : World) (cs : Array Value) (t : TypeId) (o2 o3 : Obj) (j : Nat) : (((w.alloc (.cells cs t)).alloc o2).alloc o3).cell? ⟨w.heap.size, j, none⟩ = cs[j]? := by
  rw [World.cell?_alloc_lt _ _ _ (by simp; omega), World.cell?_alloc_lt _ _ _ (by simp), cell_of_row _ _ j cs t (0, 0) (heap_alloc_new _ _)]

/-- What reading one word leaves. -/
def ReadT (l : List UInt8) (w : World) (e : Ending) (w' : World) : Prop :=
  ∃ (op x : Int) (b : Bool), e = .returned (.tuple #[.agg #[.int .i64 op, .int .i64 x], .bool b]) ∧ Hid (b = true → readTok l = some (op, x)) ∧ Hid (b = false → readTok l = none) ∧ Below w.heap.size w w'

theorem words_at (W : World) (t : TypeId) : ∀ j, j < 11 → (W.alloc (.cells wordsArr t)).cell? ⟨W.heap.size, j, none⟩ = some (.string (strB (word j))) := by
  intro j hj
  rw [cell_of_row _ _ j wordsArr t (0, 0) (heap_alloc_new _ _)]
  have h : j = 0 ∨ j = 1 ∨ j = 2 ∨ j = 3 ∨ j = 4 ∨ j = 5 ∨ j = 6 ∨ j = 7 ∨ j = 8 ∨ j = 9 ∨ j = 10 := by omega
  rcases h with rfl | rfl | rfl | rfl | rfl | rfl | rfl | rfl | rfl | rfl | rfl <;> rfl

theorem word_low {j : Nat} (h : j ≤ 2) : word j = [] := by
  have h : j = 0 ∨ j = 1 ∨ j = 2 := by omega
  rcases h with rfl | rfl | rfl <;> rfl

set_option maxHeartbeats 6000000 in
set_option maxRecDepth 100000 in
theorem l2ReadTok_any (l : List UInt8) (w : World) (hl : l.length ≤ 200) : Calls Tryz.prog 32 #[.string (strB l)] w (ReadT l w) := by
  have hsz := put (strB_size l)
  go_enter Tryz.func32, Tryz.ntmps32
  go_wp2_with fail
  refine (l2Words_any _).mono ?_
  rintro e w1 ⟨rfl, rfl⟩
  have hw := words_at (w.alloc (.cells #[.int .i64 0, .int .i64 0] 40)) 9
  simp only [World.size_alloc] at hw
  have HW := put hw
  clear hw
  go_wp2_with fail
  go_loop [9] (fun i => ∃ k : Nat, k ≤ 11 ∧ i = .int .i64 k ∧ Hid (∀ j : Nat, 3 ≤ j → j < k → l ≠ word j)) (fun i => 11 - (intOf i).toNat)
  case atStart => exact ⟨0, by omega, rfl, fun j h1 h2 => by omega⟩
  case round =>
    obtain ⟨k, hk, rfl, hno⟩ := hrel
    by_cases hlt : k < 11
    · have hcell := HW.out k hlt
      by_cases h3 : 3 ≤ k
      · by_cases he : word k = l
        · have HR := put (show readTok l = some ((k : Int), 0) by rw [readTok, ← he, opOf_word (by omega) (by omega)])
          have hcmp := str_eq (word k) l
          rw [decide_eq_true he] at hcmp
          have HE := put he
          clear he
          generalize word k = u at *
          go_wp2
          exact bodyPost_ret (v := .tuple #[.agg #[.int .i64 k, .int .i64 0], .bool true]) (by simp [results, Tryz.results32, go_sem]) rfl ⟨k, 0, true, rfl, fun _ => HR.out, (fun h => by cases h), ((Below.refl _ _).alloc (Nat.le_refl _) _).alloc (by simp) _⟩
        · have HN := put (show ∀ j : Nat, 3 ≤ j → j < k + 1 → l ≠ word j by
            intro j a b e
            by_cases hj : j < k
            · exact hno.out j a hj e
            · obtain rfl : j = k := by omega
              exact he e.symm)
          have hcmp := str_eq (word k) l
          rw [decide_eq_false he] at hcmp
          clear he
          generalize word k = u at *
          go_wp2
          go_round
          case rel => exact ⟨k + 1, by omega, by go_num, HN⟩
          case measure => simp [intOf]; omega
      · have HN := put (show ∀ j : Nat, 3 ≤ j → j < k + 1 → l ≠ word j by intro j a b; omega)
        have h3' : k ≤ 2 := by omega
        generalize word k = u at *
        go_wp2
        go_round
        case rel => exact ⟨k + 1, by omega, by go_num, HN⟩
        case measure => simp [intOf]; omega
    · have HO := put (show opOf l = none by
        cases ho : opOf l with
        | none => rfl
        | some op =>
          obtain ⟨h1, h2, h3⟩ := word_opOf ho
          refine absurd h1.symm ?_
          have := hno.out op.toNat (by omega) (by omega)
          rwa [Int.toNat_of_nonneg (by omega)] at this)
      have HT := put (show readTok l = plainTok l by rw [readTok, HO.out])
      clear hno HO HW
      cases l with
      | nil =>
        have HP := put (show readTok [] = none from rfl)
        have hemp : (strB []).toList.isEmpty = true := by rw [Lib.toList_data]; rfl
        clear hsz hl HT
        go_wp2
        exact bodyPost_ret (v := .tuple #[.agg #[.int .i64 0, .int .i64 0], .bool false]) (by simp [results, Tryz.results32, go_sem]) rfl ⟨0, 0, false, rfl, (fun h => by cases h), fun _ => HP.out, ((Below.refl _ _).alloc (Nat.le_refl _) _).alloc (by simp) _⟩
      | cons c r =>
        obtain ⟨l, hl2⟩ : ∃ l, l = c :: r := ⟨_, rfl⟩
        have hb : ∀ h : 0 < (strB l).size, (strB l)[0] = c := by subst hl2; intro h; rfl
        have hex : (strB l).extract 1 (strB l).size = strB r := by
          subst hl2
          rw [strB_extract, strB_size, List.take_length]; rfl
        have hpos : 0 < (strB l).size := by rw [strB_size, hl2]; simp
        have hne : (strB l).toList.isEmpty = false := by rw [Lib.toList_data, strB_toList, hl2]; rfl
        have hrl : r.length ≤ 200 := by simp at hl; omega
        rw [← hl2] at hl HT hsz ⊢
        have HL := put hl2
        clear hl2
        have hg1 := digI_ge l
        have hg2 := digI_le l
        have hr1 := digI_ge r
        have hr2 := digI_le r
        obtain ⟨D, hD⟩ : ∃ D, digI l = D := ⟨_, rfl⟩
        obtain ⟨d, hd⟩ : ∃ d, digI r = d := ⟨_, rfl⟩
        rw [hD] at hg1 hg2
        rw [hd] at hr1 hr2
        have HD := put hD
        have Hd := put hd
        clear hD hd
        by_cases c118 : c = 118
        · have HP := put (show readTok l = if (decide (0 ≤ d) && tokB 2 (d)) = true then some (2, d) else none by rw [HT.out, HL.out, c118, plain_v, Hd.out])
          have e118 : (((c.toNat : Nat) : Int) == 118) = true := by subst c118; decide
          clear HT
          by_cases h0 : 0 ≤ d
          · have HG := put (decide_eq_true h0)
            go_wp2_with fail
            refine (l2Digits_any l _ hl).mono ?_
            rintro e w1 ⟨rfl, rfl⟩
            rw [HD.out]
            go_wp2_with fail
            refine (l2Digits_any r _ hrl).mono ?_
            rintro e w1 ⟨rfl, rfl⟩
            rw [Hd.out]
            go_wp2_with fail
            go_region_with (go_at_call 24; refine (l2Token_any _ _ _).mono ?_; rintro e w1 ⟨rfl, hb1⟩; have hbc := bcell hb1; have hbf := bfrozen hb1)
            all_goals
              go_wp2
              have q := two_set (w1 := w1) (g := w.heap.size) (u0 := .int .i64 0) (u1 := .int .i64 0) ((hbc _ _ (by simp; omega)).trans (third_cell w #[.int .i64 0, .int .i64 0] 40 _ _ 0)) ((hbc _ _ (by simp; omega)).trans (third_cell w #[.int .i64 0, .int .i64 0] 40 _ _ 1)) (.int .i64 2) (.int .i64 d)
              refine bodyPost_ret (v := .tuple #[.agg #[.int .i64 2, .int .i64 d], .bool (tokB 2 d)]) (by simp [results, Tryz.results32, go_sem, q.1, q.2]) rfl ⟨2, d, tokB 2 d, rfl, (fun h => by rw [← HL.out, HP.out, h, HG.out]; rfl), (fun h => by rw [← HL.out, HP.out, h, Bool.and_false]; rfl), ?_⟩
              exact (((((((Below.refl _ _).alloc (Nat.le_refl _) _).alloc (by simp) _).alloc (by simp; omega) _).drew).trans (hb1.mono (by simp; omega))).setCell (by simp) _).setCell (by simp) _
          · have hG := decide_eq_false h0
            have HG := put hG
            go_wp2_with fail
            refine (l2Digits_any l _ hl).mono ?_
            rintro e w1 ⟨rfl, rfl⟩
            rw [HD.out]
            go_wp2_with fail
            refine (l2Digits_any r _ hrl).mono ?_
            rintro e w1 ⟨rfl, rfl⟩
            rw [Hd.out]
            go_wp2_with fail
            go_region
            all_goals
              go_wp2
              refine bodyPost_ret (v := .tuple #[.agg #[.int .i64 2, .int .i64 d], .bool false]) (by simp [results, Tryz.results32, go_sem]) rfl ⟨2, d, false, rfl, (fun h => by cases h), (fun _ => by rw [← HL.out, HP.out, HG.out, Bool.false_and]; rfl), ?_⟩
              exact ((((Below.refl _ _).alloc (Nat.le_refl _) _).alloc (by simp) _).alloc (by simp; omega) _).drew
        · by_cases c102 : c = 102
          · have HP := put (show readTok l = if (decide (0 ≤ d) && tokB 11 (d)) = true then some (11, d) else none by rw [HT.out, HL.out, c102, plain_f, Hd.out])
            have e118 : (((c.toNat : Nat) : Int) == 118) = false := beqI (fun e => c118 (UInt8.toNat_inj.1 (by simp; omega)))
            have e102 : (((c.toNat : Nat) : Int) == 102) = true := by subst c102; decide
            clear HT
            by_cases h0 : 0 ≤ d
            · have HG := put (decide_eq_true h0)
              go_wp2_with fail
              refine (l2Digits_any l _ hl).mono ?_
              rintro e w1 ⟨rfl, rfl⟩
              rw [HD.out]
              go_wp2_with fail
              refine (l2Digits_any r _ hrl).mono ?_
              rintro e w1 ⟨rfl, rfl⟩
              rw [Hd.out]
              go_wp2_with fail
              go_region_with (go_at_call 24; refine (l2Token_any _ _ _).mono ?_; rintro e w1 ⟨rfl, hb1⟩; have hbc := bcell hb1; have hbf := bfrozen hb1)
              all_goals
                go_wp2
                have q := two_set (w1 := w1) (g := w.heap.size) (u0 := .int .i64 0) (u1 := .int .i64 0) ((hbc _ _ (by simp; omega)).trans (third_cell w #[.int .i64 0, .int .i64 0] 40 _ _ 0)) ((hbc _ _ (by simp; omega)).trans (third_cell w #[.int .i64 0, .int .i64 0] 40 _ _ 1)) (.int .i64 11) (.int .i64 d)
                refine bodyPost_ret (v := .tuple #[.agg #[.int .i64 11, .int .i64 d], .bool (tokB 11 d)]) (by simp [results, Tryz.results32, go_sem, q.1, q.2]) rfl ⟨11, d, tokB 11 d, rfl, (fun h => by rw [← HL.out, HP.out, h, HG.out]; rfl), (fun h => by rw [← HL.out, HP.out, h, Bool.and_false]; rfl), ?_⟩
                exact (((((((Below.refl _ _).alloc (Nat.le_refl _) _).alloc (by simp) _).alloc (by simp; omega) _).drew).trans (hb1.mono (by simp; omega))).setCell (by simp) _).setCell (by simp) _
            · have hG := decide_eq_false h0
              have HG := put hG
              go_wp2_with fail
              refine (l2Digits_any l _ hl).mono ?_
              rintro e w1 ⟨rfl, rfl⟩
              rw [HD.out]
              go_wp2_with fail
              refine (l2Digits_any r _ hrl).mono ?_
              rintro e w1 ⟨rfl, rfl⟩
              rw [Hd.out]
              go_wp2_with fail
              go_region
              all_goals
                go_wp2
                refine bodyPost_ret (v := .tuple #[.agg #[.int .i64 11, .int .i64 d], .bool false]) (by simp [results, Tryz.results32, go_sem]) rfl ⟨11, d, false, rfl, (fun h => by cases h), (fun _ => by rw [← HL.out, HP.out, HG.out, Bool.false_and]; rfl), ?_⟩
                exact ((((Below.refl _ _).alloc (Nat.le_refl _) _).alloc (by simp) _).alloc (by simp; omega) _).drew
          · by_cases c45 : c = 45
            · have HP := put (show readTok l = if (decide (-d < 0) && tokB 1 (-d)) = true then some (1, -d) else none by rw [HT.out, HL.out, c45, plain_m, Hd.out])
              have e118 : (((c.toNat : Nat) : Int) == 118) = false := beqI (fun e => c118 (UInt8.toNat_inj.1 (by simp; omega)))
              have e102 : (((c.toNat : Nat) : Int) == 102) = false := beqI (fun e => c102 (UInt8.toNat_inj.1 (by simp; omega)))
              have e45 : (((c.toNat : Nat) : Int) == 45) = true := by subst c45; decide
              clear HT
              by_cases h0 : -d < 0
              · have HG := put (decide_eq_true h0)
                go_wp2_with fail
                refine (l2Digits_any l _ hl).mono ?_
                rintro e w1 ⟨rfl, rfl⟩
                rw [HD.out]
                go_wp2_with fail
                refine (l2Digits_any r _ hrl).mono ?_
                rintro e w1 ⟨rfl, rfl⟩
                rw [Hd.out]
                go_wp2_with fail
                go_region_with (go_at_call 24; refine (l2Token_any _ _ _).mono ?_; rintro e w1 ⟨rfl, hb1⟩; have hbc := bcell hb1; have hbf := bfrozen hb1)
                all_goals
                  go_wp2
                  have q := two_set (w1 := w1) (g := w.heap.size) (u0 := .int .i64 0) (u1 := .int .i64 0) ((hbc _ _ (by simp; omega)).trans (third_cell w #[.int .i64 0, .int .i64 0] 40 _ _ 0)) ((hbc _ _ (by simp; omega)).trans (third_cell w #[.int .i64 0, .int .i64 0] 40 _ _ 1)) (.int .i64 1) (.int .i64 (-d))
                  refine bodyPost_ret (v := .tuple #[.agg #[.int .i64 1, .int .i64 (-d)], .bool (tokB 1 (-d))]) (by simp [results, Tryz.results32, go_sem, q.1, q.2]) rfl ⟨1, (-d), tokB 1 (-d), rfl, (fun h => by rw [← HL.out, HP.out, h, HG.out]; rfl), (fun h => by rw [← HL.out, HP.out, h, Bool.and_false]; rfl), ?_⟩
                  exact (((((((Below.refl _ _).alloc (Nat.le_refl _) _).alloc (by simp) _).alloc (by simp; omega) _).drew).trans (hb1.mono (by simp; omega))).setCell (by simp) _).setCell (by simp) _
              · have hG := decide_eq_false h0
                have hG2 : decide (0 < d) = false := decide_eq_false (by omega)
                have HG := put hG
                go_wp2_with fail
                refine (l2Digits_any l _ hl).mono ?_
                rintro e w1 ⟨rfl, rfl⟩
                rw [HD.out]
                go_wp2_with fail
                refine (l2Digits_any r _ hrl).mono ?_
                rintro e w1 ⟨rfl, rfl⟩
                rw [Hd.out]
                go_wp2_with fail
                go_region
                all_goals
                  go_wp2
                  refine bodyPost_ret (v := .tuple #[.agg #[.int .i64 1, .int .i64 (-d)], .bool false]) (by simp [results, Tryz.results32, go_sem]) rfl ⟨1, (-d), false, rfl, (fun h => by cases h), (fun _ => by rw [← HL.out, HP.out, HG.out, Bool.false_and]; rfl), ?_⟩
                  exact ((((Below.refl _ _).alloc (Nat.le_refl _) _).alloc (by simp) _).alloc (by simp; omega) _).drew
            · have HP := put (show readTok l = if (decide (0 ≤ D) && tokB 1 (D)) = true then some (1, D) else none by rw [HT.out, HL.out, plain_n r c118 c102 c45, ← HL.out, HD.out])
              have e118 : (((c.toNat : Nat) : Int) == 118) = false := beqI (fun e => c118 (UInt8.toNat_inj.1 (by simp; omega)))
              have e102 : (((c.toNat : Nat) : Int) == 102) = false := beqI (fun e => c102 (UInt8.toNat_inj.1 (by simp; omega)))
              have e45 : (((c.toNat : Nat) : Int) == 45) = false := beqI (fun e => c45 (UInt8.toNat_inj.1 (by simp; omega)))
              clear HT
              by_cases h0 : 0 ≤ D
              · have HG := put (decide_eq_true h0)
                go_wp2_with fail
                refine (l2Digits_any l _ hl).mono ?_
                rintro e w1 ⟨rfl, rfl⟩
                rw [HD.out]
                go_wp2_with fail
                go_region_with (go_at_call 24; refine (l2Token_any _ _ _).mono ?_; rintro e w1 ⟨rfl, hb1⟩; have hbc := bcell hb1; have hbf := bfrozen hb1)
                all_goals
                  go_wp2
                  have q := two_set (w1 := w1) (g := w.heap.size) (u0 := .int .i64 0) (u1 := .int .i64 0) ((hbc _ _ (by simp; omega)).trans (third_cell w #[.int .i64 0, .int .i64 0] 40 _ _ 0)) ((hbc _ _ (by simp; omega)).trans (third_cell w #[.int .i64 0, .int .i64 0] 40 _ _ 1)) (.int .i64 1) (.int .i64 D)
                  refine bodyPost_ret (v := .tuple #[.agg #[.int .i64 1, .int .i64 D], .bool (tokB 1 D)]) (by simp [results, Tryz.results32, go_sem, q.1, q.2]) rfl ⟨1, D, tokB 1 D, rfl, (fun h => by rw [← HL.out, HP.out, h, HG.out]; rfl), (fun h => by rw [← HL.out, HP.out, h, Bool.and_false]; rfl), ?_⟩
                  exact (((((((Below.refl _ _).alloc (Nat.le_refl _) _).alloc (by simp) _).alloc (by simp; omega) _).drew).trans (hb1.mono (by simp; omega))).setCell (by simp) _).setCell (by simp) _
              · have hG := decide_eq_false h0
                have HG := put hG
                go_wp2_with fail
                refine (l2Digits_any l _ hl).mono ?_
                rintro e w1 ⟨rfl, rfl⟩
                rw [HD.out]
                go_wp2_with fail
                go_region
                all_goals
                  go_wp2
                  refine bodyPost_ret (v := .tuple #[.agg #[.int .i64 1, .int .i64 D], .bool false]) (by simp [results, Tryz.results32, go_sem]) rfl ⟨1, D, false, rfl, (fun h => by cases h), (fun _ => by rw [← HL.out, HP.out, HG.out, Bool.false_and]; rfl), ?_⟩
                  exact ((((Below.refl _ _).alloc (Nat.le_refl _) _).alloc (by simp) _).alloc (by simp; omega) _).drew

end Go.Proofs.YtpknbdaicmacjaaGreatDoor

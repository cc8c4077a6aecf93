/-
  The contract of the program's reading of one word.
-/
import Derived.Test.YtpknbdaicmacjaaGreatDoorSRead2
import Derived.Test.YtpknbdaicmacjaaGreatDoorSRead
import Derived.Test.YtpknbdaicmacjaaGreatDoorIText2
namespace Go.Proofs.YtpknbdaicmacjaaGreatDoor
open Go.RowKit Exs
set_option linter.unusedVariables false

/-- A value of an interface's type. -/
def IfaceV (v : Value) : Prop := v = .nilIface ∨ ∃ t p, v = .iface t p
/-- The library's two errors and the number that its search reads are there. -/
def Errs (w : World) : Prop := (∃ v, w.cell? ⟨2, 0, none⟩ = some v ∧ IfaceV v) ∧ (∃ v, w.cell? ⟨3, 0, none⟩ = some v ∧ IfaceV v) ∧ ∃ m, w.cell? ⟨1, 0, none⟩ = some (.int .i64 m)
theorem Errs.below {w w' : World} {B : Nat} (h : Errs w) (hb : Below B w w') (hB : 3 < B) : Errs w' := by
  obtain ⟨⟨v, h1, h2⟩, ⟨u, h3, h4⟩, m, h5⟩ := h
  exact ⟨⟨v, (hb.cell (p := ⟨2, 0, none⟩) (by show 2 < B; omega)).trans h1, h2⟩, ⟨u, (hb.cell (p := ⟨3, 0, none⟩) hB).trans h3, h4⟩, m, (hb.cell (p := ⟨1, 0, none⟩) (by show 1 < B; omega)).trans h5⟩

/-- What Atoi leaves. -/
def AtoiE (d : List UInt8) (w : World) (e : Ending) (w' : World) : Prop :=
  ∃ (n : Int) (ev : Value), e = .returned (.tuple #[.int .i64 n, ev]) ∧ IfaceV ev ∧ Hid (∀ v, Lib.atoiAll d = .ok v → ev = .nilIface ∧ n = v) ∧ Below w.heap.size w w'

theorem atoi_any (d : List UInt8) (w : World) (hd : d.length ≤ 200) (he : Errs w) : Calls Tryz.prog 49 #[.string (strB d)] w (AtoiE d w) := by
  have hsz := strB_size d
  obtain ⟨⟨v2, c2, i2⟩, ⟨v3, c3, i3⟩, _⟩ := he
  rcases h : Lib.atoiAll d with v | _ | _
  · refine (Tryz.strconv_Atoi_ok (strB d) (by omega) v h w).mono ?_
    rintro e w' ⟨rfl, hw⟩
    refine ⟨v, .nilIface, rfl, .inl rfl, fun u hu => ?_, ?_⟩
    · rw [h] at hu; injection hu with hu; exact ⟨rfl, hu⟩
    · rcases hw with rfl | ⟨t, rfl⟩
      · exact Below.refl _ _
      · exact Lib.bytesWorld_below _ _ _
  · have H : Calls Tryz.prog 49 #[.string (strB d)] w fun e w' => ∃ N, e = .returned (.tuple #[.int .i64 0, .iface 97 (.pointer (some ⟨N, 0, none⟩))]) ∧ w.heap.size ≤ N ∧ w'.heap[N]? = some (.cells #[.string ⟨#[65, 116, 111, 105]⟩, .string (strB d), v2] 109 (0, 0)) ∧ Below w.heap.size w w' :=
      Any.strconv_Atoi_syntax Tryz.laysC172 (strB d) (by omega) h v2 w c2 i2
    refine H.mono ?_
    rintro e w' ⟨N, rfl, _, _, hb⟩
    exact ⟨0, _, rfl, .inr ⟨_, _, rfl⟩, (fun u hu => by rw [h] at hu; cases hu), hb⟩
  · have H : Calls Tryz.prog 49 #[.string (strB d)] w fun e w' => ∃ N, e = .returned (.tuple #[.int .i64 (Lib.atoiSat d), .iface 97 (.pointer (some ⟨N, 0, none⟩))]) ∧ w.heap.size ≤ N ∧ w'.heap[N]? = some (.cells #[.string ⟨#[65, 116, 111, 105]⟩, .string (strB d), v3] 109 (0, 0)) ∧ Below w.heap.size w w' :=
      Any.strconv_Atoi_range Tryz.laysC172 (strB d) (by omega) h v3 w c3 i3
    refine H.mono ?_
    rintro e w' ⟨N, rfl, _, _, hb⟩
    exact ⟨_, _, rfl, .inr ⟨_, _, rfl⟩, (fun u hu => by rw [h] at hu; cases hu), hb⟩

/-- What the program's reading of one word leaves: a word that is a token's text is read as that token. -/
def WordT (u : List UInt8) (w : World) (e : Ending) (w' : World) : Prop :=
  ∃ (op x : Int) (b : Bool), e = .returned (.tuple #[.agg #[.int .i64 op, .int .i64 x], .bool b]) ∧ Hid (∀ t, goodTok t → u = tokL t → b = true ∧ t = (op, x)) ∧ Below w.heap.size w w'

theorem wordN_op {k : Nat} (h0 : 3 ≤ k) (h1 : k ≤ 10) : wordN k = word k := by
  have h : k = 3 ∨ k = 4 ∨ k = 5 ∨ k = 6 ∨ k = 7 ∨ k = 8 ∨ k = 9 ∨ k = 10 := by omega
  rcases h with rfl | rfl | rfl | rfl | rfl | rfl | rfl | rfl <;> rfl
theorem tok_word {k : Nat} (h0 : 3 ≤ k) (h1 : k ≤ 10) : ∀ t, goodTok t → word k = tokL t → t = ((k : Int), 0) := by
  intro t ht he
  have h2 := readTok_tokL ht
  rw [← he, readTok, opOf_word (by omega) (by omega)] at h2
  injection h2 with h2
  exact h2.symm
theorem tok_plain {u : List UInt8} {t : Token} (ht : goodTok t) (hu : u = tokL t) (hno : ∀ j : Nat, 3 ≤ j → j < 11 → u ≠ wordN j) : (t.1 = 1 ∧ -2147483648 ≤ t.2 ∧ t.2 ≤ 2147483647) ∨ ((t.1 = 2 ∨ t.1 = 11) ∧ 0 ≤ t.2 ∧ t.2 ≤ 99) := by
  rcases ht with h | h | ⟨h1, h2, h3⟩
  · exact .inl h
  · exact .inr h
  · exfalso
    obtain ⟨op, x⟩ := t
    simp only at h1 h2 h3
    subst h3
    refine hno op.toNat (by omega) (by omega) ?_
    rw [hu, word_op h1 h2]
theorem atoi_v {u d : List UInt8} {b : UInt8} (op : Int) (hop : (op = 2 ∧ b = 118) ∨ (op = 11 ∧ b = 102)) (hu : u = b :: d) (hno : ∀ j : Nat, 3 ≤ j → j < 11 → u ≠ wordN j) (t : Token) (ht : goodTok t) (he : u = tokL t) :
    t.1 = op ∧ Lib.atoiAll d = .ok t.2 := by
  have hp := tok_plain ht he hno
  obtain ⟨o, x⟩ := t
  simp only at hp ⊢
  have hc : (o = 1 ∧ -2147483648 ≤ x ∧ x ≤ 2147483647) ∨ (o = 2 ∧ 0 ≤ x ∧ x ≤ 99) ∨ (o = 11 ∧ 0 ≤ x ∧ x ≤ 99) := by omega
  rw [hu] at he
  rcases hc with ⟨rfl, h0, h1⟩ | ⟨rfl, h0, h1⟩ | ⟨rfl, h0, h1⟩
  · exfalso
    rw [tokL_num] at he
    by_cases hneg : x < 0
    · rw [intL_neg hneg] at he
      injection he with he
      rcases hop with ⟨_, rfl⟩ | ⟨_, rfl⟩ <;> cases he
    · rw [intL_pos hneg] at he
      have := numL_digs x.toNat b (by rw [← he]; simp)
      rcases hop with ⟨_, rfl⟩ | ⟨_, rfl⟩ <;> simp [isDig] at this
  · obtain ⟨m, rfl⟩ := Int.eq_ofNat_of_zero_le h0
    rw [tokL_var] at he
    injection he with he1 he2
    subst he1
    rcases hop with ⟨rfl, _⟩ | ⟨_, h⟩
    · refine ⟨rfl, ?_⟩
      rw [he2]
      exact atoi_num m (by omega)
    · cases h
  · obtain ⟨m, rfl⟩ := Int.eq_ofNat_of_zero_le h0
    rw [tokL_call] at he
    injection he with he1 he2
    subst he1
    rcases hop with ⟨_, h⟩ | ⟨rfl, _⟩
    · cases h
    · refine ⟨rfl, ?_⟩
      rw [he2]
      exact atoi_num m (by omega)
theorem atoi_n {u : List UInt8} (hv : Lib.hasPrefix u [118] = false) (hf : Lib.hasPrefix u [102] = false) (hno : ∀ j : Nat, 3 ≤ j → j < 11 → u ≠ wordN j) (t : Token) (ht : goodTok t) (he : u = tokL t) :
    t.1 = 1 ∧ Lib.atoiAll u = .ok t.2 := by
  have hp := tok_plain ht he hno
  obtain ⟨o, x⟩ := t
  simp only at hp ⊢
  have hc : (o = 1 ∧ -2147483648 ≤ x ∧ x ≤ 2147483647) ∨ (o = 2 ∧ 0 ≤ x ∧ x ≤ 99) ∨ (o = 11 ∧ 0 ≤ x ∧ x ≤ 99) := by omega
  rcases hc with ⟨rfl, h0, h1⟩ | ⟨rfl, h0, h1⟩ | ⟨rfl, h0, h1⟩
  · rw [tokL_num] at he
    exact ⟨rfl, by rw [he]; exact atoi_int h0 h1⟩
  · obtain ⟨m, rfl⟩ := Int.eq_ofNat_of_zero_le h0
    rw [tokL_var] at he
    rw [he] at hv
    simp [Lib.hasPrefix, List.isPrefixOf] at hv
  · obtain ⟨m, rfl⟩ := Int.eq_ofNat_of_zero_le h0
    rw [tokL_call] at he
    rw [he] at hf
    simp [Lib.hasPrefix, List.isPrefixOf] at hf

theorem prefix_one {u : List UInt8} {b : UInt8} (h : Lib.hasPrefix u [b] = true) : u = b :: Lib.trimPrefix u [b] := by
  unfold Lib.trimPrefix
  rw [if_pos h]
  cases u with
  | nil => simp [Lib.hasPrefix, List.isPrefixOf] at h
  | cons c r =>
    simp [Lib.hasPrefix, List.isPrefixOf] at h
    simp [h]

/-- CutPrefix in these words. -/
theorem cutPrefix_any (u p : List UInt8) (w : World) : Calls Tryz.prog 48 #[.string (strB u), .string (strB p)] w fun e w' => e = .returned (.tuple #[.string (strB (Lib.trimPrefix u p)), .bool (Lib.hasPrefix u p)]) ∧ w = w' := by
  refine (Tryz.strings_CutPrefix (strB u) (strB p) w).mono ?_
  rintro e w' ⟨rfl, rfl⟩
  exact ⟨rfl, rfl⟩

set_option maxHeartbeats 4000000 in
set_option maxRecDepth 100000 in
theorem tokenOf_any (u : List UInt8) (w : World) (hl : u.length ≤ 200) (h3 : 3 < w.heap.size) (hw : Hid (Words w)) (he : Hid (Errs w)) : Calls Tryz.prog 28 #[.string (strB u)] w (WordT u w) := by
  have i0 : ∀ W, (Instr.index 73 (.agg #[.int .i64 2, .int .i64 11, .int .i64 1]) (.int .i64 0)).run Tryz.prog W = .ok (.int .i64 2) W := fun _ => by kernel_rfl
  have i1 : ∀ W, (Instr.index 73 (.agg #[.int .i64 2, .int .i64 11, .int .i64 1]) (.int .i64 1)).run Tryz.prog W = .ok (.int .i64 11) W := fun _ => by kernel_rfl
  have i2 : ∀ W, (Instr.index 73 (.agg #[.int .i64 2, .int .i64 11, .int .i64 1]) (.int .i64 2)).run Tryz.prog W = .ok (.int .i64 1) W := fun _ => by kernel_rfl
  have b0 : Below w.heap.size w (w.alloc (Obj.cells #[Value.int IntKind.i64 0, Value.int IntKind.i64 0] 40)) := (Below.refl _ _).alloc (Nat.le_refl _) _
  have HW := put (hw.out.below b0 (by omega))
  have HE := put (he.out.below b0 h3)
  go_enter Tryz.func28, Tryz.ntmps28
  go_wp2_with fail
  go_loop [4] (fun i => ∃ k : Nat, 3 ≤ k ∧ k ≤ 11 ∧ i = .int .i64 k ∧ Hid (∀ j : Nat, 3 ≤ j → j < k → u ≠ wordN j)) (fun i => 11 - (intOf i).toNat)
  case atStart => exact ⟨3, by omega, by omega, rfl, fun j h1 h2 => by omega⟩
  case round =>
    obtain ⟨k, hk3, hk, rfl, hno⟩ := hrel
    by_cases hlt : k < 11
    · have hcell := HW.out k (by omega)
      by_cases heq : u = wordN k
      · have HR := put (show ∀ t, goodTok t → u = tokL t → t = ((k : Int), 0) from fun t ht e => tok_word hk3 (by omega) t ht (by rw [← wordN_op hk3 (by omega), ← heq]; exact e))
        have hcmp := str_eq u (wordN k)
        rw [decide_eq_true heq] at hcmp
        clear heq
        generalize wordN k = v at *
        have hk10 : k ≤ 10 := by omega
        go_wp2
        exact bodyPost_ret (v := .tuple #[.agg #[.int .i64 k, .int .i64 0], .bool true]) (by simp [results, Tryz.results28, go_sem]) rfl ⟨k, 0, true, rfl, (fun t ht e => ⟨rfl, HR.out t ht e⟩), (Below.refl _ _).alloc (Nat.le_refl _) _⟩
      · have HN := put (show ∀ j : Nat, 3 ≤ j → j < k + 1 → u ≠ wordN j by
          intro j a b e
          by_cases hj : j < k
          · exact hno.out j a hj e
          · obtain rfl : j = k := by omega
            exact heq e)
        have hcmp := str_eq u (wordN k)
        rw [decide_eq_false heq] at hcmp
        clear heq
        generalize wordN k = v at *
        have hk10 : k ≤ 10 := by omega
        go_wp2
        go_round
        case rel => exact ⟨k + 1, by omega, by omega, by go_num, HN⟩
        case measure => simp [intOf]; omega
    · obtain rfl : k = 11 := by omega
      have hc2 := HW.out.at_ 2 (by omega) (l := [118]) rfl
      have hc11 := HW.out.at_ 11 (by omega) (l := [102]) rfl
      have hc1 := HW.out.at_ 1 (by omega) (l := []) rfl
      clear hlt hk hk3
      go_wp2_with fail
      go_loop [23] (fun i => ∃ j : Nat, j < 3 ∧ i = .int .i64 j ∧ Hid (1 ≤ j → Lib.hasPrefix u [118] = false) ∧ Hid (2 ≤ j → Lib.hasPrefix u [102] = false)) (fun i => 3 - (intOf i).toNat)
      case atStart => exact ⟨0, by omega, rfl, (fun h => by omega), fun h => by omega⟩
      case round =>
        obtain ⟨j, hj, rfl, hp1, hp2⟩ := hrel
        have hcs : j = 0 ∨ j = 1 ∨ j = 2 := by omega
        rcases hcs with rfl | rfl | rfl
        · cases hpre : Lib.hasPrefix u [118] with
          | true =>
            have HA := put (atoi_v 2 (.inl ⟨rfl, rfl⟩) (prefix_one hpre) hno.out)
            have hdl : (Lib.trimPrefix u [118]).length ≤ 200 := by have := congrArg List.length (prefix_one hpre); simp at this; omega
            obtain ⟨d, hd⟩ : ∃ d, Lib.trimPrefix u [118] = d := ⟨_, rfl⟩
            rw [hd] at HA hdl
            have HTD := put hd
            clear hd
            go_wp2_with fail
            refine (cutPrefix_any u [118] _).mono ?_
            rintro e w1 ⟨rfl, rfl⟩
            rw [HTD.out]
            go_wp2_with fail
            with_reducible refine (atoi_any d _ hdl HE.out).mono ?_
            rintro e w1 ⟨n, ev, rfl, hev, hat, hb1⟩
            have hbc := bcell hb1
            have hbf := bfrozen hb1
            have hgd := put (show ∀ t, goodTok t → u = tokL t → ev = .nilIface ∧ t = (2, n) from fun t ht e => by
              obtain ⟨a1, a2⟩ := HA.out t ht e
              obtain ⟨a3, a4⟩ := hat.out _ a2
              exact ⟨a3, by rw [← a1, a4]⟩)
            have q := two_set (w1 := w1) (g := w.heap.size) (u0 := .int .i64 0) (u1 := .int .i64 0) ((hbc _ _ (by simp)).trans (by simp)) ((hbc _ _ (by simp)).trans (by simp)) (.int .i64 2) (.int .i64 n)
            rcases hev with rfl | ⟨et, ep, rfl⟩
            · go_wp2_with fail
              go_region
              all_goals
                go_wp2
                refine bodyPost_ret (v := .tuple #[.agg #[.int .i64 2, .int .i64 n], .bool true]) (by simp [results, Tryz.results28, go_sem, q.1, q.2]) rfl ⟨2, n, true, rfl, (fun t ht e => ⟨rfl, (hgd.out t ht e).2⟩), ?_⟩
                exact ((((((Below.refl _ _).alloc (Nat.le_refl _) _)).trans (hb1.mono (by simp))).drew).setCell (by simp) _).setCell (by simp) _
            · go_wp2_with fail
              go_region
              all_goals
                go_wp2
                refine bodyPost_ret (v := .tuple #[.agg #[.int .i64 2, .int .i64 n], .bool false]) (by simp [results, Tryz.results28, go_sem, q.1, q.2]) rfl ⟨2, n, false, rfl, (fun t ht e => by have := (hgd.out t ht e).1; cases this), ?_⟩
                exact ((((((Below.refl _ _).alloc (Nat.le_refl _) _)).trans (hb1.mono (by simp))).drew).setCell (by simp) _).setCell (by simp) _
          | false =>
            have HPF := put hpre
            go_wp2_with fail
            refine (cutPrefix_any u [118] _).mono ?_
            rintro e w1 ⟨rfl, rfl⟩
            go_wp2
            go_round
            case rel => exact ⟨1, by omega, rfl, (fun _ => by first | trivial | exact HPF.out), fun h => by omega⟩
            case measure => simp [intOf]
        · cases hpre : Lib.hasPrefix u [102] with
          | true =>
            have HA := put (atoi_v 11 (.inr ⟨rfl, rfl⟩) (prefix_one hpre) hno.out)
            have hdl : (Lib.trimPrefix u [102]).length ≤ 200 := by have := congrArg List.length (prefix_one hpre); simp at this; omega
            obtain ⟨d, hd⟩ : ∃ d, Lib.trimPrefix u [102] = d := ⟨_, rfl⟩
            rw [hd] at HA hdl
            have HTD := put hd
            clear hd
            go_wp2_with fail
            refine (cutPrefix_any u [102] _).mono ?_
            rintro e w1 ⟨rfl, rfl⟩
            rw [HTD.out]
            go_wp2_with fail
            with_reducible refine (atoi_any d _ hdl HE.out).mono ?_
            rintro e w1 ⟨n, ev, rfl, hev, hat, hb1⟩
            have hbc := bcell hb1
            have hbf := bfrozen hb1
            have hgd := put (show ∀ t, goodTok t → u = tokL t → ev = .nilIface ∧ t = (11, n) from fun t ht e => by
              obtain ⟨a1, a2⟩ := HA.out t ht e
              obtain ⟨a3, a4⟩ := hat.out _ a2
              exact ⟨a3, by rw [← a1, a4]⟩)
            have q := two_set (w1 := w1) (g := w.heap.size) (u0 := .int .i64 0) (u1 := .int .i64 0) ((hbc _ _ (by simp)).trans (by simp)) ((hbc _ _ (by simp)).trans (by simp)) (.int .i64 11) (.int .i64 n)
            rcases hev with rfl | ⟨et, ep, rfl⟩
            · go_wp2_with fail
              go_region
              all_goals
                go_wp2
                refine bodyPost_ret (v := .tuple #[.agg #[.int .i64 11, .int .i64 n], .bool true]) (by simp [results, Tryz.results28, go_sem, q.1, q.2]) rfl ⟨11, n, true, rfl, (fun t ht e => ⟨rfl, (hgd.out t ht e).2⟩), ?_⟩
                exact ((((((Below.refl _ _).alloc (Nat.le_refl _) _)).trans (hb1.mono (by simp))).drew).setCell (by simp) _).setCell (by simp) _
            · go_wp2_with fail
              go_region
              all_goals
                go_wp2
                refine bodyPost_ret (v := .tuple #[.agg #[.int .i64 11, .int .i64 n], .bool false]) (by simp [results, Tryz.results28, go_sem, q.1, q.2]) rfl ⟨11, n, false, rfl, (fun t ht e => by have := (hgd.out t ht e).1; cases this), ?_⟩
                exact ((((((Below.refl _ _).alloc (Nat.le_refl _) _)).trans (hb1.mono (by simp))).drew).setCell (by simp) _).setCell (by simp) _
          | false =>
            have HPF := put hpre
            go_wp2_with fail
            refine (cutPrefix_any u [102] _).mono ?_
            rintro e w1 ⟨rfl, rfl⟩
            go_wp2
            go_round
            case rel => exact ⟨2, by omega, rfl, (fun _ => hp1.out (by omega)), fun _ => by first | trivial | exact HPF.out⟩
            case measure => simp [intOf]
        · have hpre : Lib.hasPrefix u [] = true := by cases u <;> rfl
          have hdl : (Lib.trimPrefix u []).length ≤ 200 := by unfold Lib.trimPrefix; rw [if_pos hpre]; simpa using hl
          have HA := put (atoi_n (hp1.out (by omega)) (hp2.out (by omega)) hno.out)
          obtain ⟨d, hd⟩ : ∃ d, Lib.trimPrefix u [] = d := ⟨_, rfl⟩
          have hdu : u = d := by rw [← hd]; unfold Lib.trimPrefix; rw [if_pos hpre]; simp
          rw [hd] at hdl
          have HTD := put hd
          have HDU := put hdu
          clear hd hdu
          go_wp2_with fail
          refine (cutPrefix_any u [] _).mono ?_
          rintro e w1 ⟨rfl, rfl⟩
          rw [HTD.out]
          go_wp2_with fail
          with_reducible refine (atoi_any d _ hdl HE.out).mono ?_
          rintro e w1 ⟨n, ev, rfl, hev, hat, hb1⟩
          have hbc := bcell hb1
          have hbf := bfrozen hb1
          have hgd := put (show ∀ t, goodTok t → u = tokL t → ev = .nilIface ∧ t = (1, n) from fun t ht e => by
            obtain ⟨a1, a2⟩ := HA.out t ht e
            obtain ⟨a3, a4⟩ := hat.out _ (by rw [← HDU.out]; exact a2)
            exact ⟨a3, by rw [← a1, a4]⟩)
          have q := two_set (w1 := w1) (g := w.heap.size) (u0 := .int .i64 0) (u1 := .int .i64 0) ((hbc _ _ (by simp)).trans (by simp)) ((hbc _ _ (by simp)).trans (by simp)) (.int .i64 1) (.int .i64 n)
          rcases hev with rfl | ⟨et, ep, rfl⟩
          · go_wp2_with fail
            go_region
            all_goals
              go_wp2
              refine bodyPost_ret (v := .tuple #[.agg #[.int .i64 1, .int .i64 n], .bool true]) (by simp [results, Tryz.results28, go_sem, q.1, q.2]) rfl ⟨1, n, true, rfl, (fun t ht e => ⟨rfl, (hgd.out t ht e).2⟩), ?_⟩
              exact ((((((Below.refl _ _).alloc (Nat.le_refl _) _)).trans (hb1.mono (by simp))).drew).setCell (by simp) _).setCell (by simp) _
          · go_wp2_with fail
            go_region
            all_goals
              go_wp2
              refine bodyPost_ret (v := .tuple #[.agg #[.int .i64 1, .int .i64 n], .bool false]) (by simp [results, Tryz.results28, go_sem, q.1, q.2]) rfl ⟨1, n, false, rfl, (fun t ht e => by have := (hgd.out t ht e).1; cases this), ?_⟩
              exact ((((((Below.refl _ _).alloc (Nat.le_refl _) _)).trans (hb1.mono (by simp))).drew).setCell (by simp) _).setCell (by simp) _

end Go.Proofs.YtpknbdaicmacjaaGreatDoor

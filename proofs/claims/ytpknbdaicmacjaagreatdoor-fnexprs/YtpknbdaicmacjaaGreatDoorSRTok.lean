/-
  Contracts of the reference's reading of digits and words.
-/
import Derived.Test.YtpknbdaicmacjaaGreatDoorReadMath
import Derived.Test.YtpknbdaicmacjaaGreatDoorSText
namespace Go.Proofs.YtpknbdaicmacjaaGreatDoor
open Go.RowKit Exs
set_option linter.unusedVariables false

theorem digI_no {l : List UInt8} (h : l.length = 0 ∨ 10 < l.length ∨ (l.head? = some 48 ∧ 1 < l.length) ∨ l.all isDig = false) : digI l = -1 := by
  unfold digI digs; rw [if_pos h]
theorem digI_yes {l : List UInt8} (h : ¬ (l.length = 0 ∨ 10 < l.length ∨ (l.head? = some 48 ∧ 1 < l.length) ∨ l.all isDig = false)) : digI l = valL l := by
  unfold digI digs; rw [if_neg h]

theorem all_more {l : List UInt8} {k : Nat} {b : UInt8} (h : l[k]? = some b) (ha : (l.take k).all isDig = true) (hb : isDig b = true) : (l.take (k + 1)).all isDig = true := by
  rw [List.take_add_one, h, List.all_append, ha]; simp [hb]
theorem all_no {l : List UInt8} {k : Nat} {b : UInt8} (h : l[k]? = some b) (hb : isDig b = false) : l.all isDig = false := by
  rw [List.all_eq_false]; exact ⟨b, List.mem_of_getElem? h, by simp [hb]⟩
theorem valL_more {l : List UInt8} {k : Nat} {b : UInt8} (h : l[k]? = some b) : valL (l.take (k + 1)) = 10 * valL (l.take k) + (b.toNat - 48) := by
  rw [List.take_add_one, h]; exact valL_snoc _ _
theorem valL_lt : ∀ (k : Nat) (l : List UInt8), l.length = k → l.all isDig = true → valL l < 10 ^ k
  | 0, l, h, _ => by obtain rfl := List.eq_nil_of_length_eq_zero h; decide
  | k + 1, l, h, ha => by
    obtain ⟨d, b, rfl⟩ := snoc_of h
    rw [List.all_append, Bool.and_eq_true] at ha
    have ih := valL_lt k d (by simpa using h) ha.1
    have hb := (isDig_iff b).1 (by simpa using ha.2)
    rw [valL_snoc, Nat.pow_succ]
    omega

theorem beqI {a b : Int} (h : a ≠ b) : (a == b) = false := by simpa using h

/-- A byte of a text. -/
theorem byte_at (l : List UInt8) (k : Nat) (h : k < (strB l).size) : ∃ b : UInt8, (strB l)[k] = b ∧ l[k]? = some b := by
  rw [strB_size] at h
  exact ⟨l[k], rfl, List.getElem?_eq_getElem h⟩

set_option maxHeartbeats 1000000 in
set_option maxRecDepth 100000 in
theorem l2Digits_any (l : List UInt8) (w : World) (hl : l.length ≤ 200) : Calls Tryz.prog 51 #[.string (strB l)] w fun e w' => e = .returned (.int .i64 (digI l)) ∧ w = w' := by
  have hsz := strB_size l
  by_cases h0 : l.length = 0
  · have HD := put (digI_no (.inl h0))
    obtain rfl := List.eq_nil_of_length_eq_zero h0
    clear hsz h0
    go_enter Tryz.func51, Tryz.ntmps51
    go_wp2
    go_ret
    exact ⟨ret_int HD.out.symm, rfl⟩
  · by_cases h10 : 10 < l.length
    · have HD := put (digI_no (.inr (.inl h10)))
      have h1 : 10 < (strB l).size := by omega
      have h2 : ((((strB l).size : Nat) : Int) == 0) = false := beqI (by omega)
      clear hsz h0
      go_enter Tryz.func51, Tryz.ntmps51
      go_wp2
      go_ret
      exact ⟨ret_int HD.out.symm, rfl⟩
    · have hpos : 0 < (strB l).size := by omega
      obtain ⟨b, hb, hb2⟩ := byte_at l 0 hpos
      have hhd : l.head? = some b := by rw [List.head?_eq_getElem?]; exact hb2
      have h1 : (strB l).size ≤ 10 := by omega
      have h2 : ((((strB l).size : Nat) : Int) == 0) = false := beqI (by omega)
      have HS := put hsz
      clear hsz
      by_cases hz : ((b.toNat : Nat) : Int) = 48 ∧ 1 < (strB l).size
      · have HD := put (digI_no (l := l) (.inr (.inr (.inl ⟨by rw [hhd]; congr 1; exact UInt8.toNat_inj.1 (by have := hz.1; simp; omega), by have := hz.2; rw [HS.out] at this; exact this⟩))))
        obtain ⟨hz1, hz2⟩ := hz
        go_enter Tryz.func51, Tryz.ntmps51
        go_wp2
        go_ret
        exact ⟨ret_int HD.out.symm, rfl⟩
      · have HZ := put (show ¬ (l.head? = some 48 ∧ 1 < l.length) by
          rintro ⟨a, c⟩
          rw [hhd] at a
          injection a with a
          exact hz ⟨by rw [a]; rfl, by rw [HS.out]; exact c⟩)
        have hc : (¬ ((b.toNat : Nat) : Int) = 48) ∨ (((b.toNat : Nat) : Int) = 48 ∧ (strB l).size ≤ 1) := by omega
        have H0 := put h0
        have H10 := put h10
        clear hz hhd hb2 h0 h10
        rcases hc with hc | ⟨hc1, hc2⟩
        all_goals
          go_enter Tryz.func51, Tryz.ntmps51
          go_wp2
          go_loop [3, 4] (fun n i => ∃ k m : Nat, k ≤ (strB l).size ∧ i = .int .i64 k ∧ n = .int .i64 m ∧ m < 10000000000 ∧ Hid (m = valL (l.take k)) ∧ Hid ((l.take k).all isDig = true)) (fun _ i => (strB l).size - (intOf i).toNat)
          case atStart => exact ⟨0, 0, Nat.zero_le _, rfl, rfl, by omega, rfl, rfl⟩
          case round =>
            obtain ⟨k, m, hk, rfl, rfl, hm, hv, ha⟩ := hrel
            by_cases hlt : k < (strB l).size
            · obtain ⟨c, hcc, hc2⟩ := byte_at l k hlt
              cases hd : isDig c with
              | true =>
                have hd2 := (isDig_iff c).1 hd
                have HA := put (all_more hc2 ha.out hd)
                have HV := put (show 10 * m + (c.toNat - 48) = valL (l.take (k + 1)) by rw [valL_more hc2, hv.out])
                have hm2 : 10 * m + (c.toNat - 48) < 10000000000 := by
                  rw [HV.out]
                  refine Nat.lt_of_lt_of_le (valL_lt (k + 1) _ (by rw [List.length_take]; rw [HS.out] at hlt; omega) HA.out) ?_
                  exact Nat.le_trans (Nat.pow_le_pow_right (by omega) (show k + 1 ≤ 10 by omega)) (by decide)
                obtain ⟨d1, d2⟩ := hd2
                have HC := put hc2
                clear hd hc2
                go_wp2
                go_round
                case rel => exact ⟨k + 1, 10 * m + (c.toNat - 48), by omega, by go_num, by congr 1; omega, hm2, HV, HA⟩
                case measure => simp [intOf]; omega
              | false =>
                have HD := put (digI_no (l := l) (.inr (.inr (.inr (all_no hc2 hd)))))
                have hd2 : c.toNat < 48 ∨ (¬ c.toNat < 48 ∧ 57 < c.toNat) := by
                  by_cases h48 : c.toNat < 48
                  · exact .inl h48
                  · refine .inr ⟨h48, ?_⟩
                    by_cases h57 : 57 < c.toNat
                    · exact h57
                    · rw [(isDig_iff c).2 ⟨by omega, by omega⟩] at hd; cases hd
                clear hd hc2
                rcases hd2 with h48 | ⟨h48, h57⟩
                · go_wp2
                  go_ret
                  exact ⟨ret_int HD.out.symm, rfl⟩
                · go_wp2
                  go_ret
                  exact ⟨ret_int HD.out.symm, rfl⟩
            · have HD := put (digI_yes (l := l) (by
                rintro (h | h | h | h)
                · exact H0.out h
                · exact H10.out h
                · exact HZ.out h
                · have h5 := ha.out
                  rw [List.take_of_length_le (by rw [← HS.out]; omega)] at h5
                  rw [h5] at h; cases h))
              have HV := put (show m = valL l by rw [hv.out, List.take_of_length_le (by rw [← HS.out]; omega)])
              go_wp2
              go_ret
              exact ⟨ret_int (by rw [HD.out, HV.out]), rfl⟩

end Go.Proofs.YtpknbdaicmacjaaGreatDoor

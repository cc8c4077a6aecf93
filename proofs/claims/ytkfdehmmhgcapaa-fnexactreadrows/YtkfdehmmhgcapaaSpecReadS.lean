/-
  The contract of the reference's ReadS, and of the program's at every text and place that are as said.
-/
import Derived.Test.YtkfdehmmhgcapaaSpecReadU
import Derived.Test.YtkfdehmmhgcapaaReadS
import Derived.Test.YtkfdehmmhgcapaaPutS
namespace Go.Proofs.Ytkfdehmmhgcapaa
open Go.RowKit Leb

/-- The program's ReadS of a text and a place that are as said. -/
theorem readS_any (s : ByteArray) (a : Nat) (w : World) (hs : s.size ≤ 2000) (ha : a ≤ s.size) :
    Calls Try.prog 85 #[.string s, .int .i64 a] w fun e w' => e = .returned ((readS s a).told .i64) ∧ w = w' := by
  rcases ends_shape s a ha with ⟨L, hL1, hL2, hL3, hE, hsh⟩ | hE | hE
  · have hlen : (seg s a (a + L)).length = L := by rw [seg_length s a (a + L) (by omega) hL3]; omega
    have hl := seg_lastD hL1 hL3
    have hl7 := hsh.last
    rcases faultS_cases (seg s a (a + L)) with ⟨hf, _⟩ | ⟨_, hf, _⟩ | ⟨h10, hf, _⟩
    · exact readS_faulty s a L w hs ha hL1 hL2 hL3 hE 3 (.inl rfl) hf
    · exact readS_faulty s a L w hs ha hL1 hL2 hL3 hE 4 (.inr rfl) hf
    · exact readS_ends s a L w hs ha hL1 hL2 hL3 hE hf hlen hl (by rw [← hl]; exact hl7.2) h10
  · exact readS_none_any s a 2 w hs ha hE (.inl rfl)
  · exact readS_none_any s a 3 w hs ha hE (.inr rfl)

theorem putS_range (n : Int) : ∀ x ∈ putS n, 0 ≤ x ∧ x ≤ 255 := by
  suffices h : ∀ (k : Nat) (n : Int), n.natAbs ≤ k → ∀ x ∈ putS n, 0 ≤ x ∧ x ≤ 255 from h n.natAbs n (Nat.le_refl _)
  intro k
  induction k with
  | zero =>
    intro n hn x hx
    rw [putS_last (by omega)] at hx
    simp at hx
    omega
  | succ k ih =>
    intro n hn x hx
    by_cases h : -64 ≤ n ∧ n ≤ 63
    · rw [putS_last h] at hx
      simp at hx
      omega
    · rw [putS_more h] at hx
      rcases List.mem_cons.1 hx with rfl | hx
      · omega
      · exact ih (n / 128) (by omega) x hx

theorem readS_ne {s : ByteArray} {a L : Nat} {m : Int} (hE : endsAt s a = (((a + L : Nat) : Int), 0)) (hS : Shape (seg s a (a + L))) (h3 : (seg s a (a + L)).length = 10 → (seg s a (a + L)).getLastD 0 = 0 ∨ (seg s a (a + L)).getLastD 0 = 127) (hm : m = sval (seg s a (a + L)))
    (ht : (!(strOfNums (putS m)).toList == (s.extract a (a + L)).toList) = true) : readS s a = ⟨0, 0, 4, false⟩ := by
  have h1 : ¬ putS m = seg s a (a + L) := by
    intro he
    rw [(str_eq_iff (putS_range m) _).2 (by rw [nums_extract]; exact he)] at ht
    simp at ht
  rw [hm, putS_val hS] at h1
  rcases faultS_cases (seg s a (a + L)) with ⟨_, h, h5, h6⟩ | ⟨_, hf, _⟩ | ⟨_, _, h⟩
  · have := h3 h; omega
  · exact readS_fault hE hf (by decide)
  · exact absurd h h1
theorem readS_eq {s : ByteArray} {a L : Nat} {m : Int} (hE : endsAt s a = (((a + L : Nat) : Int), 0)) (hS : Shape (seg s a (a + L))) (h3 : (seg s a (a + L)).length = 10 → (seg s a (a + L)).getLastD 0 = 0 ∨ (seg s a (a + L)).getLastD 0 = 127) (hm : m = sval (seg s a (a + L)))
    (ht : (!(strOfNums (putS m)).toList == (s.extract a (a + L)).toList) = false) : readS s a = ⟨m, ((a + L : Nat) : Int), 0, true⟩ := by
  have h1 : putS m = seg s a (a + L) := by
    have : (strOfNums (putS m)).toList = (s.extract a (a + L)).toList := by simpa using ht
    have h2 := (str_eq_iff (putS_range m) _).1 this
    rw [nums_extract] at h2
    exact h2
  rw [hm, putS_val hS] at h1
  rcases faultS_cases (seg s a (a + L)) with ⟨_, h, h5, h6⟩ | ⟨_, hf, h⟩ | ⟨_, hf, _⟩
  · have := h3 h; omega
  · exact absurd h h1
  · rw [hm]; exact readS_fine hE hf

set_option maxHeartbeats 1000000 in
set_option maxRecDepth 100000 in
/-- The reference's ReadS, where a number's bytes end and need no more than 64 bits. -/
theorem specReadS_ends (s : ByteArray) (a L : Nat) (w : World) (hs : s.size ≤ 2000) (ha : a ≤ s.size) (hL1 : 1 ≤ L) (hL2 : L ≤ 10) (hL3 : a + L ≤ s.size)
    (HE : Hid (endsAt s a = (((a + L : Nat) : Int), 0))) (HS : Hid (Shape (seg s a (a + L)))) (h10 : L < 10 ∨ ((s[a + L - 1]'(by omega)).toNat : Int) = 0 ∨ ((s[a + L - 1]'(by omega)).toNat : Int) = 127)
    (HG : Hid (sgn (seg s a (a + L)) = if 64 ≤ ((s[a + L - 1]'(by omega)).toNat : Int) then -1 else 0))
    (HV : Hid (-9223372036854775808 ≤ sval (seg s a (a + L)) ∧ sval (seg s a (a + L)) ≤ 9223372036854775807))
    (H3 : Hid ((seg s a (a + L)).length = 10 → (seg s a (a + L)).getLastD 0 = 0 ∨ (seg s a (a + L)).getLastD 0 = 127)) :
    Calls Try.prog 54 #[.string s, .int .i64 a] w fun e w' => e = .returned ((readS s a).told .i64) ∧ Below w.heap.size w w' := by
  have hstart : ∀ z : Int, (z = if 64 ≤ ((s[a + L - 1]'(by omega)).toNat : Int) then -1 else 0) → z = sfrom (sgn (seg s a (a + L))) ((seg s a (a + L)).drop L) := by
    intro z hz
    rw [List.drop_of_length_le (by rw [seg_length s a (a + L) (by omega) hL3]; omega), sfrom, HG.out, hz]
  have HSt := put hstart; clear hstart
  have hcase : (L < 10 ∧ ((s[a + L - 1]'(by omega)).toNat : Int) < 64) ∨ (L < 10 ∧ 64 ≤ ((s[a + L - 1]'(by omega)).toNat : Int)) ∨
      (10 ≤ L ∧ ((s[a + L - 1]'(by omega)).toNat : Int) < 64 ∧ ((((s[a + L - 1]'(by omega)).toNat : Int) != 0) = false)) ∨
      (10 ≤ L ∧ 64 ≤ ((s[a + L - 1]'(by omega)).toNat : Int) ∧ ((((s[a + L - 1]'(by omega)).toNat : Int) != 127) = false)) := by
    simp only [bne_eq_false_iff_eq]
    omega
  clear h10
  rcases hcase with ⟨c1, c2⟩ | ⟨c1, c2⟩ | ⟨c1, c2, c3⟩ | ⟨c1, c2, c3⟩
  all_goals
    go_enter Try.func54, Try.ntmps54
    go_wp2_with fail
    refine (l1Place_yes s a _ hs (by omega) (by omega)).mono ?_
    rintro e w1 ⟨rfl, rfl⟩
    go_wp2_with fail
    refine (l1End_is HE.out _ hs ha).mono ?_
    rintro e w1 ⟨rfl, rfl⟩
    go_wp2_with fail
    go_loop [10, 11] (fun n k => ∃ (j : Nat) (m x : Int), j ≤ L ∧ k = .int .i64 x ∧ n = .int .i64 m ∧ Hid (x = (a : Int) + j - 1) ∧ Hid (m = sfrom (sgn (seg s a (a + L))) ((seg s a (a + L)).drop j))) (fun _ k => (intOf k + 1 - a).toNat)
    case atStart => exact ⟨L, _, _, Nat.le_refl _, rfl, rfl, by show _ = _; omega, HSt.out _ (by first | rw [if_pos (by omega)] | rw [if_neg (by omega)])⟩
    case round =>
      obtain ⟨j, m, x, hj, rfl, rfl, hx, hm⟩ := hrel
      have hrg := sfrom_drop (sgn (seg s a (a + L))) (seg s a (a + L)) j (by have := sgn_cases (seg s a (a + L)); omega) HV.out
      rw [← hm.out] at hrg
      obtain ⟨hm1, hm2⟩ := hrg
      by_cases h0 : j = 0
      · subst h0
        have hx1 : x < a := by have := hx.out; omega
        have hm0 := put (show m = sval (seg s a (a + L)) by rw [hm.out]; rfl)
        have hl := put (putS_length_i64 hm1 hm2)
        go_wp2_with fail
        go_region_with (go_at_call 68; refine (specPutS_any m _ hm1 hm2 hl).mono ?_; rintro e w2 ⟨rfl, hb⟩)
        all_goals go_wp2
        all_goals (refine bodyPost_ret (results4 rfl _ _ _) rfl ?_)
        all_goals first
          | exact ⟨by rw [readS_ne HE.out HS.out H3.out hm0.out (by assumption)]; rfl, (Below.refl _ w).drew.trans hb⟩
          | exact ⟨by rw [readS_eq HE.out HS.out H3.out hm0.out (by assumption)]; rfl, (Below.refl _ w).drew.trans hb⟩
      · obtain ⟨i, rfl⟩ : ∃ i, j = i + 1 := ⟨j - 1, by omega⟩
        obtain rfl : x = ((a + i : Nat) : Int) := by have := hx.out; omega
        have hd := seg_drop (s := s) (a := a) (L := L) (j := i) (by omega) hL3
        have hv : sfrom (sgn (seg s a (a + L))) ((seg s a (a + L)).drop i) = ((s[a + i]'(by omega)).toNat : Int) % 128 + 128 * m := by rw [hd, sfrom, hm.out]
        have hrg := sfrom_drop (sgn (seg s a (a + L))) (seg s a (a + L)) i (by have := sgn_cases (seg s a (a + L)); omega) HV.out
        rw [hv] at hrg
        have hb1 : -9223372036854775808 ≤ m * 128 := by omega
        have hb2 : m * 128 + ((s[a + i]'(by omega)).toNat : Int) % 128 ≤ 9223372036854775807 := by omega
        have hv2 := put (show sfrom (sgn (seg s a (a + L))) ((seg s a (a + L)).drop i) = m * 128 + ((s[a + i]'(by omega)).toNat : Int) % 128 by rw [hv]; omega)
        have hand := and127_byte (s[a + i]'(by omega))
        clear hd hv hrg
        go_wp2
        go_round
        case rel => exact ⟨i, sfrom (sgn (seg s a (a + L))) ((seg s a (a + L)).drop i), _, by omega, rfl, by rw [hv2.out], rfl, rfl⟩
        case measure => simp [intOf]; omega

end Go.Proofs.Ytkfdehmmhgcapaa

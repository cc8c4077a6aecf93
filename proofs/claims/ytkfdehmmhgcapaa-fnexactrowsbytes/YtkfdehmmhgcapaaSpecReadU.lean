/-
  The contract of the reference's ReadU.
-/
import Derived.Test.YtkfdehmmhgcapaaReadU
import Derived.Deep.RegionWith
namespace Go.Proofs.Ytkfdehmmhgcapaa
open Go.RowKit Leb

theorem l1End_is {s : ByteArray} {a : Nat} {x y : Int} (hE : endsAt s a = (x, y)) (w : World) (hs : s.size ≤ 2000) (ha : a ≤ s.size) :
    Calls Try.prog 73 #[.string s, .int .i64 a] w fun e w' => e = .returned (.tuple #[.int .i64 x, .int .i64 y]) ∧ w = w' := by
  have h := l1End_any s a w hs ha
  rw [hE] at h
  exact h

theorem and127_byte (b : UInt8) : bits .and .u8 (b.toNat : Int) 127 = (b.toNat : Int) % 128 := by
  have := and127u_all ⟨b.toNat, b.toNat_lt⟩
  rw [this]
  simp only
  omega

theorem seg_drop {s : ByteArray} {a L j : Nat} (hj : j < L) (hL : a + L ≤ s.size) : (seg s a (a + L)).drop j = ((s[a + j]'(by omega)).toNat : Int) :: (seg s a (a + L)).drop (j + 1) := by
  have h0 : ∀ i, i ≤ L → (seg s a (a + L)).drop i = seg s (a + i) (a + L) := by
    intro i hi
    unfold seg
    rw [← List.map_drop, List.drop_take, List.drop_drop, show a + L - a - i = a + L - (a + i) by omega]
  rw [h0 j (by omega), h0 (j + 1) (by omega), seg_cons s (a + j) (a + L) (by omega) hL, Nat.add_assoc]

theorem str_eq_iff {xs : List Int} (h : ∀ x ∈ xs, 0 ≤ x ∧ x ≤ 255) (d : ByteArray) : (strOfNums xs).toList = d.toList ↔ xs = nums d := by
  rw [ByteArray.toList_eq, ByteArray.toList_eq]
  constructor
  · intro he
    rw [← nums_strOfNums xs h]
    unfold nums
    rw [he]
  · rintro rfl
    rw [strOfNums_nums]

/-- What the last comparison of the reference tells. -/
theorem readU_ne {s : ByteArray} {a L m : Nat} (hE : endsAt s a = (((a + L : Nat) : Int), 0)) (hS : Shape (seg s a (a + L))) (h3 : ¬ ((seg s a (a + L)).length = 10 ∧ 1 < (seg s a (a + L)).getLastD 0)) (hm : m = val (seg s a (a + L)))
    (ht : (!(strOfNums (putU m)).toList == (s.extract a (a + L)).toList) = true) : readU s a = ⟨0, 0, 4, false⟩ := by
  have h1 : ¬ putU m = seg s a (a + L) := by
    intro he
    rw [(str_eq_iff (putU_range m) _).2 (by rw [nums_extract]; exact he)] at ht
    simp at ht
  rw [hm, putU_val hS] at h1
  rcases faultU_cases (seg s a (a + L)) with ⟨_, h⟩ | ⟨_, hf, _⟩ | ⟨_, _, h⟩
  · exact absurd h h3
  · exact readU_fault hE hf (by decide)
  · exact absurd h h1
theorem readU_eq {s : ByteArray} {a L m : Nat} (hE : endsAt s a = (((a + L : Nat) : Int), 0)) (hS : Shape (seg s a (a + L))) (h3 : ¬ ((seg s a (a + L)).length = 10 ∧ 1 < (seg s a (a + L)).getLastD 0)) (hm : m = val (seg s a (a + L)))
    (ht : (!(strOfNums (putU m)).toList == (s.extract a (a + L)).toList) = false) : readU s a = ⟨m, ((a + L : Nat) : Int), 0, true⟩ := by
  have h1 : putU m = seg s a (a + L) := by
    have : (strOfNums (putU m)).toList = (s.extract a (a + L)).toList := by simpa using ht
    have h2 := (str_eq_iff (putU_range m) _).1 this
    rw [nums_extract] at h2
    exact h2
  rw [hm, putU_val hS] at h1
  rcases faultU_cases (seg s a (a + L)) with ⟨_, h⟩ | ⟨_, hf, h⟩ | ⟨_, hf, _⟩
  · exact absurd h h3
  · exact absurd h h1
  · rw [hm]; exact readU_fine hE hf

set_option maxHeartbeats 400000 in
set_option maxRecDepth 100000 in
/-- The reference's ReadU, where a number's bytes end and need no more than 64 bits. -/
theorem specReadU_ends (s : ByteArray) (a L : Nat) (w : World) (hs : s.size ≤ 2000) (ha : a ≤ s.size) (hL1 : 1 ≤ L) (hL2 : L ≤ 10) (hL3 : a + L ≤ s.size)
    (HE : Hid (endsAt s a = (((a + L : Nat) : Int), 0))) (HS : Hid (Shape (seg s a (a + L)))) (h10 : L < 10 ∨ ((s[a + L - 1]'(by omega)).toNat : Int) ≤ 1) (HV : Hid (val (seg s a (a + L)) ≤ 18446744073709551615))
    (H3 : Hid (¬ ((seg s a (a + L)).length = 10 ∧ 1 < (seg s a (a + L)).getLastD 0))) :
    Calls Try.prog 53 #[.string s, .int .i64 a] w fun e w' => e = .returned ((readU s a).told .u64) ∧ Below w.heap.size w w' := by
  go_enter Try.func53, Try.ntmps53
  go_wp2_with fail
  refine (l1Place_yes s a _ hs (by omega) (by omega)).mono ?_
  rintro e w1 ⟨rfl, rfl⟩
  go_wp2_with fail
  refine (l1End_is HE.out _ hs ha).mono ?_
  rintro e w1 ⟨rfl, rfl⟩
  go_wp2_with fail
  all_goals
    go_loop [10, 11] (fun n k => ∃ (j m : Nat) (x : Int), j ≤ L ∧ k = .int .i64 x ∧ n = .int .u64 m ∧ Hid (x = (a : Int) + j - 1) ∧ Hid (m = val ((seg s a (a + L)).drop j))) (fun _ k => (intOf k + 1 - a).toNat)
    case atStart => exact ⟨L, 0, _, Nat.le_refl _, rfl, rfl, by show _ = _; omega, by show 0 = _; rw [List.drop_of_length_le (by rw [seg_length s a (a + L) (by omega) hL3]; omega)]; rfl⟩
    case round =>
      obtain ⟨j, m, x, hj, rfl, rfl, hx, hm⟩ := hrel
      by_cases h0 : j = 0
      · subst h0
        have hx1 : x < a := by have := hx.out; omega
        have hm0 := put (show m = val (seg s a (a + L)) by rw [hm.out]; rfl)
        have hmb : (m : Int) ≤ 18446744073709551615 := by have := hm0.out; have := HV.out; omega
        go_wp2_with fail
        go_region_with (go_at_call 74; refine (l1PutU_any m _ (by omega)).mono ?_; rintro e w2 ⟨rfl, hb⟩)
        all_goals go_wp2
        all_goals (refine bodyPost_ret (results4 rfl _ _ _) rfl ?_)
        all_goals first
          | exact ⟨by rw [readU_ne HE.out HS.out H3.out hm0.out (by assumption)]; rfl, (Below.refl _ w).drew.trans hb⟩
          | exact ⟨by rw [readU_eq HE.out HS.out H3.out hm0.out (by assumption)]; rfl, (Below.refl _ w).drew.trans hb⟩
      · obtain ⟨i, rfl⟩ : ∃ i, j = i + 1 := ⟨j - 1, by omega⟩
        obtain rfl : x = ((a + i : Nat) : Int) := by have := hx.out; omega
        have hd := seg_drop (s := s) (a := a) (L := L) (j := i) (by omega) hL3
        have hle := val_drop_le (seg s a (a + L)) i
        have hv : val ((seg s a (a + L)).drop i) = (((s[a + i]'(by omega)).toNat : Int) % 128).toNat + 128 * m := by rw [hd, val, hm.out]
        have hV := HV.out
        have hbd : (m : Int) * 128 + ((s[a + i]'(by omega)).toNat : Int) % 128 ≤ 18446744073709551615 := by omega
        have hv2 := put (show ((val ((seg s a (a + L)).drop i) : Nat) : Int) = (m : Int) * 128 + ((s[a + i]'(by omega)).toNat : Int) % 128 by omega)
        have hand := and127_byte (s[a + i]'(by omega))
        clear hd hle hv hV
        go_wp2
        go_round
        case rel => exact ⟨i, val ((seg s a (a + L)).drop i), _, by omega, rfl, by rw [hv2.out], rfl, rfl⟩
        case measure => simp [intOf]; omega

set_option maxHeartbeats 400000 in
set_option maxRecDepth 100000 in
/-- The reference's ReadU, where more than 64 bits would be needed. -/
theorem specReadU_wide (s : ByteArray) (a : Nat) (w : World) (hs : s.size ≤ 2000) (ha : a ≤ s.size) (hL3 : a + 10 ≤ s.size)
    (HE : Hid (endsAt s a = (((a + 10 : Nat) : Int), 0))) (hlast : 1 < ((s[a + 9]'(by omega)).toNat : Int)) (hR : Hid (readU s a = ⟨0, 0, 3, false⟩)) :
    Calls Try.prog 53 #[.string s, .int .i64 a] w fun e w' => e = .returned ((readU s a).told .u64) ∧ Below w.heap.size w w' := by
  go_enter Try.func53, Try.ntmps53
  go_wp2_with fail
  refine (l1Place_yes s a _ hs (by omega) (by omega)).mono ?_
  rintro e w1 ⟨rfl, rfl⟩
  go_wp2_with fail
  refine (l1End_is HE.out _ hs ha).mono ?_
  rintro e w1 ⟨rfl, rfl⟩
  go_wp2_with fail
  refine bodyPost_ret (results4 rfl _ _ _) rfl ?_
  exact ⟨by rw [hR.out]; rfl, Below.refl _ _⟩

set_option maxHeartbeats 400000 in
set_option maxRecDepth 100000 in
theorem specReadU_none (s : ByteArray) (a : Nat) (c : Int) (w : World) (hs : s.size ≤ 2000) (ha : a ≤ s.size) (HE : Hid (endsAt s a = (0, c))) (hc : c = 2 ∨ c = 3) :
    Calls Try.prog 53 #[.string s, .int .i64 a] w fun e w' => e = .returned ((readU s a).told .u64) ∧ Below w.heap.size w w' := by
  rcases hc with rfl | rfl
  all_goals
    have hR := put (readU_none HE.out (by decide))
    go_enter Try.func53, Try.ntmps53
    go_wp2_with fail
    refine (l1Place_yes s a _ hs (by omega) (by omega)).mono ?_
    rintro e w1 ⟨rfl, rfl⟩
    go_wp2_with fail
    refine (l1End_is HE.out _ hs ha).mono ?_
    rintro e w1 ⟨rfl, rfl⟩
    go_wp2
    refine bodyPost_ret (results4 rfl _ _ _) rfl ?_
    exact ⟨by rw [hR.out]; rfl, Below.refl _ _⟩

theorem seg_lastD {s : ByteArray} {a L : Nat} (hL1 : 1 ≤ L) (hL3 : a + L ≤ s.size) : (seg s a (a + L)).getLastD 0 = ((s[a + L - 1]'(by omega)).toNat : Int) := by
  have hd := seg_drop (s := s) (a := a) (L := L) (j := L - 1) (by omega) hL3
  have hlen : (seg s a (a + L)).length = L := by rw [seg_length s a (a + L) (by omega) hL3]; omega
  have e : (seg s a (a + L))[L - 1]? = some ((s[a + (L - 1)]'(by omega)).toNat : Int) := by
    have := List.getElem?_drop (xs := seg s a (a + L)) (i := L - 1) (j := 0)
    rw [hd] at this
    simpa using this.symm
  rw [List.getLastD_eq_getLast?, List.getLast?_eq_getElem?, hlen, e]
  simp only [Option.getD_some, show a + (L - 1) = a + L - 1 by omega]

/-- The reference's ReadU of a text and a place that are as said. -/
theorem specReadU_any (s : ByteArray) (a : Nat) (w : World) (hs : s.size ≤ 2000) (ha : a ≤ s.size) :
    Calls Try.prog 53 #[.string s, .int .i64 a] w fun e w' => e = .returned ((readU s a).told .u64) ∧ Below w.heap.size w w' := by
  rcases ends_shape s a ha with ⟨L, hL1, hL2, hL3, hE, hsh⟩ | hE | hE
  · have hlen : (seg s a (a + L)).length = L := by rw [seg_length s a (a + L) (by omega) hL3]; omega
    have hl := seg_lastD hL1 hL3
    by_cases h3 : (seg s a (a + L)).length = 10 ∧ 1 < (seg s a (a + L)).getLastD 0
    · obtain rfl : L = 10 := by rw [← hlen]; exact h3.1
      exact specReadU_wide s a w hs ha hL3 hE (by have h4 := h3.2; rw [hl] at h4; exact h4) (readU_fault hE (by unfold faultU; rw [if_pos h3]) (by decide))
    · refine specReadU_ends s a L w hs ha hL1 hL2 hL3 hE hsh ?_ (val_u64 hsh (by omega) h3) h3
      rw [← hl]
      rw [hlen] at h3
      omega
  · exact specReadU_none s a 2 w hs ha hE (.inl rfl)
  · exact specReadU_none s a 3 w hs ha hE (.inr rfl)

set_option maxHeartbeats 400000 in
set_option maxRecDepth 100000 in
/-- The reference's ReadU of a text or a place that is not as said. -/
theorem specReadU_bad (s : ByteArray) (a : Int) (w : World) (hs : s.size ≤ 9223372036854775807) (h : 2000 < s.size ∨ a < 0 ∨ (s.size : Int) < a) :
    Calls Try.prog 53 #[.string s, .int .i64 a] w fun e w' => e = .returned (.tuple #[.int .u64 0, .int .i64 0, .int .i64 1, .bool false]) ∧ w = w' := by
  go_enter Try.func53, Try.ntmps53
  go_wp2_with fail
  refine (l1Place_no s a _ hs h).mono ?_
  rintro e w1 ⟨rfl, rfl⟩
  go_wp2
  refine bodyPost_ret (results4 rfl _ _ _) rfl ?_
  exact ⟨rfl, rfl⟩

end Go.Proofs.Ytkfdehmmhgcapaa

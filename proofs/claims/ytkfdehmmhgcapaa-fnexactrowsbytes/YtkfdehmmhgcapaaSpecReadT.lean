/-
  The contract of the reference's ReadS at every text and place.
-/
import Derived.Test.YtkfdehmmhgcapaaSpecReadS
namespace Go.Proofs.Ytkfdehmmhgcapaa
open Go.RowKit Leb

set_option maxHeartbeats 400000 in
set_option maxRecDepth 100000 in
/-- The reference's ReadS, where more than 64 bits would be needed. -/
theorem specReadS_wide (s : ByteArray) (a : Nat) (w : World) (hs : s.size ≤ 2000) (ha : a ≤ s.size) (hL3 : a + 10 ≤ s.size)
    (HE : Hid (endsAt s a = (((a + 10 : Nat) : Int), 0))) (b0 : ((((s[a + 9]'(by omega)).toNat : Int) != 0) = true)) (b1 : ((((s[a + 9]'(by omega)).toNat : Int) != 127) = true)) (hR : Hid (readS s a = ⟨0, 0, 3, false⟩)) :
    Calls Try.prog 54 #[.string s, .int .i64 a] w fun e w' => e = .returned ((readS s a).told .i64) ∧ Below w.heap.size w w' := by
  go_enter Try.func54, Try.ntmps54
  go_wp2_with fail
  refine (l1Place_yes s a _ hs (by omega) (by omega)).mono ?_
  rintro e w1 ⟨rfl, rfl⟩
  go_wp2_with fail
  refine (l1End_is HE.out _ hs ha).mono ?_
  rintro e w1 ⟨rfl, rfl⟩
  go_wp2_with fail
  refine bodyPost_ret (results4 rfl _ _ _) rfl ?_
  exact ⟨by rw [hR.out]; rfl, Below.refl _ _⟩

set_option maxHeartbeats 400000 in
set_option maxRecDepth 100000 in
theorem specReadS_none (s : ByteArray) (a : Nat) (c : Int) (w : World) (hs : s.size ≤ 2000) (ha : a ≤ s.size) (HE : Hid (endsAt s a = (0, c))) (hc : c = 2 ∨ c = 3) :
    Calls Try.prog 54 #[.string s, .int .i64 a] w fun e w' => e = .returned ((readS s a).told .i64) ∧ Below w.heap.size w w' := by
  rcases hc with rfl | rfl
  all_goals
    have hR := put (readS_none HE.out (by decide))
    go_enter Try.func54, Try.ntmps54
    go_wp2_with fail
    refine (l1Place_yes s a _ hs (by omega) (by omega)).mono ?_
    rintro e w1 ⟨rfl, rfl⟩
    go_wp2_with fail
    refine (l1End_is HE.out _ hs ha).mono ?_
    rintro e w1 ⟨rfl, rfl⟩
    go_wp2
    refine bodyPost_ret (results4 rfl _ _ _) rfl ?_
    exact ⟨by rw [hR.out]; rfl, Below.refl _ _⟩

/-- The reference's ReadS of a text and a place that are as said. -/
theorem specReadS_any (s : ByteArray) (a : Nat) (w : World) (hs : s.size ≤ 2000) (ha : a ≤ s.size) :
    Calls Try.prog 54 #[.string s, .int .i64 a] w fun e w' => e = .returned ((readS s a).told .i64) ∧ Below w.heap.size w w' := by
  rcases ends_shape s a ha with ⟨L, hL1, hL2, hL3, hE, hsh⟩ | hE | hE
  · have hlen : (seg s a (a + L)).length = L := by rw [seg_length s a (a + L) (by omega) hL3]; omega
    have hl := seg_lastD hL1 hL3
    have hl7 := hsh.last
    by_cases h3 : (seg s a (a + L)).length = 10 → (seg s a (a + L)).getLastD 0 = 0 ∨ (seg s a (a + L)).getLastD 0 = 127
    · refine specReadS_ends s a L w hs ha hL1 hL2 hL3 hE hsh ?_ (by show _ = _; unfold sgn; rw [hl]) (sval_i64 (by omega) h3) h3
      rw [← hl]
      rw [hlen] at h3
      omega
    · have h4 : (seg s a (a + L)).length = 10 ∧ (seg s a (a + L)).getLastD 0 ≠ 0 ∧ (seg s a (a + L)).getLastD 0 ≠ 127 := by omega
      obtain rfl : L = 10 := by rw [← hlen]; exact h4.1
      have h5 := h4.2.1
      have h6 := h4.2.2
      rw [hl] at h5 h6
      refine specReadS_wide s a w hs ha hL3 hE (by rw [bne_iff_ne]; exact h5) (by rw [bne_iff_ne]; exact h6) (readS_fault hE ?_ (by decide))
      unfold faultS
      rw [if_pos ⟨h4.2.1, h4.2.2⟩, if_pos h4.1]
  · exact specReadS_none s a 2 w hs ha hE (.inl rfl)
  · exact specReadS_none s a 3 w hs ha hE (.inr rfl)

set_option maxHeartbeats 400000 in
set_option maxRecDepth 100000 in
/-- The reference's ReadS of a text or a place that is not as said. -/
theorem specReadS_bad (s : ByteArray) (a : Int) (w : World) (hs : s.size ≤ 9223372036854775807) (h : 2000 < s.size ∨ a < 0 ∨ (s.size : Int) < a) :
    Calls Try.prog 54 #[.string s, .int .i64 a] w fun e w' => e = .returned (.tuple #[.int .i64 0, .int .i64 0, .int .i64 1, .bool false]) ∧ w = w' := by
  go_enter Try.func54, Try.ntmps54
  go_wp2_with fail
  refine (l1Place_no s a _ hs h).mono ?_
  rintro e w1 ⟨rfl, rfl⟩
  go_wp2
  refine bodyPost_ret (results4 rfl _ _ _) rfl ?_
  exact ⟨rfl, rfl⟩

end Go.Proofs.Ytkfdehmmhgcapaa

/-
  Contracts of the functions that read an unsigned number: the program's lebFaultU, lebBits and ReadU, the reference's ReadU.
-/
import Derived.Test.YtkfdehmmhgcapaaEnds
import Derived.Test.YtkfdehmmhgcapaaVal
namespace Go.Proofs.Ytkfdehmmhgcapaa
open Go.RowKit Leb

theorem scan_shape (s : ByteArray) (a : Nat) : ∀ (f k : Nat), a + k ≤ s.size →
    (∃ L, 1 ≤ L ∧ L ≤ f ∧ a + k + L ≤ s.size ∧ scan s a f k = (((a + k + L : Nat) : Int), 0) ∧ Shape (seg s (a + k) (a + k + L))) ∨ scan s a f k = (0, 2) ∨ scan s a f k = (0, 3)
  | 0, k, _ => by right; right; rfl
  | f + 1, k, hk => by
    by_cases h : a + k < s.size
    · by_cases hb : (s[a + k].toNat : Int) < 128
      · left
        refine ⟨1, by omega, by omega, by omega, scan_hit f h hb, ?_⟩
        rw [seg_cons s (a + k) (a + k + 1) (by omega) (by omega), seg_self]
        exact ⟨by omega, hb⟩
      · rw [scan_on f h (by omega)]
        rcases scan_shape s a f (k + 1) (by omega) with ⟨L, h1, h2, h3, h4, h5⟩ | h1
        · left
          refine ⟨L + 1, by omega, by omega, by omega, by rw [h4, show a + (k + 1) + L = a + k + (L + 1) by omega], ?_⟩
          rw [seg_cons s (a + k) (a + k + (L + 1)) (by omega) (by omega)]
          have e : seg s (a + k + 1) (a + k + (L + 1)) = seg s (a + (k + 1)) (a + (k + 1) + L) := by rw [show a + k + 1 = a + (k + 1) by omega, show a + k + (L + 1) = a + (k + 1) + L by omega]
          rw [e]
          have hu : s[a + k].toNat < 256 := s[a + k].toNat_lt
          match hq : seg s (a + (k + 1)) (a + (k + 1) + L), h5 with
          | x :: r, h5 => exact ⟨⟨by omega, by omega⟩, h5⟩
        · exact .inr h1
    · right; left; exact scan_out f h

theorem ends_shape (s : ByteArray) (a : Nat) (h : a ≤ s.size) :
    (∃ L, 1 ≤ L ∧ L ≤ 10 ∧ a + L ≤ s.size ∧ endsAt s a = (((a + L : Nat) : Int), 0) ∧ Shape (seg s a (a + L))) ∨ endsAt s a = (0, 2) ∨ endsAt s a = (0, 3) := by
  exact scan_shape s a 10 0 (by omega)

theorem lastD_nums (d : ByteArray) (h : 0 < d.size) : (nums d).getLastD 0 = ((d[d.size - 1]'(by omega)).toNat : Int) := by
  have h1 := nums_get d (d.size - 1) (by omega)
  rw [List.getLastD_eq_getLast?, List.getLast?_eq_getElem?, nums_length, h1]
  rfl

set_option maxHeartbeats 400000 in
set_option maxRecDepth 100000 in
theorem lebFaultU_any (d : ByteArray) (w : World) (h1 : 1 ≤ d.size) (h2 : d.size ≤ 10) :
    Calls Try.prog 83 #[.string d] w fun e w' => e = .returned (.int .i64 (faultU (nums d))) ∧ w = w' := by
  have hl := lastD_nums d (by omega)
  have hf := put (show faultU (nums d) = if d.size = 10 ∧ 1 < ((d[d.size - 1]'(by omega)).toNat : Int) then 3 else if 1 < d.size ∧ ((d[d.size - 1]'(by omega)).toNat : Int) = 0 then 4 else 0 by unfold faultU; rw [hl, nums_length])
  clear hl
  go_enter Try.func83, Try.ntmps83
  go_wp2
  all_goals (go_ret; refine ⟨ret_int ?_, rfl⟩; rw [hf.out])
  all_goals (try simp only [beq_iff_eq, beq_eq_false_iff_ne, ne_eq] at *)
  all_goals (split <;> first | rfl | omega | (split <;> first | rfl | omega))

set_option maxHeartbeats 400000 in
set_option maxRecDepth 100000 in
theorem lebBits_any (d : ByteArray) (w : World) (h2 : d.size ≤ 10) :
    Calls Try.prog 84 #[.string d] w fun e w' => e = .returned (.int .u64 ((val64 (nums d) : Nat) : Int)) ∧ w = w' := by
  go_enter Try.func84, Try.ntmps84
  go_wp2
  go_loop [3, 7] (fun n i => ∃ (k m : Nat), k ≤ d.size ∧ i = .int .i64 k ∧ n = .int .u64 m ∧ Hid (m = val64 ((nums d).take k))) (fun _ i => d.size - (intOf i).toNat)
  case atStart => exact ⟨0, 0, by omega, rfl, rfl, rfl⟩
  case round =>
    obtain ⟨k, m, hk, rfl, rfl, hm⟩ := hrel
    by_cases hlt : k < d.size
    · have hor := put (or_round d m k hlt h2 hm.out)
      go_wp2
      go_round
      case rel => exact ⟨k + 1, val64 ((nums d).take (k + 1)), by omega, by go_num, by rw [hor.out], rfl⟩
      case measure => simp [intOf]; omega
    · have hfin := put (show m = val64 (nums d) by rw [hm.out, List.take_of_length_le (by rw [nums_length]; omega)])
      go_wp2
      go_ret
      exact ⟨ret_int (by rw [← hfin.out]), rfl⟩

theorem lebEnd_is {s : ByteArray} {a : Nat} {x y : Int} (hE : endsAt s a = (x, y)) (w : World) (hs : s.size ≤ 2000) (ha : a ≤ s.size) :
    Calls Try.prog 82 #[.string s, .int .i64 a] w fun e w' => e = .returned (.tuple #[.int .i64 x, .int .i64 y]) ∧ w = w' := by
  have h := lebEnd_any s a w hs ha
  rw [hE] at h
  exact h
theorem lebFaultU_is {d : ByteArray} {x : Int} (hx : faultU (nums d) = x) (w : World) (h1 : 1 ≤ d.size) (h2 : d.size ≤ 10) :
    Calls Try.prog 83 #[.string d] w fun e w' => e = .returned (.int .i64 x) ∧ w = w' := by
  have h := lebFaultU_any d w h1 h2
  rw [hx] at h
  exact h
theorem lebBits_is {d : ByteArray} {n : Nat} (hn : val64 (nums d) = n) (w : World) (h2 : d.size ≤ 10) :
    Calls Try.prog 84 #[.string d] w fun e w' => e = .returned (.int .u64 (n : Int)) ∧ w = w' := by
  have h := lebBits_any d w h2
  rw [hn] at h
  exact h

/-- What ReadU answers. -/
structure Read where
  num : Int
  place : Int
  code : Int
  fine : Bool

def readU (s : ByteArray) (a : Nat) : Read :=
  if (endsAt s a).2 = 0 then
    (if faultU (seg s a (endsAt s a).1.toNat) = 0 then ⟨val (seg s a (endsAt s a).1.toNat), (endsAt s a).1, 0, true⟩ else ⟨0, 0, faultU (seg s a (endsAt s a).1.toNat), false⟩)
  else ⟨0, 0, (endsAt s a).2, false⟩

def Read.told (k : IntKind) (r : Read) : Value := .tuple #[.int k r.num, .int .i64 r.place, .int .i64 r.code, .bool r.fine]

theorem extract_size {s : ByteArray} {a L : Nat} (h : a + L ≤ s.size) : (s.extract a (a + L)).size = L := by simp; omega

theorem readU_fine {s : ByteArray} {a L : Nat} (hE : endsAt s a = (((a + L : Nat) : Int), 0)) (hf : faultU (seg s a (a + L)) = 0) : readU s a = ⟨val (seg s a (a + L)), ((a + L : Nat) : Int), 0, true⟩ := by
  unfold readU
  rw [hE]
  simp only [Int.toNat_natCast]
  simp [hf]
theorem readU_fault {s : ByteArray} {a L : Nat} {c : Int} (hE : endsAt s a = (((a + L : Nat) : Int), 0)) (hf : faultU (seg s a (a + L)) = c) (hc : c ≠ 0) : readU s a = ⟨0, 0, c, false⟩ := by
  unfold readU
  rw [hE]
  simp only [Int.toNat_natCast]
  simp [hf, hc]
theorem readU_none {s : ByteArray} {a : Nat} {c : Int} (hE : endsAt s a = (0, c)) (hc : c ≠ 0) : readU s a = ⟨0, 0, c, false⟩ := by
  unfold readU
  rw [hE]
  simp [hc]
theorem faultU_cases (l : List Int) : (faultU l = 3 ∧ l.length = 10 ∧ 1 < l.getLastD 0) ∨ (¬ (l.length = 10 ∧ 1 < l.getLastD 0) ∧ faultU l = 4 ∧ (1 < l.length ∧ l.getLastD 0 = 0)) ∨ (¬ (l.length = 10 ∧ 1 < l.getLastD 0) ∧ faultU l = 0 ∧ ¬ (1 < l.length ∧ l.getLastD 0 = 0)) := by
  unfold faultU
  by_cases h1 : l.length = 10 ∧ 1 < l.getLastD 0
  · left; exact ⟨if_pos h1, h1⟩
  · right
    rw [if_neg h1]
    by_cases h2 : 1 < l.length ∧ l.getLastD 0 = 0
    · left; exact ⟨h1, if_pos h2, h2⟩
    · right; exact ⟨h1, if_neg h2, h2⟩

set_option maxHeartbeats 400000 in
set_option maxRecDepth 100000 in
/-- The program's ReadU, where a number's bytes end: it is fine, or has a fault. -/
theorem readU_ends (s : ByteArray) (a L : Nat) (w : World) (hs : s.size ≤ 2000) (ha : a ≤ s.size) (hL1 : 1 ≤ L) (hL2 : L ≤ 10) (hL3 : a + L ≤ s.size)
    (HE : Hid (endsAt s a = (((a + L : Nat) : Int), 0))) (HS : Hid (Shape (seg s a (a + L)))) :
    Calls Try.prog 75 #[.string s, .int .i64 a] w fun e w' => e = .returned ((readU s a).told .u64) ∧ w = w' := by
  have HN := put (nums_extract s a (a + L))
  have HZ := put (extract_size hL3)
  have HL := put (show (seg s a (a + L)).length = L by rw [seg_length s a (a + L) (by omega) hL3]; omega)
  have hd1 : 1 ≤ (s.extract a (a + L)).size := by rw [HZ.out]; exact hL1
  have hd2 : (s.extract a (a + L)).size ≤ 10 := by rw [HZ.out]; exact hL2
  have HD1 := put hd1; clear hd1
  have HD2 := put hd2; clear hd2
  rcases faultU_cases (seg s a (a + L)) with ⟨hf, _⟩ | ⟨_, hf, _⟩ | ⟨h10, hf, _⟩
  · have hR := put (readU_fault HE.out hf (by decide))
    have HF := put (show faultU (nums (s.extract a (a + L))) = 3 by rw [HN.out]; exact hf)
    clear hf
    go_enter Try.func75, Try.ntmps75
    go_wp2_with fail
    refine (lebEnd_is HE.out _ hs ha).mono ?_
    rintro e w1 ⟨rfl, rfl⟩
    go_wp2_with fail
    refine (lebFaultU_is HF.out _ HD1.out HD2.out).mono ?_
    rintro e w1 ⟨rfl, rfl⟩
    go_wp2
    refine bodyPost_ret (results4 rfl _ _ _) rfl ?_
    exact ⟨by rw [hR.out]; rfl, rfl⟩
  · have hR := put (readU_fault HE.out hf (by decide))
    have HF := put (show faultU (nums (s.extract a (a + L))) = 4 by rw [HN.out]; exact hf)
    clear hf
    go_enter Try.func75, Try.ntmps75
    go_wp2_with fail
    refine (lebEnd_is HE.out _ hs ha).mono ?_
    rintro e w1 ⟨rfl, rfl⟩
    go_wp2_with fail
    refine (lebFaultU_is HF.out _ HD1.out HD2.out).mono ?_
    rintro e w1 ⟨rfl, rfl⟩
    go_wp2
    refine bodyPost_ret (results4 rfl _ _ _) rfl ?_
    exact ⟨by rw [hR.out]; rfl, rfl⟩
  · have hR := put (readU_fine HE.out hf)
    have HF := put (show faultU (nums (s.extract a (a + L))) = 0 by rw [HN.out]; exact hf)
    have HV := put (show val64 (nums (s.extract a (a + L))) = val (seg s a (a + L)) by rw [HN.out]; exact val64_of (val_u64 HS.out (by rw [HL.out]; exact hL2) h10))
    clear hf h10
    go_enter Try.func75, Try.ntmps75
    go_wp2_with fail
    refine (lebEnd_is HE.out _ hs ha).mono ?_
    rintro e w1 ⟨rfl, rfl⟩
    go_wp2_with fail
    refine (lebFaultU_is HF.out _ HD1.out HD2.out).mono ?_
    rintro e w1 ⟨rfl, rfl⟩
    go_wp2_with fail
    refine (lebBits_is HV.out _ HD2.out).mono ?_
    rintro e w1 ⟨rfl, rfl⟩
    go_wp2
    refine bodyPost_ret (results4 rfl _ _ _) rfl ?_
    exact ⟨by rw [hR.out]; rfl, rfl⟩

set_option maxHeartbeats 400000 in
set_option maxRecDepth 100000 in
theorem readU_none_any (s : ByteArray) (a : Nat) (c : Int) (w : World) (hs : s.size ≤ 2000) (ha : a ≤ s.size) (HE : Hid (endsAt s a = (0, c))) (hc : c = 2 ∨ c = 3) :
    Calls Try.prog 75 #[.string s, .int .i64 a] w fun e w' => e = .returned ((readU s a).told .u64) ∧ w = w' := by
  rcases hc with rfl | rfl
  all_goals
    have hR := put (readU_none HE.out (by decide))
    go_enter Try.func75, Try.ntmps75
    go_wp2_with fail
    refine (lebEnd_is HE.out _ hs ha).mono ?_
    rintro e w1 ⟨rfl, rfl⟩
    go_wp2
    refine bodyPost_ret (results4 rfl _ _ _) rfl ?_
    exact ⟨by rw [hR.out]; rfl, rfl⟩

/-- The program's ReadU of a text and a place that are as said. -/
theorem readU_any (s : ByteArray) (a : Nat) (w : World) (hs : s.size ≤ 2000) (ha : a ≤ s.size) :
    Calls Try.prog 75 #[.string s, .int .i64 a] w fun e w' => e = .returned ((readU s a).told .u64) ∧ w = w' := by
  rcases ends_shape s a ha with ⟨L, hL1, hL2, hL3, hE, hsh⟩ | hE | hE
  · exact readU_ends s a L w hs ha hL1 hL2 hL3 hE hsh
  · exact readU_none_any s a 2 w hs ha hE (.inl rfl)
  · exact readU_none_any s a 3 w hs ha hE (.inr rfl)

set_option maxHeartbeats 400000 in
set_option maxRecDepth 100000 in
/-- The program's ReadU of a text or a place that is not as said. -/
theorem readU_bad (s : ByteArray) (a : Int) (w : World) (hs : s.size ≤ 9223372036854775807) (h : 2000 < s.size ∨ a < 0 ∨ (s.size : Int) < a) :
    Calls Try.prog 75 #[.string s, .int .i64 a] w fun e w' => e = .returned (.tuple #[.int .u64 0, .int .i64 0, .int .i64 1, .bool false]) ∧ w = w' := by
  go_enter Try.func75, Try.ntmps75
  go_wp2_with fail
  refine (lebEnd_bad s a _ hs h).mono ?_
  rintro e w1 ⟨rfl, rfl⟩
  go_wp2
  refine bodyPost_ret (results4 rfl _ _ _) rfl ?_
  exact ⟨rfl, rfl⟩

end Go.Proofs.Ytkfdehmmhgcapaa

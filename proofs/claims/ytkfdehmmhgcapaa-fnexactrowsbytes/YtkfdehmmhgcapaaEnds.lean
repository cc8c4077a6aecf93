/-
  Contracts of the functions that look for the end of a number's bytes: the program's lebEnd, the reference's l1Place, l1In and l1End.
-/
import Derived.Test.YtkfdehmmhgcapaaPutU
namespace Go.Proofs.Ytkfdehmmhgcapaa
open Go.RowKit Leb

/-- From place a + k on, f bytes being allowed yet: the place behind the first byte below 128, or a code. -/
def scan (s : ByteArray) (a : Nat) : Nat → Nat → Int × Int
  | 0, _ => (0, 3)
  | f + 1, k => if h : a + k < s.size then (if (s[a + k].toNat : Int) < 128 then (((a + k + 1 : Nat) : Int), 0) else scan s a f (k + 1)) else (0, 2)

def endsAt (s : ByteArray) (a : Nat) : Int × Int := scan s a 10 0

theorem scan_out {s : ByteArray} {a k : Nat} (f : Nat) (h : ¬ a + k < s.size) : scan s a (f + 1) k = (0, 2) := by rw [scan, dif_neg h]
theorem scan_hit {s : ByteArray} {a k : Nat} (f : Nat) (h : a + k < s.size) (hb : (s[a + k].toNat : Int) < 128) : scan s a (f + 1) k = (((a + k + 1 : Nat) : Int), 0) := by rw [scan, dif_pos h, if_pos hb]
theorem scan_on {s : ByteArray} {a k : Nat} (f : Nat) (h : a + k < s.size) (hb : 128 ≤ (s[a + k].toNat : Int)) : scan s a (f + 1) k = scan s a f (k + 1) := by rw [scan, dif_pos h, if_neg (by omega)]

set_option maxHeartbeats 400000 in
set_option maxRecDepth 100000 in
theorem lebEnd_any (s : ByteArray) (a : Nat) (w : World) (hs : s.size ≤ 2000) (ha : a ≤ s.size) :
    Calls Try.prog 82 #[.string s, .int .i64 a] w fun e w' => e = .returned (.tuple #[.int .i64 (endsAt s a).1, .int .i64 (endsAt s a).2]) ∧ w = w' := by
  have b1 : decide (2000 < (s.size : Int)) = false := by simp; omega
  have b2 : decide ((a : Int) < 0) = false := by simp
  have b3 : decide (s.size < a) = false := by simp; omega
  go_enter Try.func82, Try.ntmps82
  go_wp2
  go_loop [20] (fun i => ∃ k : Nat, k ≤ 10 ∧ a + k ≤ s.size ∧ i = .int .i64 k ∧ Hid (endsAt s a = scan s a (10 - k) k)) (fun i => 10 - (intOf i).toNat)
  case atStart => exact ⟨0, by omega, by omega, rfl, rfl⟩
  case round =>
    obtain ⟨k, hk, hak, rfl, he⟩ := hrel
    by_cases h10 : k < 10
    · obtain ⟨f, hf⟩ : ∃ f, 10 - k = f + 1 := ⟨9 - k, by omega⟩
      have HF := put hf; clear hf
      by_cases hlt : a + k < s.size
      · by_cases hb : (s[a + k].toNat : Int) < 128
        · have hv := put (show endsAt s a = (((a + k + 1 : Nat) : Int), 0) by rw [he.out, HF.out]; exact scan_hit f hlt hb)
          go_wp2
          go_ret2
          exact ⟨by rw [hv.out]; rfl, rfl⟩
        · have hb' : 128 ≤ (s[a + k].toNat : Int) := by omega
          have hv := put (show endsAt s a = scan s a (10 - (k + 1)) (k + 1) by rw [he.out, HF.out, scan_on f hlt hb', show f = 10 - (k + 1) by have := HF.out; omega])
          clear he hb
          go_wp2
          go_round
          case rel => exact ⟨k + 1, by omega, by omega, by go_num, hv⟩
          case measure => simp [intOf]; omega
      · have hv := put (show endsAt s a = (0, 2) by rw [he.out, HF.out]; exact scan_out f hlt)
        go_wp2
        go_ret2
        exact ⟨by rw [hv.out]; rfl, rfl⟩
    · have hv := put (show endsAt s a = (0, 3) by rw [he.out, show 10 - k = 0 by omega]; rfl)
      go_wp2
      go_ret2
      exact ⟨by rw [hv.out]; rfl, rfl⟩

set_option maxHeartbeats 400000 in
set_option maxRecDepth 100000 in
theorem lebEnd_bad (s : ByteArray) (a : Int) (w : World) (hs : s.size ≤ 9223372036854775807) (h : 2000 < s.size ∨ a < 0 ∨ (s.size : Int) < a) :
    Calls Try.prog 82 #[.string s, .int .i64 a] w fun e w' => e = .returned (.tuple #[.int .i64 0, .int .i64 1]) ∧ w = w' := by
  by_cases h1 : (2000 : Int) < (s.size : Int)
  · have b1 : decide ((2000 : Int) < (s.size : Int)) = true := by simp; omega
    go_enter Try.func82, Try.ntmps82
    go_wp2
    go_ret2
    exact ⟨rfl, rfl⟩
  · have b1 : decide ((2000 : Int) < (s.size : Int)) = false := by simp; omega
    by_cases h2 : a < 0
    · have b2 : decide (a < 0) = true := by simpa using h2
      go_enter Try.func82, Try.ntmps82
      go_wp2
      go_ret2
      exact ⟨rfl, rfl⟩
    · have b2 : decide (a < 0) = false := by simpa using h2
      have h3 : (s.size : Int) < a := by omega
      have b3 : decide ((s.size : Int) < a) = true := by simpa using h3
      go_enter Try.func82, Try.ntmps82
      go_wp2
      go_ret2
      exact ⟨rfl, rfl⟩

set_option maxHeartbeats 400000 in
set_option maxRecDepth 100000 in
theorem l1Place_yes (s : ByteArray) (a : Int) (w : World) (hs : s.size ≤ 2000) (h0 : 0 ≤ a) (ha : a ≤ s.size) :
    Calls Try.prog 72 #[.string s, .int .i64 a] w fun e w' => e = .returned (.bool true) ∧ w = w' := by
  have b1 : decide ((s.size : Int) ≤ 2000) = true := by simp; omega
  have b2 : decide (0 ≤ a) = true := by simpa using h0
  have b3 : decide (a ≤ (s.size : Int)) = true := by simpa using ha
  go_enter Try.func72, Try.ntmps72
  go_wp2
  go_ret
  exact ⟨rfl, rfl⟩

set_option maxHeartbeats 400000 in
set_option maxRecDepth 100000 in
theorem l1Place_no (s : ByteArray) (a : Int) (w : World) (hs : s.size ≤ 9223372036854775807) (h : 2000 < s.size ∨ a < 0 ∨ (s.size : Int) < a) :
    Calls Try.prog 72 #[.string s, .int .i64 a] w fun e w' => e = .returned (.bool false) ∧ w = w' := by
  by_cases h1 : (s.size : Int) ≤ 2000
  · have b1 : decide ((s.size : Int) ≤ 2000) = true := by simp; omega
    by_cases h2 : 0 ≤ a
    · have b2 : decide (0 ≤ a) = true := by simpa using h2
      have b3 : decide (a ≤ (s.size : Int)) = false := by simp; omega
      go_enter Try.func72, Try.ntmps72
      go_wp2
      go_ret
      exact ⟨rfl, rfl⟩
    · have b2 : decide (0 ≤ a) = false := by simpa using h2
      go_enter Try.func72, Try.ntmps72
      go_wp2
      go_ret
      exact ⟨rfl, rfl⟩
  · have b1 : decide ((s.size : Int) ≤ 2000) = false := by simp; omega
    go_enter Try.func72, Try.ntmps72
    go_wp2
    go_ret
    exact ⟨rfl, rfl⟩

set_option maxHeartbeats 400000 in
set_option maxRecDepth 100000 in
theorem l1End_any (s : ByteArray) (a : Nat) (w : World) (hs : s.size ≤ 2000) (ha : a ≤ s.size) :
    Calls Try.prog 73 #[.string s, .int .i64 a] w fun e w' => e = .returned (.tuple #[.int .i64 (endsAt s a).1, .int .i64 (endsAt s a).2]) ∧ w = w' := by
  go_enter Try.func73, Try.ntmps73
  go_wp2
  go_loop [6] (fun i => ∃ k : Nat, k ≤ 9 ∧ a + k ≤ s.size ∧ i = .int .i64 k ∧ Hid (endsAt s a = scan s a (10 - k) k)) (fun i => 10 - (intOf i).toNat)
  case atStart => exact ⟨0, by omega, by omega, rfl, rfl⟩
  case round =>
    obtain ⟨k, hk, hak, rfl, he⟩ := hrel
    obtain ⟨f, hf⟩ : ∃ f, 10 - k = f + 1 := ⟨9 - k, by omega⟩
    have HF := put hf; clear hf
    by_cases hlt : a + k < s.size
    · by_cases hb : (s[a + k].toNat : Int) < 128
      · have hv := put (show endsAt s a = (((a + k + 1 : Nat) : Int), 0) by rw [he.out, HF.out]; exact scan_hit f hlt hb)
        go_wp2
        go_ret2
        exact ⟨by rw [hv.out]; rfl, rfl⟩
      · have hb' : 128 ≤ (s[a + k].toNat : Int) := by omega
        have hv := put (show endsAt s a = scan s a (10 - (k + 1)) (k + 1) by rw [he.out, HF.out, scan_on f hlt hb', show f = 10 - (k + 1) by have := HF.out; omega])
        clear he hb
        by_cases h9 : k < 9
        · go_wp2
          go_round
          case rel => exact ⟨k + 1, by omega, by omega, by go_num, hv⟩
          case measure => simp [intOf]; omega
        · have hv2 := put (show endsAt s a = (0, 3) by rw [hv.out, show 10 - (k + 1) = 0 by omega]; rfl)
          go_wp2
          go_ret2
          exact ⟨by rw [hv2.out]; rfl, rfl⟩
    · have hv := put (show endsAt s a = (0, 2) by rw [he.out, HF.out]; exact scan_out f hlt)
      go_wp2
      go_ret2
      exact ⟨by rw [hv.out]; rfl, rfl⟩

end Go.Proofs.Ytkfdehmmhgcapaa

/-
  Contracts of the functions that lay a signed number's bytes: the reference's PutS, the program's lebBytesS and PutS.
-/
import Derived.Test.YtkfdehmmhgcapaaPutU
namespace Go.Proofs.Ytkfdehmmhgcapaa
open Go.RowKit Leb

set_option maxHeartbeats 400000 in
set_option maxRecDepth 100000 in
theorem specPutS_any (n : Int) (w : World) (h1 : -9223372036854775808 ≤ n) (h2 : n ≤ 9223372036854775807) (hlen : Hid ((putS n).length ≤ 10)) :
    Calls Try.prog 68 #[.int .i64 n] w fun e w' => e = .returned (.string (strOfNums (putS n))) ∧ Below w.heap.size w w' := by
  go_enter Try.func68, Try.ntmps68
  go_wp2
  go_loopw [0, 3] (fun u v wr => ∃ (m : Int) (xs : List Int), -9223372036854775808 ≤ m ∧ m ≤ 9223372036854775807 ∧ u = .int .i64 m ∧ Nums wr w.heap.size 5 .u8 v xs ∧ Hid (putS n = xs ++ putS m) ∧ Below w.heap.size w wr)
    (fun u _ _ => (intOf u).natAbs)
  case atStart => exact ⟨n, [], h1, h2, rfl, Nums.nil _ _ _ _, rfl, Below.refl _ _⟩
  case round =>
    obtain ⟨m, xs, hm1, hm2, rfl, hown, hput, hbel⟩ := hrel
    have hx10 : xs.length ≤ 10 := by have := hlen.out; rw [hput.out] at this; simp at this; omega
    have hand := and127 m
    by_cases hlast : -64 ≤ m ∧ m ≤ 63
    · obtain ⟨hl1, hl2⟩ := hlast
      have hfin := put (show strOfNums (xs ++ [m % 128]) = strOfNums (putS n) by rw [hput.out, putS_last ⟨hl1, hl2⟩])
      by_cases hneg : m < 0
      all_goals
        go_wp2_with (at_builtin; refine wpList_append_one rfl _ _ 45 rfl w.heap.size 5 .u8 1 Try.info5 Try.underlying45 (by decide) _ xs rfl w (hbel.alloc hbel.size _) (by have := hbel.size; simp; omega) (hown.alloc _) wr.heap.size (m % 128) rfl (by simp) (by omega) ?_)
        intro v' w1 hown' hbel' _
        have hconv := run_string_own w1 45 5 9 Try.underlying45 Try.underlying5 Try.underlying9 w.heap.size v' _ hown'
        clear hown' hown
        go_wp2
        go_ret
        exact ⟨by rw [hfin.out]; rfl, hbel'⟩
    · have hp : Hid (putS n = (xs ++ [m % 128 + 128]) ++ putS (m / 128)) := by
        show _ = _
        rw [hput.out, putS_more hlast]; simp
      have hc : (64 ≤ m ∧ m ≤ 127) ∨ 128 ≤ m ∨ (-128 ≤ m ∧ m ≤ -65) ∨ m ≤ -129 := by omega
      clear hlast hput
      rcases hc with ⟨c1, c2⟩ | c1 | ⟨c1, c2⟩ | c1
      all_goals
        go_wp2_with (at_builtin; refine wpList_append_one rfl _ _ 45 rfl w.heap.size 5 .u8 1 Try.info5 Try.underlying45 (by decide) _ xs rfl w (hbel.alloc hbel.size _) (by have := hbel.size; simp; omega) (hown.alloc _) wr.heap.size (m % 128 + 128) rfl (by simp) (by omega) ?_)
        intro v' w1 hown' hbel' _
        clear hown
        go_wp2
        go_roundw
        case rel => exact ⟨m / 128, _, by omega, by omega, by go_num, hown', hp, hbel'⟩
        case measure => simp [intOf]; omega

set_option maxHeartbeats 400000 in
set_option maxRecDepth 100000 in
theorem lebBytesS_any (n : Int) (w : World) (h1 : -9223372036854775808 ≤ n) (h2 : n ≤ 9223372036854775807) (hlen : Hid ((putS n).length ≤ 10)) :
    Calls Try.prog 71 #[.int .i64 n] w fun e w' => e = .returned (.slice (some ⟨w.heap.size, 0, none⟩) (putS n).length (putS n).length) ∧ Room w' w.heap.size 113 10 .u8 (putS n) ∧ Below w.heap.size w w' := by
  go_enter Try.func71, Try.ntmps71
  go_wp2
  go_loopw [0, 4] (fun u l wr => ∃ (m : Int) (xs : List Int), -9223372036854775808 ≤ m ∧ m ≤ 9223372036854775807 ∧ u = .int .i64 m ∧ l = .int .i64 xs.length ∧ Room wr w.heap.size 113 10 .u8 xs ∧ Hid (putS n = xs ++ putS m) ∧ Below w.heap.size w wr)
    (fun u _ _ => (intOf u).natAbs)
  case atStart => exact ⟨n, [], h1, h2, rfl, rfl, ⟨_, heap_alloc_new _ _, rfl, rfl⟩, rfl, (Below.refl _ _).alloc (Nat.le_refl _) _⟩
  case round =>
    obtain ⟨m, xs, hm1, hm2, rfl, rfl, hroom, hput, hbel⟩ := hrel
    have hx10 : xs.length + 1 ≤ 10 := by have := hlen.out; have h1 := putS_length_pos m; rw [hput.out] at this; simp at this; omega
    obtain ⟨c0, hc0⟩ := hroom.at_ xs.length (by omega)
    have hfr := hroom.frozen xs.length
    have hnew := fun b => hroom.push (by omega) b
    have hor := or128i m
    have hand := and127u m
    by_cases hlast : -64 ≤ m ∧ m ≤ 63
    · obtain ⟨hl1, hl2⟩ := hlast
      have hcut := fun W => run_cut_array (P := Try.prog) 113 5 10 1 _ Try.underlying113 Try.info5 ⟨w.heap.size, 0, none⟩ ((xs.length : Int) + 1) (by omega) (by omega) W
      have hfin := put (show xs ++ [m % 128] = putS n by rw [hput.out, putS_last ⟨hl1, hl2⟩])
      have hn2 := put (hnew (m % 128)); clear hnew
      go_wp2
      go_ret
      have hL2 : (putS n).length = xs.length + 1 := by rw [← hfin.out]; simp
      exact ⟨by rw [hL2]; rfl, by rw [← hfin.out]; exact hn2.out, hbel.setCell (by simp) _⟩
    · have hp : Hid (putS n = (xs ++ [m % 128 + 128]) ++ putS (m / 128)) := by
        show _ = _
        rw [hput.out, putS_more hlast]; simp
      have hc : m < -64 ∨ 63 < m := by omega
      clear hlast hput
      rcases hc with c1 | c1
      all_goals
        go_wp2
        go_roundw
        case rel => exact ⟨m / 128, xs ++ [m % 128 + 128], by omega, by omega, by go_num, by simp, hnew _, hp, hbel.setCell (by simp) _⟩
        case measure => simp [intOf]; omega

set_option maxHeartbeats 400000 in
set_option maxRecDepth 100000 in
theorem putS_any (n : Int) (w : World) (h1 : -9223372036854775808 ≤ n) (h2 : n ≤ 9223372036854775807) (hlen : Hid ((putS n).length ≤ 10)) :
    Calls Try.prog 50 #[.int .i64 n] w fun e w' => e = .returned (.string (strOfNums (putS n))) ∧ Below w.heap.size w w' := by
  go_enter Try.func50, Try.ntmps50
  go_wp2_with fail
  refine (lebBytesS_any n _ h1 h2 hlen).mono ?_
  rintro e w1 ⟨rfl, hroom, hb⟩
  have hconv := run_convert_bytes_arg (P := Try.prog) w1 45 5 Try.underlying45 Try.underlying5 w.heap.size 0 (putS n).length (putS n).length (putS n) rfl (fun i hi => by rw [Nat.zero_add]; exact hroom.cell i hi) 9 Try.underlying9
  go_wp2
  go_ret
  exact ⟨rfl, hb⟩

end Go.Proofs.Ytkfdehmmhgcapaa

/-
  Contracts of the functions that lay an unsigned number's bytes: the reference's l1PutU and PutU, the program's lebBytesU and PutU.
-/
import Derived.Test.YtkfdehmmhgcapaaRows
import Derived.Test.YtkfdehmmhgcapaaLeb
import Derived.Test.YtkfdehmmhgcapaaKit
namespace Go.Proofs.Ytkfdehmmhgcapaa
open Go.RowKit Leb

theorem Try.info5 : (Try.prog.info? 5).map (fun i => (i.zero, i.size, i.bytes)) = some (some (.int .u8 0), 1, 1) := by kernel_rfl

set_option maxHeartbeats 400000 in
set_option maxRecDepth 100000 in
theorem l1PutU_any (n : Nat) (w : World) (hn : (n : Int) ≤ 18446744073709551615) :
    Calls Try.prog 74 #[.int .u64 n] w fun e w' => e = .returned (.string (strOfNums (putU n))) ∧ Below w.heap.size w w' := by
  have hlen := putU_length_u64 (n := n) (by omega)
  have hL := put hlen; clear hlen
  go_enter Try.func74, Try.ntmps74
  go_wp2
  go_loopw [0, 3] (fun u v wr => ∃ (m : Nat) (xs : List Int), (m : Int) ≤ 18446744073709551615 ∧ u = .int .u64 m ∧ Nums wr w.heap.size 5 .u8 v xs ∧ Hid (putU n = xs ++ putU m) ∧ Below w.heap.size w wr)
    (fun u _ _ => (intOf u).toNat)
  case atStart => exact ⟨n, [], hn, rfl, Nums.nil _ _ _ _, rfl, Below.refl _ _⟩
  case round =>
    obtain ⟨m, xs, hm, rfl, hown, hput, hbel⟩ := hrel
    have hx10 : xs.length ≤ 10 := by have := hL.out; rw [hput.out] at this; simp at this; omega
    by_cases hlt : m < 128
    · go_wp2_with (at_builtin; refine wpList_append_one rfl _ _ 45 rfl w.heap.size 5 .u8 1 Try.info5 Try.underlying45 (by decide) _ xs rfl w (hbel.alloc hbel.size _) (by have := hbel.size; simp; omega) (hown.alloc _) wr.heap.size (m : Int) rfl (by simp) (by omega) ?_)
      intro v' w1 hown' hbel' _
      have hconv := run_string_own w1 45 5 9 Try.underlying45 Try.underlying5 Try.underlying9 w.heap.size v' _ hown'
      have hfin := put (show strOfNums (xs ++ [(m : Int)]) = strOfNums (putU n) by rw [hput.out, putU_last hlt])
      clear hown' hown
      go_wp2
      go_ret
      exact ⟨by rw [hfin.out]; rfl, hbel'⟩
    · go_wp2_with (at_builtin; refine wpList_append_one rfl _ _ 45 rfl w.heap.size 5 .u8 1 Try.info5 Try.underlying45 (by decide) _ xs rfl w (hbel.alloc hbel.size _) (by have := hbel.size; simp; omega) (hown.alloc _) wr.heap.size ((m : Int) % 128 + 128) rfl (by simp) (by omega) ?_)
      intro v' w1 hown' hbel' _
      have hp : Hid (putU n = (xs ++ [(m : Int) % 128 + 128]) ++ putU (m / 128)) := by
        show _ = _
        rw [hput.out, putU_more (by omega)]; simp
      clear hown hput
      go_wp2
      go_roundw
      case rel => exact ⟨m / 128, _, by omega, by go_num, hown', hp, hbel'⟩
      case measure => simp [intOf]; omega

set_option maxHeartbeats 400000 in
set_option maxRecDepth 100000 in
theorem specPutU_any (n : Nat) (w : World) (hn : (n : Int) ≤ 18446744073709551615) :
    Calls Try.prog 67 #[.int .u64 n] w fun e w' => e = .returned (.string (strOfNums (putU n))) ∧ Below w.heap.size w w' := by
  go_enter Try.func67, Try.ntmps67
  go_wp2_with (go_at_call 74; refine (l1PutU_any n _ hn).mono ?_; rintro e w' ⟨rfl, hb⟩)
  go_ret
  exact ⟨rfl, hb⟩

set_option maxHeartbeats 400000 in
set_option maxRecDepth 100000 in
theorem lebBytesU_any (n : Nat) (w : World) (hn : (n : Int) ≤ 18446744073709551615) :
    Calls Try.prog 70 #[.int .u64 n] w fun e w' => e = .returned (.slice (some ⟨w.heap.size, 0, none⟩) (putU n).length (putU n).length) ∧ Room w' w.heap.size 113 10 .u8 (putU n) ∧ Below w.heap.size w w' := by
  have hlen := putU_length_u64 (n := n) (by omega)
  have hL := put hlen; clear hlen
  go_enter Try.func70, Try.ntmps70
  go_wp2
  go_loopw [0, 4] (fun u l wr => ∃ (m : Nat) (xs : List Int), (m : Int) ≤ 18446744073709551615 ∧ u = .int .u64 m ∧ l = .int .i64 xs.length ∧ Room wr w.heap.size 113 10 .u8 xs ∧ Hid (putU n = xs ++ putU m) ∧ Below w.heap.size w wr)
    (fun u _ _ => (intOf u).toNat)
  case atStart => exact ⟨n, [], hn, rfl, rfl, ⟨_, heap_alloc_new _ _, rfl, rfl⟩, rfl, (Below.refl _ _).alloc (Nat.le_refl _) _⟩
  case round =>
    obtain ⟨m, xs, hm, rfl, rfl, hroom, hput, hbel⟩ := hrel
    have hx10 : xs.length + 1 ≤ 10 := by have := hL.out; have h1 := putU_length_pos m; rw [hput.out] at this; simp at this; omega
    obtain ⟨c0, hc0⟩ := hroom.at_ xs.length (by omega)
    have hfr := hroom.frozen xs.length
    have hnew := fun b => hroom.push (by omega) b
    by_cases hlt : m < 128
    · have hcut := fun W => run_cut_array (P := Try.prog) 113 5 10 1 _ Try.underlying113 Try.info5 ⟨w.heap.size, 0, none⟩ ((xs.length : Int) + 1) (by omega) (by omega) W
      have hfin := put (show xs ++ [(m : Int)] = putU n by rw [hput.out, putU_last hlt])
      have hn2 := put (hnew (m : Int)); clear hnew
      go_wp2
      go_ret
      have hL2 : (putU n).length = xs.length + 1 := by rw [← hfin.out]; simp
      exact ⟨by rw [hL2]; rfl, by rw [← hfin.out]; exact hn2.out, hbel.setCell (by simp) _⟩
    · have hor := or128 m
      have hp : Hid (putU n = (xs ++ [(m : Int) % 128 + 128]) ++ putU (m / 128)) := by
        show _ = _
        rw [hput.out, putU_more (by omega)]; simp
      go_wp2
      go_roundw
      case rel => exact ⟨m / 128, xs ++ [(m : Int) % 128 + 128], by omega, by go_num, by simp, hnew _, hp, hbel.setCell (by simp) _⟩
      case measure => simp [intOf]; omega

set_option maxHeartbeats 400000 in
set_option maxRecDepth 100000 in
theorem putU_any (n : Nat) (w : World) (hn : (n : Int) ≤ 18446744073709551615) :
    Calls Try.prog 49 #[.int .u64 n] w fun e w' => e = .returned (.string (strOfNums (putU n))) ∧ Below w.heap.size w w' := by
  go_enter Try.func49, Try.ntmps49
  go_wp2_with fail
  refine (lebBytesU_any n _ hn).mono ?_
  rintro e w1 ⟨rfl, hroom, hb⟩
  have hconv := run_convert_bytes_arg (P := Try.prog) w1 45 5 Try.underlying45 Try.underlying5 w.heap.size 0 (putU n).length (putU n).length (putU n) rfl (fun i hi => by rw [Nat.zero_add]; exact hroom.cell i hi) 9 Try.underlying9
  go_wp2
  go_ret
  exact ⟨rfl, hb⟩

end Go.Proofs.Ytkfdehmmhgcapaa

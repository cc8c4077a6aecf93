/-
  Slices of tokens that are read, and the laws' own functions on tokens and on lists of ints.
-/
import Derived.Test.YtfdijeeilfhjeaaTokMem
import Derived.Test.YtfdijeeilfhjeaaMem
import Derived.Test.YtfdijeeilfhjeaaKit
import Derived.Deep.QuietTactic
import Derived.BigQuiet
import Derived.Laws.MakeOwn
import Derived.Deep.RegionWith
import Derived.Lib.QuietBelow
import Derived.Laws.Entries
namespace Go.Proofs.Ytfdijeeilfhjeaa
open Go.RowKit Exs

section
variable {w w' : World} {B B' : Nat} {A : Option Addr} {n : Nat} {ts : List Token}
end

set_option maxHeartbeats 400000 in
theorem toTok_anyI (op n : Int) (w : World) : Calls Try.prog 82 #[.agg #[.int .i64 op, .int .i64 n]] w fun e w' => e = .returned (.agg #[.int .i64 op, .int .i64 n]) ∧ Below w.heap.size w w' := by
  go_enter Try.func82, Try.ntmps82
  go_wp2
  exact bodyPost_ret (v := .agg #[.int .i64 op, .int .i64 n]) (by simp [results, Try.results82, go_sem]) rfl ⟨rfl, (((Below.refl _ _).alloc (Nat.le_refl _) _).alloc (by simp) _).alloc (by simp; omega) _⟩

set_option maxHeartbeats 400000 in
theorem szToks_fewI (A : Option Addr) (n c : Nat) (w : World) (hn : n ≤ 1048576) : Calls Try.prog 44 #[.slice A n c, .int .i64 1048576] w fun e w' => e = .returned (.int .i64 (1048576 - n)) ∧ w = w' := by
  go_enter Try.func44, Try.ntmps44
  go_wp2
  go_ret
  exact ⟨rfl, rfl⟩
set_option maxHeartbeats 400000 in
theorem szToks_manyI (A : Option Addr) (n c : Nat) (w : World) (hn : 1048576 < n) (hm : n ≤ 9223372036854775807) : Calls Try.prog 44 #[.slice A n c, .int .i64 1048576] w fun e w' => e = .returned (.int .i64 (-1)) ∧ w = w' := by
  go_enter Try.func44, Try.ntmps44
  go_wp2
  go_ret
  exact ⟨rfl, rfl⟩

theorem Try.info79 : (Try.prog.info? 79).map (fun i => (i.zero, i.size, i.bytes)) = some (some (.agg #[.int .i64 0, .int .i64 0]), 2, 16) := by kernel_rfl

set_option maxHeartbeats 400000 in
set_option maxRecDepth 100000 in
theorem toToks_anyI (A : Option Addr) (n c : Nat) (ts : List Token) (w : World) (hr : ReadsT w w.heap.size A n ts) (hn : n ≤ 1048576) :
    Calls Try.prog 48 #[.slice A n c] w fun e w' => e = .returned (.slice (some ⟨w.heap.size, 0, none⟩) n n) ∧ Room w' w.heap.size 79 (2 * n) .i64 (flat ts) ∧ Below w.heap.size w w' := by
  have hmk := fun W => run_make_rows (P := Try.prog) 30 79 (.agg #[.int .i64 0, .int .i64 0]) 2 16 Try.underlying30 Try.info79 n (by omega) (by omega) W
  go_enter Try.func48, Try.ntmps48
  go_wp2
  go_loopw [4] (fun i wr => ∃ k : Nat, k ≤ n ∧ i = .int .i64 k ∧ Room wr w.heap.size 79 (2 * n) .i64 (flat (ts.take k)) ∧ Below w.heap.size w wr) (fun i _ => n - (intOf i).toNat)
  case atStart => exact ⟨0, Nat.zero_le _, rfl, Room.madeT w 79 n _ _ rfl, (Below.refl _ _).alloc (Nat.le_refl _) _⟩
  case round =>
    obtain ⟨k, hk, rfl, hroom, hbel⟩ := hrel
    clear hmk
    by_cases hlt : k < n
    · obtain ⟨b, off, op, x, rfl, hb, hc, hc', hx⟩ := (hr.below hbel).at_ hlt
      go_wp2_with fail
      refine (toTok_anyI op x _).mono ?_
      rintro e w1 ⟨rfl, hb1⟩
      have hroom1 := hroom.below hb1 hroom.lt
      have hbel1 : Below w.heap.size w w1 := hbel.trans (hb1.mono hbel.size)
      obtain ⟨c0, hc0⟩ := hroom1.at_ (k * 2) (by omega)
      obtain ⟨c1, hc1⟩ := hroom1.at_ (k * 2 + 1) (by omega)
      have hf0 := hroom1.frozen (k * 2)
      have hf1 := hroom1.frozen (k * 2 + 1)
      have hlen : (ts.take k).length = k := by rw [List.length_take, hr.1]; omega
      have hpush := hroom1.pushT (by rw [hlen]; exact hlt) op x
      rw [hlen, ← takeT_more hx.out] at hpush
      have HP := put hpush; clear hpush hlen hc hc' hb1
      go_wp2
      go_roundw
      case rel => exact ⟨k + 1, by omega, by go_num, HP.out, (hbel1.setCell (by simp) _).setCell (by simp) _⟩
      case measure => simp [intOf]; omega
    · have hfin := put (show ts.take k = ts from List.take_of_length_le (by rw [hr.1]; omega))
      go_wp2
      go_ret
      exact ⟨rfl, by rw [hfin.out] at hroom; exact hroom, hbel⟩

set_option maxHeartbeats 400000 in
theorem eqTok_sameI (op x : Int) (w : World) : Calls Try.prog 84 #[.agg #[.int .i64 op, .int .i64 x], .agg #[.int .i64 op, .int .i64 x]] w fun e w' => e = .returned (.bool true) ∧ Below w.heap.size w w' := by
  go_enter Try.func84, Try.ntmps84
  go_wp2
  go_ret
  exact ⟨rfl, ((Below.refl _ _).alloc (Nat.le_refl _) _).alloc (by simp) _⟩

set_option maxHeartbeats 400000 in
set_option maxRecDepth 100000 in
theorem eqToks_sameI (A A' : Option Addr) (n c c' : Nat) (ts : List Token) (w : World) (hr : ReadsT w w.heap.size A n ts) (hr' : ReadsT w w.heap.size A' n ts) (hn : n ≤ 1048576) :
    Calls Try.prog 50 #[.slice A n c, .slice A' n c'] w fun e w' => e = .returned (.bool true) ∧ Below w.heap.size w w' := by
  go_enter Try.func50, Try.ntmps50
  go_wp2
  go_loopw [5] (fun i wr => ∃ k : Nat, k ≤ n ∧ i = .int .i64 k ∧ Below w.heap.size w wr) (fun i _ => n - (intOf i).toNat)
  case atStart => exact ⟨0, Nat.zero_le _, rfl, Below.refl _ _⟩
  case round =>
    obtain ⟨k, hk, rfl, hbel⟩ := hrel
    by_cases hlt : k < n
    · obtain ⟨b, off, op, x, rfl, hb, hc1, hc2, hx⟩ := (hr.below hbel).at_ hlt
      obtain ⟨b', off', op', x', rfl, hb', hc1', hc2', hx'⟩ := (hr'.below hbel).at_ hlt
      obtain ⟨rfl, rfl⟩ : op = op' ∧ x = x' := by have := hx.out; rw [hx'.out] at this; injection this with this; injection this with a b; exact ⟨a.symm, b.symm⟩
      have g1 := cell_regrown hc1
      have g2 := cell_regrown hc2
      have g3 := cell_regrown hc1'
      have g4 := cell_regrown hc2'
      go_wp2
      refine wp_region_quiet_below (by kernel_rfl) (by kernel_rfl) ?_
      repeat (first | go_big_quiet_step ((go_at_call 84; exact Calls.regrown_of (eqTok_sameI op x _))) | quiet_step (fail))
      refine wpQuiet_nil ?_
      intro _ hw'
      obtain ⟨⟨dq, osq⟩, hw''⟩ := hw'
      subst hw''
      go_wp2
      go_roundw
      case rel => exact ⟨k + 1, by omega, by go_num, hbel.trans ((below_regrown wr dq osq).mono hbel.size)⟩
      case measure => simp [intOf]; omega
    · go_wp2
      go_ret
      exact ⟨rfl, hbel⟩

end Go.Proofs.Ytfdijeeilfhjeaa

/-
  The laws' copying of images: contracts.
-/
import Derived.Test.YtkfdehmmhgcapaaCoTo
import Derived.Test.YtkfdehmmhgcapaaPrgTo2
namespace Go.Proofs.Ytkfdehmmhgcapaa
open Go.RowKit Exs

section
variable {w w' : World} {g g' i : Nat} {cs : Array Value} {t : TypeId} {v : Value}
end

set_option maxHeartbeats 400000 in
theorem toRow_any (x y z : Int) (w : World) : Calls Try.prog 39 #[.agg #[.int .i64 x, .int .i64 y, .int .i64 z]] w fun e w' => e = .returned (.agg #[.int .i64 x, .int .i64 y, .int .i64 z]) ∧ Below w.heap.size w w' := by
  go_enter Try.func39, Try.ntmps39
  go_wp2
  exact bodyPost_ret (v := .agg #[.int .i64 x, .int .i64 y, .int .i64 z]) (by simp [results, Try.results39, go_sem]) rfl ⟨rfl, (((Below.refl _ _).alloc (Nat.le_refl _) _).alloc (by simp) _).alloc (by simp; omega) _⟩

theorem Try.info50 : (Try.prog.info? 50).map (fun i => (i.zero, i.size, i.bytes)) = some (some (.agg #[.int .i64 0, .int .i64 0, .int .i64 0]), 3, 24) := by kernel_rfl
theorem Try.info108 : (Try.prog.info? 108).map (fun i => (i.zero, i.size, i.bytes)) = some (some (.agg #[.int .i64 0, .int .i64 0, .slice none 0 0, .slice none 0 0, .slice none 0 0]), 5, 88) := by kernel_rfl

theorem Room.madeR (w : World) (t : TypeId) (n : Nat) (z : Array Value) (m : Nat) (hm : m = n * 3) : Room (w.alloc (.cells (madeCells z m) t)) w.heap.size t (3 * n) .i64 (flat3 []) :=
  ⟨_, heap_alloc_new _ _, by rw [size_madeCells]; omega, rfl⟩
theorem Room.pushR {w : World} {g : Nat} {t : TypeId} {n : Nat} {ts : List Row3} (h : Room w g t (3 * n) .i64 (flat3 ts)) (hc : ts.length < n) (x y z : Int) :
    Room (((w.setCell ⟨g, ts.length * 3, none⟩ (.int .i64 x)).setCell ⟨g, ts.length * 3 + 1, none⟩ (.int .i64 y)).setCell ⟨g, ts.length * 3 + 2, none⟩ (.int .i64 z)) g t (3 * n) .i64 (flat3 (ts ++ [(x, y, z)])) := by
  have hl := flat3_length ts
  have h1 := h.push (by omega) x
  have h2 := h1.push (by simp; omega) y
  have h3 := h2.push (by simp; omega) z
  rw [List.length_append, List.length_append, hl] at h3
  rw [List.length_append, hl] at h3
  rw [flat3_snoc]
  simpa [Nat.mul_comm] using h3

set_option maxHeartbeats 400000 in
set_option maxRecDepth 100000 in
theorem toRows_m (A : Option Addr) (n c : Nat) (ts : List Row3) (w : World) (hr : ReadsR w w.heap.size A n ts) (hn : n ≤ 1048576) :
    Calls Try.prog 13 #[.slice A n c] w fun e w' => ∃ B, e = .returned (.slice B n n) ∧ MRows w' w.heap.size B n ts ∧ Below w.heap.size w w' := by
  have hmk := fun W => run_make_rows (P := Try.prog) 25 50 (.agg #[.int .i64 0, .int .i64 0, .int .i64 0]) 3 24 Try.underlying25 Try.info50 n (by omega) (by omega) W
  go_enter Try.func13, Try.ntmps13
  go_wp2
  go_loopw [4] (fun i wr => ∃ k : Nat, k ≤ n ∧ i = .int .i64 k ∧ Room wr w.heap.size 50 (3 * n) .i64 (flat3 (ts.take k)) ∧ Below w.heap.size w wr) (fun i _ => n - (intOf i).toNat)
  case atStart => exact ⟨0, Nat.zero_le _, rfl, Room.madeR w 50 n _ _ rfl, (Below.refl _ _).alloc (Nat.le_refl _) _⟩
  case round =>
    obtain ⟨k, hk, rfl, hroom, hbel⟩ := hrel
    clear hmk
    by_cases hlt : k < n
    · obtain ⟨b, off, x, y, z, rfl, hb, hc, hc', hc'', hx⟩ := (hr.below hbel).at_ hlt
      go_wp2_with fail
      refine (toRow_any x y z _).mono ?_
      rintro e w1 ⟨rfl, hb1⟩
      have hroom1 := hroom.below hb1 hroom.lt
      have hbel1 : Below w.heap.size w w1 := hbel.trans (hb1.mono hbel.size)
      obtain ⟨c0, hc0⟩ := hroom1.at_ (k * 3) (by omega)
      obtain ⟨c1, hc1⟩ := hroom1.at_ (k * 3 + 1) (by omega)
      obtain ⟨c2, hc2⟩ := hroom1.at_ (k * 3 + 2) (by omega)
      have hf0 := hroom1.frozen (k * 3)
      have hf1 := hroom1.frozen (k * 3 + 1)
      have hf2 := hroom1.frozen (k * 3 + 2)
      have hlen : (ts.take k).length = k := by rw [List.length_take, hr.1]; omega
      have hpush := hroom1.pushR (by rw [hlen]; exact hlt) x y z
      rw [hlen, ← takeA_more hx.out] at hpush
      have HP := put hpush; clear hpush hlen hc hc' hc'' hb1
      go_wp2
      go_roundw
      case rel => exact ⟨k + 1, by omega, by go_num, HP.out, ((hbel1.setCell (by simp) _).setCell (by simp) _).setCell (by simp) _⟩
      case measure => simp [intOf]; omega
    · have hfin := put (show ts.take k = ts from List.take_of_length_le (by rw [hr.1]; omega))
      go_wp2
      go_ret
      exact ⟨_, rfl, ⟨_, rfl, Nat.le_refl _, by rw [hfin.out] at hroom; exact hroom, hr.1⟩, hbel⟩
theorem RoomC.made (w : World) (n : Nat) (z : Array Value) (m : Nat) (hm : m = n * 5) : RoomC (w.alloc (.cells (madeCells z m) 108)) w.heap.size n [] :=
  ⟨_, heap_alloc_new _ _, by rw [size_madeCells]; omega, fun j s hj => by simp at hj⟩

end Go.Proofs.Ytkfdehmmhgcapaa

/-
  CoverOf of both sides.
-/
import Derived.Test.YtkfdehmmhgcapaaRwP
namespace Go.Proofs.Ytkfdehmmhgcapaa
open Go.RowKit Exs

theorem coverAns_bad {many : Int} {rs : List Row3} (h : goodB many rs = false) : coverAns many rs = ([], false) := by simp [coverAns, h]
theorem coverAns_ok {m : Nat} {rs : List Row3} (h : goodB (m : Int) rs = true) : coverAns (m : Int) rs = (coverL rs m, true) := by simp [coverAns, h]

set_option maxHeartbeats 1000000 in
set_option maxRecDepth 100000 in
theorem specCoverOf_any (A : Option Addr) (n c : Nat) (rs : List Row3) (many : Int) (w : World) (hr : ReadsR w w.heap.size A n rs) (hn : n ≤ 1048576) :
    Calls Try.prog 18 #[.slice A n c, .int .i64 many] w fun e w' => ∃ v, e = .returned (.tuple #[v, .bool (coverAns many rs).2]) ∧ Nums w' w.heap.size 3 .i64 v (coverAns many rs).1 ∧ Below w.heap.size w w' := by
  cases hg : goodB many rs with
  | false =>
    have HG := put hg
    have HA := put (coverAns_bad hg)
    clear hg
    go_enter Try.func18, Try.ntmps18
    go_wp2_with fail
    refine (l7Good_any A n c rs many _ hr hn).mono ?_
    rintro e w1 ⟨rfl, hb1⟩
    rw [HG.out]
    go_wp2
    go_ret2
    exact ⟨.slice none 0 0, by rw [HA.out]; rfl, by rw [HA.out]; exact Nums.nil _ _ _ _, hb1⟩
  | true =>
    have hm := (goodB_iff.1 hg).1
    obtain ⟨m, rfl⟩ : ∃ m : Nat, many = (m : Int) := ⟨many.toNat, by omega⟩
    have HG := put hg
    have HA := put (coverAns_ok hg)
    have HRO := put (show rowsF m 0 rs = true from (goodB_iff.1 hg).2)
    have hn3 : n ≤ 300 := by rw [← hr.1]; exact goodB_length hg
    have hm3 : m ≤ 300 := by omega
    clear hg hm
    go_enter Try.func18, Try.ntmps18
    go_wp2_with fail
    refine (l7Good_any A n c rs (m : Int) _ hr hn).mono ?_
    rintro e w1 ⟨rfl, hb1⟩
    rw [HG.out]
    go_wp2_with fail
    go_loopw [6, 7] (fun v i wr => ∃ k : Nat, k ≤ m ∧ i = .int .i64 k ∧ Nums wr w.heap.size 3 .i64 v (coverL rs k) ∧ Below w.heap.size w wr) (fun _ i _ => m - (intOf i).toNat)
    case atStart => exact ⟨0, Nat.zero_le _, rfl, Nums.nil _ _ _ _, hb1⟩
    case round =>
      obtain ⟨k, hk, rfl, hown, hbel⟩ := hrel
      by_cases hlt : k < m
      · have hl : (coverL rs k).length ≤ 1000000 := by rw [coverL_length]; omega
        have HM := put (coverL_more rs k)
        clear hb1
        go_wp2_with fail
        refine (l5RowAt_any A n c rs (k : Int) m _ (hr.now hbel) hn3 hm3 HRO.out).mono ?_
        rintro e w2 ⟨rfl, hb2⟩
        have hown2 := hown.belowNew hb2
        have hbel2 : Below w.heap.size w w2 := hbel.trans (hb2.mono hbel.size)
        clear hown hbel hb2
        go_wp2_with (at_builtin; refine wpList_append_one rfl _ _ 32 rfl w.heap.size 3 .i64 8 Try.info3 Try.underlying32 (by decide) _ (coverL rs k) rfl w (hbel2.alloc hbel2.size _) (by have := hbel2.size; simp; omega) (hown2.alloc _) w2.heap.size (ixOf (k : Int) rs 0) rfl (by simp) hl ?_)
        intro v' w3 hown' hbel' _
        rw [← HM.out] at hown'
        go_wp2
        go_roundw
        case rel => exact ⟨k + 1, by omega, by go_num, hown', hbel'⟩
        case measure => simp [intOf]; omega
      · obtain rfl : k = m := by omega
        go_wp2
        go_ret2
        exact ⟨_, by rw [HA.out]; rfl, by rw [HA.out]; exact hown, hbel⟩

set_option maxHeartbeats 1000000 in
set_option maxRecDepth 100000 in
theorem implCoverOf_any (A : Option Addr) (n c : Nat) (rs : List Row3) (many : Int) (w : World) (hr : ReadsR w w.heap.size A n rs) (hn : n ≤ 1048576) :
    Calls Try.prog 19 #[.slice A n c, .int .i64 many] w fun e w' => ∃ v, e = .returned (.tuple #[v, .bool (coverAns many rs).2]) ∧ Nums w' w.heap.size 3 .i64 v (coverAns many rs).1 ∧ Below w.heap.size w w' := by
  cases hg : goodB many rs with
  | false =>
    have HG := put hg
    have HA := put (coverAns_bad hg)
    clear hg
    go_enter Try.func19, Try.ntmps19
    go_wp2_with fail
    refine (implGoodRows_any A n c rs many _ hr hn).mono ?_
    rintro e w1 ⟨rfl, hb1⟩
    rw [HG.out]
    go_wp2
    go_ret2
    exact ⟨.slice none 0 0, by rw [HA.out]; rfl, by rw [HA.out]; exact Nums.nil _ _ _ _, hb1⟩
  | true =>
    have hm := (goodB_iff.1 hg).1
    obtain ⟨m, rfl⟩ : ∃ m : Nat, many = (m : Int) := ⟨many.toNat, by omega⟩
    have HG := put hg
    have HA := put (coverAns_ok hg)
    have hm3 : m ≤ 300 := by omega
    have hmk := fun W => run_make_row' (P := Try.prog) 32 3 (.int .i64 0) 8 Try.underlying32 Try.info3 rfl .i64 .i64 m (by omega) (by omega) W
    clear hg hm
    go_enter Try.func19, Try.ntmps19
    go_wp2_with fail
    refine (implGoodRows_any A n c rs (m : Int) _ hr hn).mono ?_
    rintro e w1 ⟨rfl, hb1⟩
    rw [HG.out]
    have hs1 := hb1.size
    go_wp2
    go_loopw [16] (fun i wr => ∃ k : Nat, k ≤ m ∧ i = .int .i64 k ∧ Room wr w1.heap.size 3 m .i64 (coverL rs k) ∧ Below w.heap.size w wr) (fun i _ => m - (intOf i).toNat)
    case atStart => exact ⟨0, Nat.zero_le _, rfl, Room.made w1 3 m .i64, hb1.alloc hs1 _⟩
    case round =>
      obtain ⟨k, hk, rfl, hroom, hbel⟩ := hrel
      clear hmk
      by_cases hlt : k < m
      · have HM := put (coverL_more rs k)
        clear hb1
        go_wp2_with fail
        refine (find_any A n c rs (k : Int) _ (hr.now hbel) hn).mono ?_
        rintro e w2 ⟨rfl, hb2⟩
        have hroom2 := hroom.below hb2 hroom.lt
        have hbel2 : Below w.heap.size w w2 := hbel.trans (hb2.mono hbel.size)
        obtain ⟨c0, hc0⟩ := hroom2.at_ k hlt
        have hfr := hroom2.frozen k
        have hpush := hroom2.push (by rw [coverL_length]; exact hlt) (ixOf (k : Int) rs 0)
        rw [coverL_length, ← HM.out] at hpush
        have HP := put hpush
        have HB := put (hbel2.setCell (p := ⟨w1.heap.size, k, none⟩) hs1 (.int .i64 (ixOf (k : Int) rs 0)))
        clear hpush hroom hroom2 hbel hbel2 hb2
        go_wp2
        go_roundw
        case rel => exact ⟨k + 1, by omega, by go_num, HP.out, HB.out⟩
        case measure => simp [intOf]; omega
      · obtain rfl : k = m := by omega
        have hnu := Nums.of_room hroom hs1 (by rw [coverL_length]; exact Nat.le_refl _) (by unfold maxLen; omega)
        rw [coverL_length] at hnu
        go_wp2
        go_ret2
        exact ⟨_, by rw [HA.out]; rfl, by rw [HA.out]; exact hnu, hbel⟩

end Go.Proofs.Ytkfdehmmhgcapaa

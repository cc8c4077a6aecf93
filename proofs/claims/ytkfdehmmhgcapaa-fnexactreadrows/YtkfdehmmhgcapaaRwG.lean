/-
  Good rows, of both sides; the row of a place.
-/
import Derived.Test.YtkfdehmmhgcapaaRwR
namespace Go.Proofs.Ytkfdehmmhgcapaa
open Go.RowKit Exs

theorem within_no7 {n lo hi : Int} (h : ¬ (lo ≤ n ∧ n ≤ hi)) : within n lo hi = false := by
  cases hw : within n lo hi
  · rfl
  · exact absurd ((within_iff n lo hi).1 hw) h
theorem within_yes7 {n lo hi : Int} (h : lo ≤ n ∧ n ≤ hi) : within n lo hi = true := (within_iff n lo hi).2 h

set_option maxHeartbeats 2000000 in
set_option maxRecDepth 100000 in
theorem l5Rows_any (A3 : Option Addr) (n3 c3 : Nat) (rs : List Row3) (many : Nat) (w : World) (hr : ReadsR w w.heap.size A3 n3 rs) (hn : n3 ≤ 1048576) (hm : many ≤ 300) :
    Calls Try.prog 64 #[.slice A3 n3 c3, .int .i64 many] w fun e w' => e = .returned (.bool (rowsF many 0 rs)) ∧ Below w.heap.size w w' := by
  go_enter Try.func64, Try.ntmps64
  go_wp2
  go_loopw [5, 10] (fun u i wr => ∃ k : Nat, k ≤ n3 ∧ i = .int .i64 k ∧ u = .int .i64 (lastTo 0 (rs.take k)) ∧ Hid (rowsF many 0 (rs.take k) = true) ∧ Below w.heap.size w wr) (fun _ i _ => n3 - (intOf i).toNat)
  case atStart => exact ⟨0, Nat.zero_le _, rfl, by simp [lastTo], put (by simp [rowsF]), Below.refl _ _⟩
  case round =>
    obtain ⟨k, hk, rfl, rfl, hall, hbel⟩ := hrel
    by_cases hlt : k < n3
    · obtain ⟨b, off, x, y, z, rfl, hb', hc1, hc2, hc3, hxt⟩ := (hr.below hbel).at_ hlt
      have hb3 := hbel.alloc hbel.size (.cells #[.int .i64 x, .int .i64 y, .int .i64 z] 50)
      have HNX := put (rowsF_snoc many (x, y, z) (rs.take k) 0)
      have HLT := put (lastTo_snoc (x, y, z) (rs.take k) 0)
      rw [← takeA_more hxt.out] at HNX HLT
      have HN := put (fun (hb : rowB many (lastTo 0 (rs.take k)) (x, y, z) = false) => rowsF_no (a := 0) hxt.out hb)
      generalize lastTo 0 (rs.take k) = a at HNX HN ⊢
      have HB := put (show rowB many a (x, y, z) = true ↔ a ≤ x ∧ x < y ∧ y ≤ many ∧ 0 ≤ z ∧ z < many from by unfold rowB; exact decide_eq_true_iff)
      by_cases p0 : x < a
      · have HNO := put (HN.out (no_of fun h => by have := HB.out.1 h; omega))
        clear HB HN HNX
        go_wp2
        go_ret
        exact ⟨ret_bool HNO.out.symm, hb3⟩
      replace p0 : a ≤ x := by omega
      by_cases p1 : y ≤ x
      · have HNO := put (HN.out (no_of fun h => by have := HB.out.1 h; omega))
        clear HB HN HNX
        go_wp2
        go_ret
        exact ⟨ret_bool HNO.out.symm, hb3⟩
      replace p1 : x < y := by omega
      by_cases p2 : (many : Int) < y
      · have HNO := put (HN.out (no_of fun h => by have := HB.out.1 h; omega))
        clear HB HN HNX
        go_wp2
        go_ret
        exact ⟨ret_bool HNO.out.symm, hb3⟩
      replace p2 : y ≤ (many : Int) := by omega
      by_cases p3 : 0 ≤ z ∧ z ≤ (many : Int) - 1
      rotate_left
      · have q := within_no7 p3
        have HNO := put (HN.out (no_of fun h => by have := HB.out.1 h; omega))
        clear HB HN HNX p3
        go_wp2_with fail
        refine (l1In_any z 0 ((many : Int) - 1) _).mono ?_
        rintro e w1 ⟨rfl, rfl⟩
        rw [q]
        go_wp2
        go_ret
        exact ⟨ret_bool HNO.out.symm, hb3⟩
      have q := within_yes7 p3
      have HY := put (show rowsF many 0 (rs.take (k + 1)) = true by rw [HNX.out, hall.out, HB.out.2 (by omega)]; rfl)
      clear HB HN HNX
      go_wp2_with fail
      refine (l1In_any z 0 ((many : Int) - 1) _).mono ?_
      rintro e w1 ⟨rfl, rfl⟩
      rw [q]
      go_wp2
      go_roundw
      case rel => exact ⟨k + 1, by omega, by go_num, by rw [HLT.out], HY, hb3⟩
      case measure => simp [intOf]; omega
    · have hfin := put (show rs.take k = rs from List.take_of_length_le (by rw [hr.1]; omega))
      have HYES := put (show rowsF many 0 rs = true by have := hall.out; rwa [hfin.out] at this)
      go_wp2
      go_ret
      exact ⟨ret_bool HYES.out.symm, hbel⟩

set_option maxHeartbeats 2000000 in
set_option maxRecDepth 100000 in
theorem goodRows_any (A3 : Option Addr) (n3 c3 : Nat) (rs : List Row3) (many : Nat) (w : World) (hr : ReadsR w w.heap.size A3 n3 rs) (hn : n3 ≤ 1048576) (_ : many ≤ 300) :
    Calls Try.prog 40 #[.slice A3 n3 c3, .int .i64 many] w fun e w' => e = .returned (.bool (rowsF many 0 rs)) ∧ Below w.heap.size w w' := by
  go_enter Try.func40, Try.ntmps40
  go_wp2
  go_loopw [5, 10] (fun u i wr => ∃ k : Nat, k ≤ n3 ∧ i = .int .i64 k ∧ u = .int .i64 (lastTo 0 (rs.take k)) ∧ Hid (rowsF many 0 (rs.take k) = true) ∧ Below w.heap.size w wr) (fun _ i _ => n3 - (intOf i).toNat)
  case atStart => exact ⟨0, Nat.zero_le _, rfl, by simp [lastTo], put (by simp [rowsF]), Below.refl _ _⟩
  case round =>
    obtain ⟨k, hk, rfl, rfl, hall, hbel⟩ := hrel
    by_cases hlt : k < n3
    · obtain ⟨b, off, x, y, z, rfl, hb', hc1, hc2, hc3, hxt⟩ := (hr.below hbel).at_ hlt
      have hb3 := hbel.alloc hbel.size (.cells #[.int .i64 x, .int .i64 y, .int .i64 z] 50)
      have HNX := put (rowsF_snoc many (x, y, z) (rs.take k) 0)
      have HLT := put (lastTo_snoc (x, y, z) (rs.take k) 0)
      rw [← takeA_more hxt.out] at HNX HLT
      have HN := put (fun (hb : rowB many (lastTo 0 (rs.take k)) (x, y, z) = false) => rowsF_no (a := 0) hxt.out hb)
      generalize lastTo 0 (rs.take k) = a at HNX HN ⊢
      have HB := put (show rowB many a (x, y, z) = true ↔ a ≤ x ∧ x < y ∧ y ≤ many ∧ 0 ≤ z ∧ z < many from by unfold rowB; exact decide_eq_true_iff)
      by_cases p0 : x < a
      · have HNO := put (HN.out (no_of fun h => by have := HB.out.1 h; omega))
        clear HB HN HNX
        go_wp2
        go_ret
        exact ⟨ret_bool HNO.out.symm, hb3⟩
      replace p0 : a ≤ x := by omega
      by_cases p1 : y ≤ x
      · have HNO := put (HN.out (no_of fun h => by have := HB.out.1 h; omega))
        clear HB HN HNX
        go_wp2
        go_ret
        exact ⟨ret_bool HNO.out.symm, hb3⟩
      replace p1 : x < y := by omega
      by_cases p2 : (many : Int) < y
      · have HNO := put (HN.out (no_of fun h => by have := HB.out.1 h; omega))
        clear HB HN HNX
        go_wp2
        go_ret
        exact ⟨ret_bool HNO.out.symm, hb3⟩
      replace p2 : y ≤ (many : Int) := by omega
      by_cases p3 : z < 0
      · have HNO := put (HN.out (no_of fun h => by have := HB.out.1 h; omega))
        clear HB HN HNX
        go_wp2
        go_ret
        exact ⟨ret_bool HNO.out.symm, hb3⟩
      replace p3 : 0 ≤ z := by omega
      by_cases p4 : (many : Int) ≤ z
      · have HNO := put (HN.out (no_of fun h => by have := HB.out.1 h; omega))
        clear HB HN HNX
        go_wp2
        go_ret
        exact ⟨ret_bool HNO.out.symm, hb3⟩
      replace p4 : z < (many : Int) := by omega
      have HY := put (show rowsF many 0 (rs.take (k + 1)) = true by rw [HNX.out, hall.out, HB.out.2 (by omega)]; rfl)
      clear HB HN HNX
      go_wp2
      go_roundw
      case rel => exact ⟨k + 1, by omega, by go_num, by rw [HLT.out], HY, hb3⟩
      case measure => simp [intOf]; omega
    · have hfin := put (show rs.take k = rs from List.take_of_length_le (by rw [hr.1]; omega))
      have HYES := put (show rowsF many 0 rs = true by have := hall.out; rwa [hfin.out] at this)
      go_wp2
      go_ret
      exact ⟨ret_bool HYES.out.symm, hbel⟩

set_option maxHeartbeats 1000000 in
set_option maxRecDepth 100000 in
theorem l7Good_any (A : Option Addr) (n c : Nat) (rs : List Row3) (many : Int) (w : World) (hr : ReadsR w w.heap.size A n rs) (hn : n ≤ 1048576) :
    Calls Try.prog 38 #[.slice A n c, .int .i64 many] w fun e w' => e = .returned (.bool (goodB many rs)) ∧ Below w.heap.size w w' := by
  by_cases hm : 1 ≤ many ∧ many ≤ 300
  · obtain ⟨m, rfl⟩ : ∃ m : Nat, many = (m : Int) := ⟨many.toNat, by omega⟩
    have q := within_yes7 hm
    by_cases hb : 300 < n
    · have HG := put (show goodB (m : Int) rs = false from goodB_long (by rw [hr.1]; exact hb))
      clear hm hr
      go_enter Try.func38, Try.ntmps38
      go_wp2_with fail
      refine (l1In_any (m : Int) 1 300 _).mono ?_
      rintro e w1 ⟨rfl, rfl⟩
      rw [q]
      go_wp2
      go_ret
      exact ⟨ret_bool HG.out.symm, Below.refl _ _⟩
    · have HG := put (show goodB (m : Int) rs = rowsF m 0 rs from goodB_in rfl hm)
      have hm2 : m ≤ 300 := by omega
      replace hb : n ≤ 300 := by omega
      clear hm
      go_enter Try.func38, Try.ntmps38
      go_wp2_with fail
      refine (l1In_any (m : Int) 1 300 _).mono ?_
      rintro e w1 ⟨rfl, rfl⟩
      rw [q]
      go_wp2_with fail
      refine (l5Rows_any A n c rs m _ hr hn hm2).mono ?_
      rintro e w1 ⟨rfl, hb1⟩
      go_wp2
      go_ret
      exact ⟨ret_bool HG.out.symm, hb1⟩
  · have q := within_no7 hm
    have HG := put (goodB_out (rs := rs) hm)
    clear hm hr
    go_enter Try.func38, Try.ntmps38
    go_wp2_with fail
    refine (l1In_any many 1 300 _).mono ?_
    rintro e w1 ⟨rfl, rfl⟩
    rw [q]
    go_wp2
    go_ret
    exact ⟨ret_bool HG.out.symm, Below.refl _ _⟩

set_option maxHeartbeats 1000000 in
set_option maxRecDepth 100000 in
theorem specGoodRows_any (A : Option Addr) (n c : Nat) (rs : List Row3) (many : Int) (w : World) (hr : ReadsR w w.heap.size A n rs) (hn : n ≤ 1048576) :
    Calls Try.prog 12 #[.slice A n c, .int .i64 many] w fun e w' => e = .returned (.bool (goodB many rs)) ∧ Below w.heap.size w w' := by
  go_enter Try.func12, Try.ntmps12
  go_wp2_with fail
  refine (l7Good_any A n c rs many _ hr hn).mono ?_
  rintro e w1 ⟨rfl, hb1⟩
  go_wp2
  go_ret
  exact ⟨rfl, hb1⟩

set_option maxHeartbeats 1000000 in
set_option maxRecDepth 100000 in
theorem implGoodRows_any (A : Option Addr) (n c : Nat) (rs : List Row3) (many : Int) (w : World) (hr : ReadsR w w.heap.size A n rs) (hn : n ≤ 1048576) :
    Calls Try.prog 14 #[.slice A n c, .int .i64 many] w fun e w' => e = .returned (.bool (goodB many rs)) ∧ Below w.heap.size w w' := by
  by_cases h1 : 1 ≤ many
  · by_cases h2 : many ≤ 300
    · obtain ⟨m, rfl⟩ : ∃ m : Nat, many = (m : Int) := ⟨many.toNat, by omega⟩
      have HG := put (show goodB (m : Int) rs = rowsF m 0 rs from goodB_in rfl ⟨h1, h2⟩)
      have hm2 : m ≤ 300 := by omega
      go_enter Try.func14, Try.ntmps14
      go_wp2_with fail
      refine (goodRows_any A n c rs m _ hr hn hm2).mono ?_
      rintro e w1 ⟨rfl, hb1⟩
      go_wp2
      go_ret
      exact ⟨ret_bool HG.out.symm, hb1⟩
    · have HG := put (goodB_out (rs := rs) (many := many) (by omega))
      replace h2 : 300 < many := by omega
      clear hr
      go_enter Try.func14, Try.ntmps14
      go_wp2
      go_ret
      exact ⟨ret_bool HG.out.symm, Below.refl _ _⟩
  · have HG := put (goodB_out (rs := rs) (many := many) (by omega))
    replace h1 : many < 1 := by omega
    clear hr
    go_enter Try.func14, Try.ntmps14
    go_wp2
    go_ret
    exact ⟨ret_bool HG.out.symm, Below.refl _ _⟩

set_option maxHeartbeats 1000000 in
set_option maxRecDepth 100000 in
theorem l5RowAt_any (A3 : Option Addr) (n3 c3 : Nat) (rs : List Row3) (a : Int) (many : Nat) (w : World) (hr : ReadsR w w.heap.size A3 n3 rs) (hn : n3 ≤ 300) (_ : many ≤ 300) (hro : rowsF many 0 rs = true) :
    Calls Try.prog 43 #[.slice A3 n3 c3, .int .i64 a] w fun e w' => e = .returned (.int .i64 (ixOf a rs 0)) ∧ Below w.heap.size w w' := by
  have HRO := put hro
  have HLN := put hr.1
  clear hro
  go_enter Try.func43, Try.ntmps43
  go_wp2
  go_loopw [9] (fun i wr => ∃ k : Nat, k ≤ n3 ∧ i = .int .i64 k ∧ Hid (∀ r ∈ rs.take k, ¬ InR r a) ∧ Below w.heap.size w wr) (fun i _ => n3 - (intOf i).toNat)
  case atStart => exact ⟨0, Nat.zero_le _, rfl, put (fun t h => by simp at h), Below.refl _ _⟩
  case round =>
    obtain ⟨k, hk, rfl, hall, hbel⟩ := hrel
    by_cases hlt : k < n3
    · obtain ⟨b, off, x, y, z, rfl, hb', hc1, hc2, hc3, hxt⟩ := (hr.below hbel).at_ hlt
      have hb3 := hbel.alloc hbel.size (.cells #[.int .i64 x, .int .i64 y, .int .i64 z] 50)
      obtain ⟨p0, p1, p2, _, _⟩ : 0 ≤ x ∧ x < y ∧ y ≤ many ∧ 0 ≤ z ∧ z < many := rowsF_from HRO.out _ (mem_of_at hxt.out)
      have hw1 : IntKind.i64.wrap (y - 1) = y - 1 := IntWalk.i64_in _ ⟨by omega, by omega⟩
      by_cases h : InR (x, y, z) a
      · have q := within_yes7 (n := a) (lo := x) (hi := y - 1) ⟨h.1, by have := h.2; simp at this; omega⟩
        have HR := put (show ixOf a rs 0 = (k : Int) from by have := ixOf_hit (j := 0) hxt.out h hall.out; rwa [Nat.zero_add] at this)
        clear h
        go_wp2_with fail
        refine (l1In_any a x (y - 1) _).mono ?_
        rintro e w1 ⟨rfl, rfl⟩
        rw [q]
        go_wp2
        go_ret
        exact ⟨ret_int HR.out.symm, hb3⟩
      · have q := within_no7 (n := a) (lo := x) (hi := y - 1) (fun h' => h ⟨h'.1, by simp; omega⟩)
        have hall2 := put (none_more hxt.out h hall.out)
        clear h
        go_wp2_with fail
        refine (l1In_any a x (y - 1) _).mono ?_
        rintro e w1 ⟨rfl, rfl⟩
        rw [q]
        go_wp2
        go_roundw
        case rel => exact ⟨k + 1, by omega, by go_num, hall2, hb3⟩
        case measure => simp [intOf]; omega
    · have hfin : rs.take k = rs := List.take_of_length_le (by have := HLN.out; omega)
      have HR := put (show ixOf a rs 0 = -1 from ixOf_none (by have := hall.out; rwa [hfin] at this))
      clear hfin
      go_wp2
      go_ret
      exact ⟨ret_int HR.out.symm, hbel⟩

end Go.Proofs.Ytkfdehmmhgcapaa

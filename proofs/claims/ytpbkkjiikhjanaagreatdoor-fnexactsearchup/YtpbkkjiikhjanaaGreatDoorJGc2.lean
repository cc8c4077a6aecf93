/-
  The reference's check of the ways, and both checks of the rows.
-/
import Derived.Test.YtpbkkjiikhjanaaGreatDoorJGc1
import Derived.Deep.RegionLaw
namespace Go.Proofs.YtpbkkjiikhjanaaGreatDoor
open Go.RowKit Exs

set_option maxHeartbeats 2000000 in
set_option maxRecDepth 100000 in
theorem l5Goes_any (s : Cd) (A1 : Option Addr) (n1 c1 : Nat) (A2 : Option Addr) (n2 c2 : Nat) (A3 : Option Addr) (n3 c3 : Nat) (w : World) (hs : IsCd w w.heap.size s A1 n1 A2 n2 A3 n3) (hi : cdB s = true) :
    Calls Tryz.prog 105 #[cdV s A1 n1 c1 A2 n2 c2 A3 n3 c3] w fun e w' => e = .returned (.bool (goesB s)) ∧ Below w.heap.size w w' := by
  have hb := (Below.refl w.heap.size w).alloc (Nat.le_refl _) (Obj.cells #[.int .i64 s.params, .int .i64 s.vars, .slice A1 n1 c1, .slice A2 n2 c2, .slice A3 n3 c3] 82)
  have k2 := Keep.new w #[.int .i64 s.params, .int .i64 s.vars, .slice A1 n1 c1, .slice A2 n2 c2, .slice A3 n3 c3] 82
  have hsz := cdB_iff s |>.1 hi
  rw [hs.sites.1, hs.ins.1, hs.rows.1] at hsz
  have HSZ := put hsz
  have l2 : n2 ≤ 300 := by omega
  have E := put hs.ins.1
  have hins := hs.ins
  clear hsz hi hs
  unfold cdV
  clear HSZ
  go_enter Tryz.func105, Tryz.ntmps105
  go_wp2
  generalize hW : w.alloc (Obj.cells #[.int .i64 s.params, .int .i64 s.vars, .slice A1 n1 c1, .slice A2 n2 c2, .slice A3 n3 c3] 82) = W0 at hb k2 ⊢
  clear hW
  have hbw := hb
  clear hb
  go_loopw [8] (fun i wr => ∃ k : Nat, k ≤ n2 ∧ i = .int .i64 k ∧ Hid (∀ a t, a < k → s.ins[a]? = some t → goB n2 a t = true) ∧ Below W0.heap.size W0 wr) (fun i _ => n2 - (intOf i).toNat)
  case atStart => exact ⟨0, Nat.zero_le _, rfl, put (fun a t h => by omega), Below.refl _ _⟩
  case round =>
    obtain ⟨k, hk, rfl, hall, hbel⟩ := hrel
    by_cases hlt : k < n2
    · obtain ⟨b, off, op, x, rfl, hb', hc1, hc2, hxt⟩ := (hins.below (hbw.trans (hbel.mono hbw.size))).at_ hlt
      have hb3 := hbel.alloc hbel.size (.cells #[.int .i64 op, .int .i64 x] 129)
      have kb := (k2.below hbel).alloc (.cells #[.int .i64 op, .int .i64 x] 129)
      have kn := Keep.new wr #[.int .i64 op, .int .i64 x] 129
      have HL := put (nxL_length op x (k : Int))
      have HWR : IntKind.i64.wrap ((n2 : Int) - 1) = (n2 : Int) - 1 := IntWalk.i64_in _ ⟨by omega, by omega⟩
      go_wp2
      generalize hW : wr.alloc (.cells #[.int .i64 op, .int .i64 x] 129) = W1 at hb3 kb kn ⊢
      clear hW hc1 hc2
      have z3 := kb.cell 3
      have y0 := kn.cell 0
      have y1 := kn.cell 1
      simp at z3 y0 y1
      cases hg : goB n2 k (op, x)
      · have HA : Hid ((List.all (nxL op x k) fun x => within x 0 ((n2 : Int) - 1)) = false) := put hg
        have HNO := put (show goesB s = false from no_of fun h => by have h1 := (goesB_iff s).1 h k _ hxt.out; rw [E.out, hg] at h1; cases h1)
        clear hg
        go_region_law (first
          | (go_simp; go_at_call 126; refine (l5Next_any op x (k : Int) W1.drew (by omega) (by omega)).mono ?_; rintro e w1 ⟨v1, rfl, nu, hb4⟩; have u3 := (Keep.below (w := W1.drew) kb hb4).cell 3; simp at u3)
          | (go_simp; go_at_call 109; refine (l1All_any v1 (nxL op x k) 0 ((n2 : Int) - 1) _ w1 nu (by have := HL.out; omega)).mono ?_; rintro e w2 ⟨rfl, rfl⟩; rw [HA.out]))
        all_goals (
          go_wp2
          go_ret
          exact ⟨ret_bool HNO.out.symm, (hbw.trans (hb3.mono hbw.size)).drew.trans (hb4.mono (Nat.le_trans hbw.size hb3.size))⟩)
      · have HG := put hg
        have HA : Hid ((List.all (nxL op x k) fun x => within x 0 ((n2 : Int) - 1)) = true) := put hg
        have hall2 := put (show ∀ a t, a < k + 1 → s.ins[a]? = some t → goB n2 a t = true from fun a t ha ht => by
          by_cases h : a < k
          · exact hall.out a t h ht
          · obtain rfl : a = k := by omega
            rw [hxt.out] at ht; injection ht with ht; subst ht; exact HG.out)
        clear hg
        go_region_law (first
          | (go_simp; go_at_call 126; refine (l5Next_any op x (k : Int) W1.drew (by omega) (by omega)).mono ?_; rintro e w1 ⟨v1, rfl, nu, hb4⟩; have u3 := (Keep.below (w := W1.drew) kb hb4).cell 3; simp at u3)
          | (go_simp; go_at_call 109; refine (l1All_any v1 (nxL op x k) 0 ((n2 : Int) - 1) _ w1 nu (by have := HL.out; omega)).mono ?_; rintro e w2 ⟨rfl, rfl⟩; rw [HA.out]))
        all_goals (
          go_wp2
          go_roundw
          case rel => exact ⟨k + 1, by omega, by go_num, hall2, hb3.drew.trans (hb4.mono hb3.size)⟩
          case measure => simp [intOf]; omega)
    · have HYES := put ((goesB_iff s).2 fun a t ht => by rw [E.out]; exact hall.out a t (by have := (List.getElem?_eq_some_iff.1 ht).1; have := E.out; omega) ht)
      go_wp2
      go_ret
      exact ⟨ret_bool HYES.out.symm, hbw.trans (hbel.mono hbw.size)⟩

set_option maxHeartbeats 2000000 in
set_option maxRecDepth 100000 in
theorem l5Rows_any (A3 : Option Addr) (n3 c3 : Nat) (rs : List Row3) (many : Nat) (w : World) (hr : ReadsR w w.heap.size A3 n3 rs) (hn : n3 ≤ 300) (hm : many ≤ 300) :
    Calls Tryz.prog 106 #[.slice A3 n3 c3, .int .i64 many] w fun e w' => e = .returned (.bool (rowsF many 0 rs)) ∧ Below w.heap.size w w' := by
  go_enter Tryz.func106, Tryz.ntmps106
  go_wp2
  go_loopw [5, 10] (fun u i wr => ∃ k : Nat, k ≤ n3 ∧ i = .int .i64 k ∧ u = .int .i64 (lastTo 0 (rs.take k)) ∧ Hid (rowsF many 0 (rs.take k) = true) ∧ Below w.heap.size w wr) (fun _ i _ => n3 - (intOf i).toNat)
  case atStart => exact ⟨0, Nat.zero_le _, rfl, by simp [lastTo], put (by simp [rowsF]), Below.refl _ _⟩
  case round =>
    obtain ⟨k, hk, rfl, rfl, hall, hbel⟩ := hrel
    by_cases hlt : k < n3
    · obtain ⟨b, off, x, y, z, rfl, hb', hc1, hc2, hc3, hxt⟩ := (hr.below hbel).at_ hlt
      have hb3 := hbel.alloc hbel.size (.cells #[.int .i64 x, .int .i64 y, .int .i64 z] 85)
      have HNX := put (rowsF_snoc many (x, y, z) (rs.take k) 0)
      have HLT := put (lastTo_snoc (x, y, z) (rs.take k) 0)
      rw [← takeA_more hxt.out] at HNX HLT
      have HN := put (fun (hb : rowB many (lastTo 0 (rs.take k)) (x, y, z) = false) => rowsF_no (a := 0) hxt.out hb)
      generalize lastTo 0 (rs.take k) = a at HNX HN ⊢
      have HB := put (show rowB many a (x, y, z) = true ↔ a ≤ x ∧ x < y ∧ y ≤ many ∧ 0 ≤ z ∧ z < many from by unfold rowB; exact decide_eq_true_iff)
      by_cases p0 : x < a
      · have HNO := put (HN.out (no_of fun h => by have := HB.out.1 h; omega))
        clear HB HN HNX
        go_wp2
        go_ret
        exact ⟨ret_bool HNO.out.symm, hb3⟩
      replace p0 : a ≤ x := by omega
      by_cases p1 : y ≤ x
      · have HNO := put (HN.out (no_of fun h => by have := HB.out.1 h; omega))
        clear HB HN HNX
        go_wp2
        go_ret
        exact ⟨ret_bool HNO.out.symm, hb3⟩
      replace p1 : x < y := by omega
      by_cases p2 : (many : Int) < y
      · have HNO := put (HN.out (no_of fun h => by have := HB.out.1 h; omega))
        clear HB HN HNX
        go_wp2
        go_ret
        exact ⟨ret_bool HNO.out.symm, hb3⟩
      replace p2 : y ≤ (many : Int) := by omega
      by_cases p3 : 0 ≤ z ∧ z ≤ (many : Int) - 1
      rotate_left
      · have q := within_no p3
        have HNO := put (HN.out (no_of fun h => by have := HB.out.1 h; omega))
        clear HB HN HNX p3
        go_wp2_with fail
        refine (l1In_any z 0 ((many : Int) - 1) _).mono ?_
        rintro e w1 ⟨rfl, rfl⟩
        rw [q]
        go_wp2
        go_ret
        exact ⟨ret_bool HNO.out.symm, hb3⟩
      have q := within_yes p3
      have HY := put (show rowsF many 0 (rs.take (k + 1)) = true by rw [HNX.out, hall.out, HB.out.2 (by omega)]; rfl)
      clear HB HN HNX
      go_wp2_with fail
      refine (l1In_any z 0 ((many : Int) - 1) _).mono ?_
      rintro e w1 ⟨rfl, rfl⟩
      rw [q]
      go_wp2
      go_roundw
      case rel => exact ⟨k + 1, by omega, by go_num, by rw [HLT.out], HY, hb3⟩
      case measure => simp [intOf]; omega
    · have hfin := put (show rs.take k = rs from List.take_of_length_le (by rw [hr.1]; omega))
      have HYES := put (show rowsF many 0 rs = true by have := hall.out; rwa [hfin.out] at this)
      go_wp2
      go_ret
      exact ⟨ret_bool HYES.out.symm, hbel⟩

set_option maxHeartbeats 2000000 in
set_option maxRecDepth 100000 in
theorem goodRows_any (A3 : Option Addr) (n3 c3 : Nat) (rs : List Row3) (many : Nat) (w : World) (hr : ReadsR w w.heap.size A3 n3 rs) (hn : n3 ≤ 300) (_ : many ≤ 300) :
    Calls Tryz.prog 99 #[.slice A3 n3 c3, .int .i64 many] w fun e w' => e = .returned (.bool (rowsF many 0 rs)) ∧ Below w.heap.size w w' := by
  go_enter Tryz.func99, Tryz.ntmps99
  go_wp2
  go_loopw [5, 10] (fun u i wr => ∃ k : Nat, k ≤ n3 ∧ i = .int .i64 k ∧ u = .int .i64 (lastTo 0 (rs.take k)) ∧ Hid (rowsF many 0 (rs.take k) = true) ∧ Below w.heap.size w wr) (fun _ i _ => n3 - (intOf i).toNat)
  case atStart => exact ⟨0, Nat.zero_le _, rfl, by simp [lastTo], put (by simp [rowsF]), Below.refl _ _⟩
  case round =>
    obtain ⟨k, hk, rfl, rfl, hall, hbel⟩ := hrel
    by_cases hlt : k < n3
    · obtain ⟨b, off, x, y, z, rfl, hb', hc1, hc2, hc3, hxt⟩ := (hr.below hbel).at_ hlt
      have hb3 := hbel.alloc hbel.size (.cells #[.int .i64 x, .int .i64 y, .int .i64 z] 85)
      have HNX := put (rowsF_snoc many (x, y, z) (rs.take k) 0)
      have HLT := put (lastTo_snoc (x, y, z) (rs.take k) 0)
      rw [← takeA_more hxt.out] at HNX HLT
      have HN := put (fun (hb : rowB many (lastTo 0 (rs.take k)) (x, y, z) = false) => rowsF_no (a := 0) hxt.out hb)
      generalize lastTo 0 (rs.take k) = a at HNX HN ⊢
      have HB := put (show rowB many a (x, y, z) = true ↔ a ≤ x ∧ x < y ∧ y ≤ many ∧ 0 ≤ z ∧ z < many from by unfold rowB; exact decide_eq_true_iff)
      by_cases p0 : x < a
      · have HNO := put (HN.out (no_of fun h => by have := HB.out.1 h; omega))
        clear HB HN HNX
        go_wp2
        go_ret
        exact ⟨ret_bool HNO.out.symm, hb3⟩
      replace p0 : a ≤ x := by omega
      by_cases p1 : y ≤ x
      · have HNO := put (HN.out (no_of fun h => by have := HB.out.1 h; omega))
        clear HB HN HNX
        go_wp2
        go_ret
        exact ⟨ret_bool HNO.out.symm, hb3⟩
      replace p1 : x < y := by omega
      by_cases p2 : (many : Int) < y
      · have HNO := put (HN.out (no_of fun h => by have := HB.out.1 h; omega))
        clear HB HN HNX
        go_wp2
        go_ret
        exact ⟨ret_bool HNO.out.symm, hb3⟩
      replace p2 : y ≤ (many : Int) := by omega
      by_cases p3 : z < 0
      · have HNO := put (HN.out (no_of fun h => by have := HB.out.1 h; omega))
        clear HB HN HNX
        go_wp2
        go_ret
        exact ⟨ret_bool HNO.out.symm, hb3⟩
      replace p3 : 0 ≤ z := by omega
      by_cases p4 : (many : Int) ≤ z
      · have HNO := put (HN.out (no_of fun h => by have := HB.out.1 h; omega))
        clear HB HN HNX
        go_wp2
        go_ret
        exact ⟨ret_bool HNO.out.symm, hb3⟩
      replace p4 : z < (many : Int) := by omega
      have HY := put (show rowsF many 0 (rs.take (k + 1)) = true by rw [HNX.out, hall.out, HB.out.2 (by omega)]; rfl)
      clear HB HN HNX
      go_wp2
      go_roundw
      case rel => exact ⟨k + 1, by omega, by go_num, by rw [HLT.out], HY, hb3⟩
      case measure => simp [intOf]; omega
    · have hfin := put (show rs.take k = rs from List.take_of_length_le (by rw [hr.1]; omega))
      have HYES := put (show rowsF many 0 rs = true by have := hall.out; rwa [hfin.out] at this)
      go_wp2
      go_ret
      exact ⟨ret_bool HYES.out.symm, hbel⟩

end Go.Proofs.YtpbkkjiikhjanaaGreatDoor

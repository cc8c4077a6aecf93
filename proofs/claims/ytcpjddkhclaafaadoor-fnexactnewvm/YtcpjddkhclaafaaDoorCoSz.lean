/-
  The laws' counting of an image's values.
-/
import Derived.Test.YtcpjddkhclaafaaDoorCod
namespace Go.Proofs.YtcpjddkhclaafaaDoor
open Go.RowKit Exs

def szA (m : Nat) (left : Int) : Int := if (m : Int) ≤ left then left - m else -1
theorem szA_fit {m : Nat} {left : Int} (h : (m : Int) ≤ left) : szA m left = left - m := by simp [szA, h]
theorem szA_no {m : Nat} {left : Int} (h : left < (m : Int)) : szA m left = -1 := by simp [szA]; omega

set_option maxHeartbeats 400000 in
theorem szInts_any (A : Option Addr) (n c : Nat) (left : Int) (w : World) (hn : n ≤ maxLen) (h0 : 0 ≤ left) (h1 : left ≤ 1048576) : Calls Tryd.prog 44 #[.slice A n c, .int .i64 left] w fun e w' => e = .returned (.int .i64 (szA n left)) ∧ w = w' := by
  unfold maxLen at hn
  by_cases h : (n : Int) ≤ left
  · rw [szA_fit h]
    go_enter Tryd.func44, Tryd.ntmps44
    go_wp2
    go_ret
    exact ⟨rfl, rfl⟩
  · have h := Int.not_le.1 h
    rw [szA_no h]
    go_enter Tryd.func44, Tryd.ntmps44
    go_wp2
    go_ret
    exact ⟨rfl, rfl⟩
set_option maxHeartbeats 400000 in
theorem szToks_any (A : Option Addr) (n c : Nat) (left : Int) (w : World) (hn : n ≤ maxLen) (h0 : 0 ≤ left) (h1 : left ≤ 1048576) : Calls Tryd.prog 45 #[.slice A n c, .int .i64 left] w fun e w' => e = .returned (.int .i64 (szA n left)) ∧ w = w' := by
  unfold maxLen at hn
  by_cases h : (n : Int) ≤ left
  · rw [szA_fit h]
    go_enter Tryd.func45, Tryd.ntmps45
    go_wp2
    go_ret
    exact ⟨rfl, rfl⟩
  · have h := Int.not_le.1 h
    rw [szA_no h]
    go_enter Tryd.func45, Tryd.ntmps45
    go_wp2
    go_ret
    exact ⟨rfl, rfl⟩

set_option maxHeartbeats 400000 in
theorem szRows_any (A : Option Addr) (n c : Nat) (left : Int) (w : World) (hn : n ≤ maxLen) (h0 : 0 ≤ left) (h1 : left ≤ 1048576) : Calls Tryd.prog 46 #[.slice A n c, .int .i64 left] w fun e w' => e = .returned (.int .i64 (szA n left)) ∧ w = w' := by
  unfold maxLen at hn
  by_cases h : (n : Int) ≤ left
  · rw [szA_fit h]
    go_enter Tryd.func46, Tryd.ntmps46
    go_wp2
    go_ret
    exact ⟨rfl, rfl⟩
  · have h := Int.not_le.1 h
    rw [szA_no h]
    go_enter Tryd.func46, Tryd.ntmps46
    go_wp2
    go_ret
    exact ⟨rfl, rfl⟩

/-- Slices no longer than memory lets them be. -/
def LongC (s : Cd) : Prop := s.sites.length ≤ maxLen ∧ s.ins.length ≤ maxLen ∧ s.rows.length ≤ maxLen
set_option maxHeartbeats 400000 in
theorem szCode_any (s : Cd) (A1 : Option Addr) (n1 c1 : Nat) (A2 : Option Addr) (n2 c2 : Nat) (A3 : Option Addr) (n3 c3 : Nat) (left : Int) (w : World) (e1 : s.sites.length = n1) (e2 : s.ins.length = n2) (e3 : s.rows.length = n3) (hl : LongC s) (h0 : 0 ≤ left) (h1 : left ≤ 1048576) :
    Calls Tryd.prog 30 #[cdV s A1 n1 c1 A2 n2 c2 A3 n3 c3, .int .i64 left] w fun e w' => e = .returned (.int .i64 (szA (manyC s) left)) ∧ Below w.heap.size w w' := by
  obtain ⟨l1, l2, l3⟩ := hl
  have hm := put (show manyC s = n1 + n2 + n3 by simp [manyC, e1, e2, e3])
  rw [e1] at l1; rw [e2] at l2; rw [e3] at l3
  clear e1 e2 e3
  unfold cdV
  by_cases k1 : (n1 : Int) ≤ left
  · by_cases k2 : (n2 : Int) ≤ left - n1
    · by_cases k3 : (n3 : Int) ≤ left - n1 - n2
      · rw [szA_fit (by rw [hm.out]; omega)]
        go_enter Tryd.func30, Tryd.ntmps30
        go_wp2_with fail
        refine (szInts_any _ _ _ _ _ l1 h0 h1).mono ?_
        rintro e w1 ⟨rfl, rfl⟩
        rw [szA_fit k1]
        go_wp2_with fail
        refine (szToks_any _ _ _ _ _ l2 (by omega) (by omega)).mono ?_
        rintro e w1 ⟨rfl, rfl⟩
        rw [szA_fit k2]
        go_wp2_with fail
        refine (szRows_any _ _ _ _ _ l3 (by omega) (by omega)).mono ?_
        rintro e w1 ⟨rfl, rfl⟩
        rw [szA_fit k3]
        go_wp2
        go_ret
        exact ⟨ret_int (by rw [hm.out]; omega), (Below.refl _ _).alloc (Nat.le_refl _) _⟩
      · have k3 := Int.not_le.1 k3
        rw [szA_no (by rw [hm.out]; omega)]
        go_enter Tryd.func30, Tryd.ntmps30
        go_wp2_with fail
        refine (szInts_any _ _ _ _ _ l1 h0 h1).mono ?_
        rintro e w1 ⟨rfl, rfl⟩
        rw [szA_fit k1]
        go_wp2_with fail
        refine (szToks_any _ _ _ _ _ l2 (by omega) (by omega)).mono ?_
        rintro e w1 ⟨rfl, rfl⟩
        rw [szA_fit k2]
        go_wp2_with fail
        refine (szRows_any _ _ _ _ _ l3 (by omega) (by omega)).mono ?_
        rintro e w1 ⟨rfl, rfl⟩
        rw [szA_no k3]
        go_wp2
        go_ret
        exact ⟨rfl, (Below.refl _ _).alloc (Nat.le_refl _) _⟩
    · have k2 := Int.not_le.1 k2
      rw [szA_no (by rw [hm.out]; omega)]
      go_enter Tryd.func30, Tryd.ntmps30
      go_wp2_with fail
      refine (szInts_any _ _ _ _ _ l1 h0 h1).mono ?_
      rintro e w1 ⟨rfl, rfl⟩
      rw [szA_fit k1]
      go_wp2_with fail
      refine (szToks_any _ _ _ _ _ l2 (by omega) (by omega)).mono ?_
      rintro e w1 ⟨rfl, rfl⟩
      rw [szA_no k2]
      go_wp2
      go_ret
      exact ⟨rfl, (Below.refl _ _).alloc (Nat.le_refl _) _⟩
  · have k1 := Int.not_le.1 k1
    rw [szA_no (by rw [hm.out]; omega)]
    go_enter Tryd.func30, Tryd.ntmps30
    go_wp2_with fail
    refine (szInts_any _ _ _ _ _ l1 h0 h1).mono ?_
    rintro e w1 ⟨rfl, rfl⟩
    rw [szA_no k1]
    go_wp2
    go_ret
    exact ⟨rfl, (Below.refl _ _).alloc (Nat.le_refl _) _⟩

set_option maxHeartbeats 400000 in
set_option maxRecDepth 100000 in
theorem szCodes_any (A : Option Addr) (n c : Nat) (ss : List Cd) (left : Int) (w : World) (hr : ReadsC w w.heap.size A n ss) (hn : n ≤ maxLen) (hl : ∀ s ∈ ss, LongC s) (h0 : 0 ≤ left) (h1 : left ≤ 1048576) :
    Calls Tryd.prog 13 #[.slice A n c, .int .i64 left] w fun e w' => e = .returned (.int .i64 (szA (n + manyCs ss) left)) ∧ Below w.heap.size w w' := by
  unfold maxLen at hn
  by_cases h : (n : Int) ≤ left
  · go_enter Tryd.func13, Tryd.ntmps13
    go_wp2
    go_loopw [1, 5] (fun l i wr => ∃ k : Nat, k ≤ n ∧ i = .int .i64 k ∧ Hid (((n + manyCs (ss.take k) : Nat) : Int) ≤ left) ∧ l = .int .i64 (left - n - manyCs (ss.take k)) ∧ Below w.heap.size w wr) (fun _ i _ => n - (intOf i).toNat)
    case atStart => exact ⟨0, Nat.zero_le _, rfl, put (by simp [manyCs]; exact h), by simp [manyCs], Below.refl _ _⟩
    case round =>
      obtain ⟨k, hk, rfl, hfit, rfl, hbel⟩ := hrel
      obtain ⟨m, hm⟩ : ∃ m : Nat, manyCs (ss.take k) = m := ⟨_, rfl⟩
      rw [hm] at hfit ⊢
      have hfit := hfit.out
      by_cases hlt : k < n
      · obtain ⟨b, off, s, A1, n1, c1, A2, n2, c2, A3, n3, c3, rfl, hb, g0, g1, g2, g3, g4, r1, r2, r3, hx⟩ := (hr.below hbel).at_ hlt
        have hmore := put (show manyCs (ss.take (k + 1)) = m + manyC s by rw [takeA_more hx.out, manyCs_append, hm]; simp [manyCs])
        have hall := put (show m + manyC s ≤ manyCs ss by
          have e : ss = ss.take (k + 1) ++ ss.drop (k + 1) := (List.take_append_drop _ _).symm
          rw [← hmore.out]; conv => rhs; rw [e, manyCs_append]
          omega)
        clear hm
        by_cases hf : ((manyC s : Nat) : Int) ≤ left - n - m
        · have hsz := szA_fit hf
          go_wp2_with fail
          refine (szCode_any s _ _ _ _ _ _ _ _ _ _ _ r1.1 r2.1 r3.1 (hl _ (mem_of_at hx.out)) (by omega) (by omega)).mono ?_
          rintro e w1 ⟨rfl, hb1⟩
          rw [hsz]
          clear hsz r1 r2 r3 g0 g1 g2 g3 g4
          go_wp2
          go_roundw
          case rel => exact ⟨k + 1, by omega, by go_num, put (by rw [hmore.out]; omega), by rw [hmore.out]; exact congrArg _ (by omega), hbel.trans (hb1.mono hbel.size)⟩
          case measure => simp [intOf]; omega
        · have hf := Int.not_le.1 hf
          have hsz := szA_no hf
          go_wp2_with fail
          refine (szCode_any s _ _ _ _ _ _ _ _ _ _ _ r1.1 r2.1 r3.1 (hl _ (mem_of_at hx.out)) (by omega) (by omega)).mono ?_
          rintro e w1 ⟨rfl, hb1⟩
          rw [hsz]
          clear hsz r1 r2 r3 g0 g1 g2 g3 g4
          go_wp2
          go_ret
          exact ⟨ret_int (szA_no (by have := hall.out; omega)).symm, hbel.trans (hb1.mono hbel.size)⟩
      · have hfin := put (show manyCs ss = m by rw [← hm, List.take_of_length_le (by rw [hr.1]; omega)])
        clear hm
        go_wp2
        go_ret
        exact ⟨ret_int (by rw [hfin.out, szA_fit hfit]; omega), hbel⟩
  · have h := Int.not_le.1 h
    rw [szA_no (by omega)]
    go_enter Tryd.func13, Tryd.ntmps13
    go_wp2
    go_ret
    exact ⟨rfl, Below.refl _ _⟩

def LongI (cs : List Cd) : Prop := cs.length ≤ maxLen ∧ ∀ c ∈ cs, LongC c

set_option maxHeartbeats 400000 in
theorem szImage_any (A : Option Addr) (n c : Nat) (cs : List Cd) (left : Int) (w : World) (hr : ReadsC w w.heap.size A n cs) (hl : LongI cs) (h0 : 0 ≤ left) (h1 : left ≤ 1048576) :
    Calls Tryd.prog 4 #[.agg #[.slice A n c], .int .i64 left] w fun e w' => e = .returned (.int .i64 (szA (n + manyCs cs) left)) ∧ Below w.heap.size w w' := by
  have hb := (Below.refl w.heap.size w).alloc (Nat.le_refl _) (Obj.cells #[Value.slice A n c] 24)
  have hst := szCodes_any A n c cs left _ (hr.now hb) (by rw [← hr.1]; exact hl.1) hl.2 h0 h1
  clear hr hl
  obtain ⟨m, hm⟩ : ∃ m : Nat, n + manyCs cs = m := ⟨_, rfl⟩
  rw [hm] at hst ⊢
  clear hm
  by_cases h : (m : Int) ≤ left
  · rw [szA_fit h] at hst ⊢
    go_enter Tryd.func4, Tryd.ntmps4
    go_wp2_with fail
    refine hst.mono ?_
    rintro e w1 ⟨rfl, hb1⟩
    go_wp2
    go_ret
    exact ⟨rfl, hb.trans (hb1.mono hb.size)⟩
  · have h := Int.not_le.1 h
    rw [szA_no h] at hst ⊢
    go_enter Tryd.func4, Tryd.ntmps4
    go_wp2_with fail
    refine hst.mono ?_
    rintro e w1 ⟨rfl, hb1⟩
    go_wp2
    go_ret
    exact ⟨rfl, hb.trans (hb1.mono hb.size)⟩

end Go.Proofs.YtcpjddkhclaafaaDoor

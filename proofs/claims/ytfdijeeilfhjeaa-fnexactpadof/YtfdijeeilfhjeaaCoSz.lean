/-
  The laws' counting of an image's values.
-/
import Derived.Test.YtfdijeeilfhjeaaCod
import Derived.Test.YtfdijeeilfhjeaaPrgSz
namespace Go.Proofs.Ytfdijeeilfhjeaa
open Go.RowKit Exs

set_option maxHeartbeats 400000 in
theorem szToks_anyI (A : Option Addr) (n c : Nat) (left : Int) (w : World) (hn : n ≤ maxLen) (h0 : 0 ≤ left) (h1 : left ≤ 1048576) : Calls Try.prog 44 #[.slice A n c, .int .i64 left] w fun e w' => e = .returned (.int .i64 (szA n left)) ∧ w = w' := by
  unfold maxLen at hn
  by_cases h : (n : Int) ≤ left
  · rw [szA_fit h]
    go_enter Try.func44, Try.ntmps44
    go_wp2
    go_ret
    exact ⟨rfl, rfl⟩
  · have h := Int.not_le.1 h
    rw [szA_no h]
    go_enter Try.func44, Try.ntmps44
    go_wp2
    go_ret
    exact ⟨rfl, rfl⟩

set_option maxHeartbeats 400000 in
theorem szRows_any (A : Option Addr) (n c : Nat) (left : Int) (w : World) (hn : n ≤ maxLen) (h0 : 0 ≤ left) (h1 : left ≤ 1048576) : Calls Try.prog 45 #[.slice A n c, .int .i64 left] w fun e w' => e = .returned (.int .i64 (szA n left)) ∧ w = w' := by
  unfold maxLen at hn
  by_cases h : (n : Int) ≤ left
  · rw [szA_fit h]
    go_enter Try.func45, Try.ntmps45
    go_wp2
    go_ret
    exact ⟨rfl, rfl⟩
  · have h := Int.not_le.1 h
    rw [szA_no h]
    go_enter Try.func45, Try.ntmps45
    go_wp2
    go_ret
    exact ⟨rfl, rfl⟩

/-- Slices no longer than memory lets them be. -/
def LongC (s : Cd) : Prop := s.sites.length ≤ maxLen ∧ s.ins.length ≤ maxLen ∧ s.rows.length ≤ maxLen
set_option maxHeartbeats 400000 in
theorem szCode_any (s : Cd) (A1 : Option Addr) (n1 c1 : Nat) (A2 : Option Addr) (n2 c2 : Nat) (A3 : Option Addr) (n3 c3 : Nat) (left : Int) (w : World) (e1 : s.sites.length = n1) (e2 : s.ins.length = n2) (e3 : s.rows.length = n3) (hl : LongC s) (h0 : 0 ≤ left) (h1 : left ≤ 1048576) :
    Calls Try.prog 8 #[cdV s A1 n1 c1 A2 n2 c2 A3 n3 c3, .int .i64 left] w fun e w' => e = .returned (.int .i64 (szA (manyC s) left)) ∧ Below w.heap.size w w' := by
  obtain ⟨l1, l2, l3⟩ := hl
  have hm := put (show manyC s = n1 + n2 + n3 by simp [manyC, e1, e2, e3])
  rw [e1] at l1; rw [e2] at l2; rw [e3] at l3
  clear e1 e2 e3
  unfold cdV
  by_cases k1 : (n1 : Int) ≤ left
  · by_cases k2 : (n2 : Int) ≤ left - n1
    · by_cases k3 : (n3 : Int) ≤ left - n1 - n2
      · rw [szA_fit (by rw [hm.out]; omega)]
        go_enter Try.func8, Try.ntmps8
        go_wp2_with fail
        refine (szInts_any _ _ _ _ _ l1 h0 h1).mono ?_
        rintro e w1 ⟨rfl, rfl⟩
        rw [szA_fit k1]
        go_wp2_with fail
        refine (szToks_anyI _ _ _ _ _ l2 (by omega) (by omega)).mono ?_
        rintro e w1 ⟨rfl, rfl⟩
        rw [szA_fit k2]
        go_wp2_with fail
        refine (szRows_any _ _ _ _ _ l3 (by omega) (by omega)).mono ?_
        rintro e w1 ⟨rfl, rfl⟩
        rw [szA_fit k3]
        go_wp2
        go_ret
        exact ⟨ret_int (by rw [hm.out]; omega), (Below.refl _ _).alloc (Nat.le_refl _) _⟩
      · have k3 := Int.not_le.1 k3
        rw [szA_no (by rw [hm.out]; omega)]
        go_enter Try.func8, Try.ntmps8
        go_wp2_with fail
        refine (szInts_any _ _ _ _ _ l1 h0 h1).mono ?_
        rintro e w1 ⟨rfl, rfl⟩
        rw [szA_fit k1]
        go_wp2_with fail
        refine (szToks_anyI _ _ _ _ _ l2 (by omega) (by omega)).mono ?_
        rintro e w1 ⟨rfl, rfl⟩
        rw [szA_fit k2]
        go_wp2_with fail
        refine (szRows_any _ _ _ _ _ l3 (by omega) (by omega)).mono ?_
        rintro e w1 ⟨rfl, rfl⟩
        rw [szA_no k3]
        go_wp2
        go_ret
        exact ⟨rfl, (Below.refl _ _).alloc (Nat.le_refl _) _⟩
    · have k2 := Int.not_le.1 k2
      rw [szA_no (by rw [hm.out]; omega)]
      go_enter Try.func8, Try.ntmps8
      go_wp2_with fail
      refine (szInts_any _ _ _ _ _ l1 h0 h1).mono ?_
      rintro e w1 ⟨rfl, rfl⟩
      rw [szA_fit k1]
      go_wp2_with fail
      refine (szToks_anyI _ _ _ _ _ l2 (by omega) (by omega)).mono ?_
      rintro e w1 ⟨rfl, rfl⟩
      rw [szA_no k2]
      go_wp2
      go_ret
      exact ⟨rfl, (Below.refl _ _).alloc (Nat.le_refl _) _⟩
  · have k1 := Int.not_le.1 k1
    rw [szA_no (by rw [hm.out]; omega)]
    go_enter Try.func8, Try.ntmps8
    go_wp2_with fail
    refine (szInts_any _ _ _ _ _ l1 h0 h1).mono ?_
    rintro e w1 ⟨rfl, rfl⟩
    rw [szA_no k1]
    go_wp2
    go_ret
    exact ⟨rfl, (Below.refl _ _).alloc (Nat.le_refl _) _⟩

def LongI (cs : List Cd) : Prop := cs.length ≤ maxLen ∧ ∀ c ∈ cs, LongC c

end Go.Proofs.Ytfdijeeilfhjeaa

/-
  Contracts of the reference's ExprText and of what it calls.
-/
import Derived.Test.YtfdijeeilfhjeaaDoorNum
namespace Go.Proofs.YtfdijeeilfhjeaaDoor
open Go.RowKit Exs
set_option linter.unusedVariables false

theorem intL_neg {n : Int} (h : n < 0) : intL n = [45] ++ numL (-n).toNat := by rw [intL, if_pos h]; rfl
theorem intL_pos {n : Int} (h : ¬ n < 0) : intL n = numL n.toNat := by rw [intL, if_neg h]
theorem intL_length {n : Int} (h0 : -2147483648 ≤ n) (h1 : n ≤ 2147483647) : (intL n).length ≤ 11 := by
  by_cases h : n < 0
  · rw [intL_neg h, List.length_append]
    have := numL_length_le 9 (-n).toNat (by omega)
    simp; omega
  · rw [intL_pos h]
    have := numL_length_le 9 n.toNat (by omega)
    omega

set_option maxHeartbeats 400000 in
set_option maxRecDepth 100000 in
theorem l2Int_any (n : Int) (w : World) (h0 : -2147483648 ≤ n) (h1 : n ≤ 2147483647) : Calls Tryd.prog 31 #[.int .i64 n] w fun e w' => e = .returned (.string (strB (intL n))) ∧ Below w.heap.size w w' := by
  by_cases hneg : n < 0
  · have HN := put (intL_neg hneg)
    obtain ⟨m, hm⟩ : ∃ m : Nat, -n = m := ⟨(-n).toNat, by omega⟩
    have hs : (strB (numL m)).size ≤ 10 := by rw [strB_size]; exact numL_length_le 9 m (by omega)
    rw [hm, Int.toNat_natCast] at HN
    obtain rfl : n = -(m : Int) := by omega
    clear hm
    have hpos : 0 < m := by omega
    go_enter Tryd.func31, Tryd.ntmps31
    go_wp2_with fail
    refine (l1Num_any m _ (by omega)).mono ?_
    rintro e w1 ⟨rfl, hb1⟩
    go_wp2
    go_ret
    exact ⟨by rw [HN.out, ← strB_append]; rfl, hb1⟩
  · have HN := put (intL_pos hneg)
    obtain ⟨m, rfl⟩ := Int.eq_ofNat_of_zero_le (by omega : 0 ≤ n)
    rw [Int.toNat_natCast] at HN
    clear hneg
    go_enter Tryd.func31, Tryd.ntmps31
    go_wp2_with fail
    refine (l1Num_any m _ (by omega)).mono ?_
    rintro e w1 ⟨rfl, hb1⟩
    go_wp2
    go_ret
    exact ⟨by rw [HN.out]; rfl, hb1⟩

/-- The reference's words, by op. -/
def wordsArr : Array Value := #[.string (strB []), .string (strB []), .string (strB []), .string (strB [43]), .string (strB [45]), .string (strB [42]), .string (strB [47]), .string (strB [60]), .string (strB [61]), .string (strB [105, 110]), .string (strB [114, 101, 99])]

set_option maxHeartbeats 400000 in
theorem l2Words_any (w : World) : Calls Tryd.prog 33 #[] w fun e w' => e = .returned (.slice (some ⟨w.heap.size, 0, none⟩) 11 11) ∧ w.alloc (.cells wordsArr 9) = w' := by
  go_enter Tryd.func33, Tryd.ntmps33
  go_wp2
  go_ret
  exact ⟨rfl, rfl⟩

theorem tokL_num (n : Int) : tokL (1, n) = intL n := rfl
theorem tokL_var (m : Nat) : tokL (2, (m : Int)) = [118] ++ numL m := rfl
theorem tokL_call (m : Nat) : tokL (11, (m : Int)) = [102] ++ numL m := rfl

set_option maxHeartbeats 2000000 in
set_option maxRecDepth 100000 in
theorem l2TokText_any (op n : Int) (w : World) (h : tokB op n = true) : Calls Tryd.prog 28 #[.agg #[.int .i64 op, .int .i64 n]] w fun e w' => e = .returned (.string (strB (tokL (op, n)))) ∧ Below w.heap.size w w' := by
  have hg := (tokB_iff _ _).1 h
  clear h
  have hc : (op = 1 ∧ -2147483648 ≤ n ∧ n ≤ 2147483647) ∨ (op = 2 ∧ 0 ≤ n ∧ n ≤ 99) ∨ (op = 11 ∧ 0 ≤ n ∧ n ≤ 99) ∨ (3 ≤ op ∧ op ≤ 10 ∧ n = 0) := by omega
  clear hg
  rcases hc with ⟨rfl, h0, h1⟩ | ⟨rfl, h0, h1⟩ | ⟨rfl, h0, h1⟩ | ⟨h0, h1, rfl⟩
  · go_enter Tryd.func28, Tryd.ntmps28
    go_wp2_with fail
    refine (l2Int_any n _ h0 h1).mono ?_
    rintro e w1 ⟨rfl, hb1⟩
    go_wp2
    go_ret
    exact ⟨rfl, ((Below.refl _ _).alloc (Nat.le_refl _) _).trans (hb1.mono (by simp))⟩
  · obtain ⟨m, rfl⟩ := Int.eq_ofNat_of_zero_le h0
    have hs : (strB (numL m)).size ≤ 10 := by rw [strB_size]; exact numL_length_le 9 m (by omega)
    have HT := put (tokL_var m)
    go_enter Tryd.func28, Tryd.ntmps28
    go_wp2_with fail
    refine (l1Num_any m _ (by omega)).mono ?_
    rintro e w1 ⟨rfl, hb1⟩
    go_wp2
    go_ret
    exact ⟨by rw [HT.out, ← strB_append]; rfl, ((Below.refl _ _).alloc (Nat.le_refl _) _).trans (hb1.mono (by simp))⟩
  · obtain ⟨m, rfl⟩ := Int.eq_ofNat_of_zero_le h0
    have hs : (strB (numL m)).size ≤ 10 := by rw [strB_size]; exact numL_length_le 9 m (by omega)
    have HT := put (tokL_call m)
    go_enter Tryd.func28, Tryd.ntmps28
    go_wp2_with fail
    refine (l1Num_any m _ (by omega)).mono ?_
    rintro e w1 ⟨rfl, hb1⟩
    go_wp2
    go_ret
    exact ⟨by rw [HT.out, ← strB_append]; rfl, ((Below.refl _ _).alloc (Nat.le_refl _) _).trans (hb1.mono (by simp))⟩
  · have hcs : op = 3 ∨ op = 4 ∨ op = 5 ∨ op = 6 ∨ op = 7 ∨ op = 8 ∨ op = 9 ∨ op = 10 := by omega
    clear h0 h1
    rcases hcs with rfl | rfl | rfl | rfl | rfl | rfl | rfl | rfl
    all_goals
      go_enter Tryd.func28, Tryd.ntmps28
      go_wp2
      go_region_with (go_at_call 33; refine (l2Words_any _).mono ?_; rintro e w1 ⟨rfl, rfl⟩; unfold wordsArr)
      all_goals
        go_wp2
        go_ret
        exact ⟨rfl, (((Below.refl _ _).alloc (Nat.le_refl _) _).alloc (by simp) _).drew⟩

theorem tokL_length {op n : Int} (h : tokB op n = true) : (tokL (op, n)).length ≤ 11 := by
  have hg := (tokB_iff _ _).1 h
  have hc : (op = 1 ∧ -2147483648 ≤ n ∧ n ≤ 2147483647) ∨ (op = 2 ∧ 0 ≤ n ∧ n ≤ 99) ∨ (op = 11 ∧ 0 ≤ n ∧ n ≤ 99) ∨ (3 ≤ op ∧ op ≤ 10 ∧ n = 0) := by omega
  rcases hc with ⟨rfl, h0, h1⟩ | ⟨rfl, h0, h1⟩ | ⟨rfl, h0, h1⟩ | ⟨h0, h1, rfl⟩
  · exact intL_length h0 h1
  · obtain ⟨m, rfl⟩ := Int.eq_ofNat_of_zero_le h0
    rw [tokL_var, List.length_append]
    have := numL_length_le 9 m (by omega)
    simp; omega
  · obtain ⟨m, rfl⟩ := Int.eq_ofNat_of_zero_le h0
    rw [tokL_call, List.length_append]
    have := numL_length_le 9 m (by omega)
    simp; omega
  · have hcs : op = 3 ∨ op = 4 ∨ op = 5 ∨ op = 6 ∨ op = 7 ∨ op = 8 ∨ op = 9 ∨ op = 10 := by omega
    rcases hcs with rfl | rfl | rfl | rfl | rfl | rfl | rfl | rfl <;> decide

end Go.Proofs.YtfdijeeilfhjeaaDoor

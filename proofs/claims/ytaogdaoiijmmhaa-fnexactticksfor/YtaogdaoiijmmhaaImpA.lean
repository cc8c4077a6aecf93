/-
  The program's test of a statement's fields: its contract.
-/
import Derived.Test.YtaogdaoiijmmhaaImpA0
namespace Go.Proofs.Ytaogdaoiijmmhaa
open Go.RowKit Exs

set_option maxHeartbeats 4000000 in
set_option maxRecDepth 100000 in
theorem goodFields_raw (k x vars : Int) (A1 : Option Addr) (n1 c1 : Nat) (A2 : Option Addr) (n2 c2 : Nat) (A3 : Option Addr) (n3 c3 : Nat) (w : World) (he hf : Bool) (HE : Hid (he = true ↔ k ≠ 3 ∧ k ≠ 6))
    (HF : Hid (hf = true ↔ (1 ≤ k ∧ k ≤ 9 ∧ (0 < n2 → k = 7 ∨ k = 8) ∧ (0 < n3 → k = 7) ∧ (k = 3 ∨ k = 6 → n1 = 0) ∧ 0 ≤ x ∧ x < manyN k vars)))
    (hcon : Hid (∀ W, Calls Try.prog 49 #[.agg #[.int .i64 k, .int .i64 x, .slice A1 n1 c1, .slice A2 n2 c2, .slice A3 n3 c3]] W fun e w' => e = .returned (.bool he) ∧ Below W.heap.size W w')) :
    Calls Try.prog 47 #[.agg #[.int .i64 k, .int .i64 x, .slice A1 n1 c1, .slice A2 n2 c2, .slice A3 n3 c3], .int .i64 vars] w fun e w' => e = .returned (.bool hf) ∧ Below w.heap.size w w' := by
  have hb0 : Below w.heap.size w (w.alloc (.cells #[.int .i64 k, .int .i64 x, .slice A1 n1 c1, .slice A2 n2 c2, .slice A3 n3 c3] 68)) := (Below.refl _ _).alloc (Nat.le_refl _) _
  by_cases hlo : k < 1
  · go_enter Try.func47, Try.ntmps47
    go_wp2
    go_ret
    exact ⟨ret_bool (by have := HF.out; cases hf <;> simp at this ⊢; omega), hb0⟩
  by_cases hhi : 9 < k
  · go_enter Try.func47, Try.ntmps47
    go_wp2
    go_ret
    exact ⟨ret_bool (by have := HF.out; cases hf <;> simp at this ⊢; omega), hb0⟩
  have hc : (n2 = 0 ∧ n3 = 0) ∨ (0 < n2 ∧ k = 7 ∧ 0 < n3) ∨ (0 < n2 ∧ k = 7 ∧ n3 = 0) ∨ (0 < n2 ∧ k = 8 ∧ n3 = 0) ∨ (n2 = 0 ∧ 0 < n3 ∧ k = 7) ∨ (0 < n2 ∧ k = 8 ∧ 0 < n3) ∨ (0 < n2 ∧ k ≠ 7 ∧ k ≠ 8) ∨ (n2 = 0 ∧ 0 < n3 ∧ k ≠ 7) := by omega
  rcases hc with h | h | h | h | h | h | h | h
  case inr.inr.inr.inr.inr.inr.inr =>
    obtain ⟨rfl, h3, h7⟩ := h
    have h7' := bne_of h7
    go_enter Try.func47, Try.ntmps47
    go_wp2
    go_ret
    exact ⟨ret_bool (by have := HF.out; cases hf <;> simp at this ⊢; omega), hb0⟩
  case inr.inr.inr.inr.inr.inr.inl =>
    obtain ⟨h2, h7, h8⟩ := h
    have h7' := bne_of h7
    have h8' := bne_of h8
    go_enter Try.func47, Try.ntmps47
    go_wp2
    go_ret
    exact ⟨ret_bool (by have := HF.out; cases hf <;> simp at this ⊢; omega), hb0⟩
  case inr.inr.inr.inr.inr.inl =>
    obtain ⟨h2, rfl, h3⟩ := h
    go_enter Try.func47, Try.ntmps47
    go_wp2
    go_ret
    exact ⟨ret_bool (by have := HF.out; cases hf <;> simp at this ⊢; omega), hb0⟩
  case inl =>
    obtain ⟨rfl, rfl⟩ := h
    go_enter Try.func47, Try.ntmps47
    go_wp2_with fail
    refine (hcon.out _).mono ?_
    rintro e W1 ⟨rfl, hb1⟩
    have hb : Below w.heap.size w W1 := hb0.trans (hb1.mono (by simp))
    have hlt : w.heap.size < W1.heap.size := by have := hb1.size; simp at this; omega
    have hk := (Keep.new w _ _).below hb1
    have q0 := hk.cell 0
    have q1 := hk.cell 1
    have q2 := hk.cell 2
    simp at q0 q1 q2
    have u0 := cell_regrown q0
    have u1 := cell_regrown q1
    clear hb1 hb0 hk hlt
    cases he with
    | false =>
      by_cases h1 : 0 < n1
      · go_wp2
        go_ret
        exact ⟨ret_bool (by have := HF.out; have := HE.out; cases hf <;> simp at * <;> omega), hb⟩
      · by_cases hx : 0 ≤ x
        · have hd : decide (0 ≤ x) = true := by simpa using hx
          go_wp2
          refine wp_region_quiet_below (by kernel_rfl) (by kernel_rfl) ?_
          repeat (first | go_big_quiet_step ((go_at_call 59; exact Calls.regrown_of (manyNamed_any _ _ _))) | quiet_step (fail))
          refine wpQuiet_nil ?_
          intro _ hw'
          obtain ⟨⟨dq, osq⟩, hw''⟩ := hw'
          subst hw''
          go_wp2
          go_ret
          exact ⟨ret_bool (by have h1 := HF.out; have h2 := HE.out; rw [Bool.eq_iff_iff, h1]; simp at * <;> omega), hb.trans ((below_regrown W1 dq osq).mono hb.size)⟩
        · have hd : decide (0 ≤ x) = false := by simpa using hx
          go_wp2
          refine wp_region_quiet_below (by kernel_rfl) (by kernel_rfl) ?_
          repeat (first | go_big_quiet_step ((go_at_call 59; exact Calls.regrown_of (manyNamed_any _ _ _))) | quiet_step (fail))
          refine wpQuiet_nil ?_
          intro _ hw'
          obtain ⟨⟨dq, osq⟩, hw''⟩ := hw'
          subst hw''
          go_wp2
          go_ret
          exact ⟨ret_bool (by have h1 := HF.out; have h2 := HE.out; rw [Bool.eq_iff_iff, h1]; simp at * <;> omega), hb.trans ((below_regrown W1 dq osq).mono hb.size)⟩
    | true =>
      by_cases hx : 0 ≤ x
      · have hd : decide (0 ≤ x) = true := by simpa using hx
        go_wp2
        refine wp_region_quiet_below (by kernel_rfl) (by kernel_rfl) ?_
        repeat (first | go_big_quiet_step ((go_at_call 59; exact Calls.regrown_of (manyNamed_any _ _ _))) | quiet_step (fail))
        refine wpQuiet_nil ?_
        intro _ hw'
        obtain ⟨⟨dq, osq⟩, hw''⟩ := hw'
        subst hw''
        go_wp2
        go_ret
        exact ⟨ret_bool (by have h1 := HF.out; have h2 := HE.out; rw [Bool.eq_iff_iff, h1]; simp at * <;> omega), hb.trans ((below_regrown W1 dq osq).mono hb.size)⟩
      · have hd : decide (0 ≤ x) = false := by simpa using hx
        go_wp2
        refine wp_region_quiet_below (by kernel_rfl) (by kernel_rfl) ?_
        repeat (first | go_big_quiet_step ((go_at_call 59; exact Calls.regrown_of (manyNamed_any _ _ _))) | quiet_step (fail))
        refine wpQuiet_nil ?_
        intro _ hw'
        obtain ⟨⟨dq, osq⟩, hw''⟩ := hw'
        subst hw''
        go_wp2
        go_ret
        exact ⟨ret_bool (by have h1 := HF.out; have h2 := HE.out; rw [Bool.eq_iff_iff, h1]; simp at * <;> omega), hb.trans ((below_regrown W1 dq osq).mono hb.size)⟩
  case inr.inl =>
    obtain ⟨h2, rfl, h3⟩ := h
    go_enter Try.func47, Try.ntmps47
    go_wp2_with fail
    refine (hcon.out _).mono ?_
    rintro e W1 ⟨rfl, hb1⟩
    have hb : Below w.heap.size w W1 := hb0.trans (hb1.mono (by simp))
    have hlt : w.heap.size < W1.heap.size := by have := hb1.size; simp at this; omega
    have hk := (Keep.new w _ _).below hb1
    have q0 := hk.cell 0
    have q1 := hk.cell 1
    have q2 := hk.cell 2
    simp at q0 q1 q2
    have u0 := cell_regrown q0
    have u1 := cell_regrown q1
    clear hb1 hb0 hk hlt
    cases he with
    | false =>
      by_cases h1 : 0 < n1
      · go_wp2
        go_ret
        exact ⟨ret_bool (by have := HF.out; have := HE.out; cases hf <;> simp at * <;> omega), hb⟩
      · by_cases hx : 0 ≤ x
        · have hd : decide (0 ≤ x) = true := by simpa using hx
          go_wp2
          refine wp_region_quiet_below (by kernel_rfl) (by kernel_rfl) ?_
          repeat (first | go_big_quiet_step ((go_at_call 59; exact Calls.regrown_of (manyNamed_any _ _ _))) | quiet_step (fail))
          refine wpQuiet_nil ?_
          intro _ hw'
          obtain ⟨⟨dq, osq⟩, hw''⟩ := hw'
          subst hw''
          go_wp2
          go_ret
          exact ⟨ret_bool (by have h1 := HF.out; have h2 := HE.out; rw [Bool.eq_iff_iff, h1]; simp at * <;> omega), hb.trans ((below_regrown W1 dq osq).mono hb.size)⟩
        · have hd : decide (0 ≤ x) = false := by simpa using hx
          go_wp2
          refine wp_region_quiet_below (by kernel_rfl) (by kernel_rfl) ?_
          repeat (first | go_big_quiet_step ((go_at_call 59; exact Calls.regrown_of (manyNamed_any _ _ _))) | quiet_step (fail))
          refine wpQuiet_nil ?_
          intro _ hw'
          obtain ⟨⟨dq, osq⟩, hw''⟩ := hw'
          subst hw''
          go_wp2
          go_ret
          exact ⟨ret_bool (by have h1 := HF.out; have h2 := HE.out; rw [Bool.eq_iff_iff, h1]; simp at * <;> omega), hb.trans ((below_regrown W1 dq osq).mono hb.size)⟩
    | true =>
      by_cases hx : 0 ≤ x
      · have hd : decide (0 ≤ x) = true := by simpa using hx
        go_wp2
        refine wp_region_quiet_below (by kernel_rfl) (by kernel_rfl) ?_
        repeat (first | go_big_quiet_step ((go_at_call 59; exact Calls.regrown_of (manyNamed_any _ _ _))) | quiet_step (fail))
        refine wpQuiet_nil ?_
        intro _ hw'
        obtain ⟨⟨dq, osq⟩, hw''⟩ := hw'
        subst hw''
        go_wp2
        go_ret
        exact ⟨ret_bool (by have h1 := HF.out; have h2 := HE.out; rw [Bool.eq_iff_iff, h1]; simp at * <;> omega), hb.trans ((below_regrown W1 dq osq).mono hb.size)⟩
      · have hd : decide (0 ≤ x) = false := by simpa using hx
        go_wp2
        refine wp_region_quiet_below (by kernel_rfl) (by kernel_rfl) ?_
        repeat (first | go_big_quiet_step ((go_at_call 59; exact Calls.regrown_of (manyNamed_any _ _ _))) | quiet_step (fail))
        refine wpQuiet_nil ?_
        intro _ hw'
        obtain ⟨⟨dq, osq⟩, hw''⟩ := hw'
        subst hw''
        go_wp2
        go_ret
        exact ⟨ret_bool (by have h1 := HF.out; have h2 := HE.out; rw [Bool.eq_iff_iff, h1]; simp at * <;> omega), hb.trans ((below_regrown W1 dq osq).mono hb.size)⟩
  case inr.inr.inl =>
    obtain ⟨h2, rfl, rfl⟩ := h
    go_enter Try.func47, Try.ntmps47
    go_wp2_with fail
    refine (hcon.out _).mono ?_
    rintro e W1 ⟨rfl, hb1⟩
    have hb : Below w.heap.size w W1 := hb0.trans (hb1.mono (by simp))
    have hlt : w.heap.size < W1.heap.size := by have := hb1.size; simp at this; omega
    have hk := (Keep.new w _ _).below hb1
    have q0 := hk.cell 0
    have q1 := hk.cell 1
    have q2 := hk.cell 2
    simp at q0 q1 q2
    have u0 := cell_regrown q0
    have u1 := cell_regrown q1
    clear hb1 hb0 hk hlt
    cases he with
    | false =>
      by_cases h1 : 0 < n1
      · go_wp2
        go_ret
        exact ⟨ret_bool (by have := HF.out; have := HE.out; cases hf <;> simp at * <;> omega), hb⟩
      · by_cases hx : 0 ≤ x
        · have hd : decide (0 ≤ x) = true := by simpa using hx
          go_wp2
          refine wp_region_quiet_below (by kernel_rfl) (by kernel_rfl) ?_
          repeat (first | go_big_quiet_step ((go_at_call 59; exact Calls.regrown_of (manyNamed_any _ _ _))) | quiet_step (fail))
          refine wpQuiet_nil ?_
          intro _ hw'
          obtain ⟨⟨dq, osq⟩, hw''⟩ := hw'
          subst hw''
          go_wp2
          go_ret
          exact ⟨ret_bool (by have h1 := HF.out; have h2 := HE.out; rw [Bool.eq_iff_iff, h1]; simp at * <;> omega), hb.trans ((below_regrown W1 dq osq).mono hb.size)⟩
        · have hd : decide (0 ≤ x) = false := by simpa using hx
          go_wp2
          refine wp_region_quiet_below (by kernel_rfl) (by kernel_rfl) ?_
          repeat (first | go_big_quiet_step ((go_at_call 59; exact Calls.regrown_of (manyNamed_any _ _ _))) | quiet_step (fail))
          refine wpQuiet_nil ?_
          intro _ hw'
          obtain ⟨⟨dq, osq⟩, hw''⟩ := hw'
          subst hw''
          go_wp2
          go_ret
          exact ⟨ret_bool (by have h1 := HF.out; have h2 := HE.out; rw [Bool.eq_iff_iff, h1]; simp at * <;> omega), hb.trans ((below_regrown W1 dq osq).mono hb.size)⟩
    | true =>
      by_cases hx : 0 ≤ x
      · have hd : decide (0 ≤ x) = true := by simpa using hx
        go_wp2
        refine wp_region_quiet_below (by kernel_rfl) (by kernel_rfl) ?_
        repeat (first | go_big_quiet_step ((go_at_call 59; exact Calls.regrown_of (manyNamed_any _ _ _))) | quiet_step (fail))
        refine wpQuiet_nil ?_
        intro _ hw'
        obtain ⟨⟨dq, osq⟩, hw''⟩ := hw'
        subst hw''
        go_wp2
        go_ret
        exact ⟨ret_bool (by have h1 := HF.out; have h2 := HE.out; rw [Bool.eq_iff_iff, h1]; simp at * <;> omega), hb.trans ((below_regrown W1 dq osq).mono hb.size)⟩
      · have hd : decide (0 ≤ x) = false := by simpa using hx
        go_wp2
        refine wp_region_quiet_below (by kernel_rfl) (by kernel_rfl) ?_
        repeat (first | go_big_quiet_step ((go_at_call 59; exact Calls.regrown_of (manyNamed_any _ _ _))) | quiet_step (fail))
        refine wpQuiet_nil ?_
        intro _ hw'
        obtain ⟨⟨dq, osq⟩, hw''⟩ := hw'
        subst hw''
        go_wp2
        go_ret
        exact ⟨ret_bool (by have h1 := HF.out; have h2 := HE.out; rw [Bool.eq_iff_iff, h1]; simp at * <;> omega), hb.trans ((below_regrown W1 dq osq).mono hb.size)⟩
  case inr.inr.inr.inl =>
    obtain ⟨h2, rfl, rfl⟩ := h
    go_enter Try.func47, Try.ntmps47
    go_wp2_with fail
    refine (hcon.out _).mono ?_
    rintro e W1 ⟨rfl, hb1⟩
    have hb : Below w.heap.size w W1 := hb0.trans (hb1.mono (by simp))
    have hlt : w.heap.size < W1.heap.size := by have := hb1.size; simp at this; omega
    have hk := (Keep.new w _ _).below hb1
    have q0 := hk.cell 0
    have q1 := hk.cell 1
    have q2 := hk.cell 2
    simp at q0 q1 q2
    have u0 := cell_regrown q0
    have u1 := cell_regrown q1
    clear hb1 hb0 hk hlt
    cases he with
    | false =>
      by_cases h1 : 0 < n1
      · go_wp2
        go_ret
        exact ⟨ret_bool (by have := HF.out; have := HE.out; cases hf <;> simp at * <;> omega), hb⟩
      · by_cases hx : 0 ≤ x
        · have hd : decide (0 ≤ x) = true := by simpa using hx
          go_wp2
          refine wp_region_quiet_below (by kernel_rfl) (by kernel_rfl) ?_
          repeat (first | go_big_quiet_step ((go_at_call 59; exact Calls.regrown_of (manyNamed_any _ _ _))) | quiet_step (fail))
          refine wpQuiet_nil ?_
          intro _ hw'
          obtain ⟨⟨dq, osq⟩, hw''⟩ := hw'
          subst hw''
          go_wp2
          go_ret
          exact ⟨ret_bool (by have h1 := HF.out; have h2 := HE.out; rw [Bool.eq_iff_iff, h1]; simp at * <;> omega), hb.trans ((below_regrown W1 dq osq).mono hb.size)⟩
        · have hd : decide (0 ≤ x) = false := by simpa using hx
          go_wp2
          refine wp_region_quiet_below (by kernel_rfl) (by kernel_rfl) ?_
          repeat (first | go_big_quiet_step ((go_at_call 59; exact Calls.regrown_of (manyNamed_any _ _ _))) | quiet_step (fail))
          refine wpQuiet_nil ?_
          intro _ hw'
          obtain ⟨⟨dq, osq⟩, hw''⟩ := hw'
          subst hw''
          go_wp2
          go_ret
          exact ⟨ret_bool (by have h1 := HF.out; have h2 := HE.out; rw [Bool.eq_iff_iff, h1]; simp at * <;> omega), hb.trans ((below_regrown W1 dq osq).mono hb.size)⟩
    | true =>
      by_cases hx : 0 ≤ x
      · have hd : decide (0 ≤ x) = true := by simpa using hx
        go_wp2
        refine wp_region_quiet_below (by kernel_rfl) (by kernel_rfl) ?_
        repeat (first | go_big_quiet_step ((go_at_call 59; exact Calls.regrown_of (manyNamed_any _ _ _))) | quiet_step (fail))
        refine wpQuiet_nil ?_
        intro _ hw'
        obtain ⟨⟨dq, osq⟩, hw''⟩ := hw'
        subst hw''
        go_wp2
        go_ret
        exact ⟨ret_bool (by have h1 := HF.out; have h2 := HE.out; rw [Bool.eq_iff_iff, h1]; simp at * <;> omega), hb.trans ((below_regrown W1 dq osq).mono hb.size)⟩
      · have hd : decide (0 ≤ x) = false := by simpa using hx
        go_wp2
        refine wp_region_quiet_below (by kernel_rfl) (by kernel_rfl) ?_
        repeat (first | go_big_quiet_step ((go_at_call 59; exact Calls.regrown_of (manyNamed_any _ _ _))) | quiet_step (fail))
        refine wpQuiet_nil ?_
        intro _ hw'
        obtain ⟨⟨dq, osq⟩, hw''⟩ := hw'
        subst hw''
        go_wp2
        go_ret
        exact ⟨ret_bool (by have h1 := HF.out; have h2 := HE.out; rw [Bool.eq_iff_iff, h1]; simp at * <;> omega), hb.trans ((below_regrown W1 dq osq).mono hb.size)⟩
  case inr.inr.inr.inr.inl =>
    obtain ⟨rfl, h3, rfl⟩ := h
    go_enter Try.func47, Try.ntmps47
    go_wp2_with fail
    refine (hcon.out _).mono ?_
    rintro e W1 ⟨rfl, hb1⟩
    have hb : Below w.heap.size w W1 := hb0.trans (hb1.mono (by simp))
    have hlt : w.heap.size < W1.heap.size := by have := hb1.size; simp at this; omega
    have hk := (Keep.new w _ _).below hb1
    have q0 := hk.cell 0
    have q1 := hk.cell 1
    have q2 := hk.cell 2
    simp at q0 q1 q2
    have u0 := cell_regrown q0
    have u1 := cell_regrown q1
    clear hb1 hb0 hk hlt
    cases he with
    | false =>
      by_cases h1 : 0 < n1
      · go_wp2
        go_ret
        exact ⟨ret_bool (by have := HF.out; have := HE.out; cases hf <;> simp at * <;> omega), hb⟩
      · by_cases hx : 0 ≤ x
        · have hd : decide (0 ≤ x) = true := by simpa using hx
          go_wp2
          refine wp_region_quiet_below (by kernel_rfl) (by kernel_rfl) ?_
          repeat (first | go_big_quiet_step ((go_at_call 59; exact Calls.regrown_of (manyNamed_any _ _ _))) | quiet_step (fail))
          refine wpQuiet_nil ?_
          intro _ hw'
          obtain ⟨⟨dq, osq⟩, hw''⟩ := hw'
          subst hw''
          go_wp2
          go_ret
          exact ⟨ret_bool (by have h1 := HF.out; have h2 := HE.out; rw [Bool.eq_iff_iff, h1]; simp at * <;> omega), hb.trans ((below_regrown W1 dq osq).mono hb.size)⟩
        · have hd : decide (0 ≤ x) = false := by simpa using hx
          go_wp2
          refine wp_region_quiet_below (by kernel_rfl) (by kernel_rfl) ?_
          repeat (first | go_big_quiet_step ((go_at_call 59; exact Calls.regrown_of (manyNamed_any _ _ _))) | quiet_step (fail))
          refine wpQuiet_nil ?_
          intro _ hw'
          obtain ⟨⟨dq, osq⟩, hw''⟩ := hw'
          subst hw''
          go_wp2
          go_ret
          exact ⟨ret_bool (by have h1 := HF.out; have h2 := HE.out; rw [Bool.eq_iff_iff, h1]; simp at * <;> omega), hb.trans ((below_regrown W1 dq osq).mono hb.size)⟩
    | true =>
      by_cases hx : 0 ≤ x
      · have hd : decide (0 ≤ x) = true := by simpa using hx
        go_wp2
        refine wp_region_quiet_below (by kernel_rfl) (by kernel_rfl) ?_
        repeat (first | go_big_quiet_step ((go_at_call 59; exact Calls.regrown_of (manyNamed_any _ _ _))) | quiet_step (fail))
        refine wpQuiet_nil ?_
        intro _ hw'
        obtain ⟨⟨dq, osq⟩, hw''⟩ := hw'
        subst hw''
        go_wp2
        go_ret
        exact ⟨ret_bool (by have h1 := HF.out; have h2 := HE.out; rw [Bool.eq_iff_iff, h1]; simp at * <;> omega), hb.trans ((below_regrown W1 dq osq).mono hb.size)⟩
      · have hd : decide (0 ≤ x) = false := by simpa using hx
        go_wp2
        refine wp_region_quiet_below (by kernel_rfl) (by kernel_rfl) ?_
        repeat (first | go_big_quiet_step ((go_at_call 59; exact Calls.regrown_of (manyNamed_any _ _ _))) | quiet_step (fail))
        refine wpQuiet_nil ?_
        intro _ hw'
        obtain ⟨⟨dq, osq⟩, hw''⟩ := hw'
        subst hw''
        go_wp2
        go_ret
        exact ⟨ret_bool (by have h1 := HF.out; have h2 := HE.out; rw [Bool.eq_iff_iff, h1]; simp at * <;> omega), hb.trans ((below_regrown W1 dq osq).mono hb.size)⟩

theorem goodFields_any (s : St) (A1 : Option Addr) (n1 c1 : Nat) (A2 : Option Addr) (n2 c2 : Nat) (A3 : Option Addr) (n3 c3 : Nat) (vars : Int) (w : World) (e1 : s.ex.length = n1) (e2 : s.th.length = n2) (e3 : s.el.length = n3) :
    Calls Try.prog 47 #[stV s A1 n1 c1 A2 n2 c2 A3 n3 c3, .int .i64 vars] w fun e w' => e = .returned (.bool (fieldsB s vars)) ∧ Below w.heap.size w w' := by
  have HF := fieldsB_iff s vars
  rw [e1, e2, e3] at HF
  exact goodFields_raw s.kind s.n vars A1 n1 c1 A2 n2 c2 A3 n3 c3 w (hasEx s) (fieldsB s vars) (hasEx_iff s) HF (fun W => hasExpr_any s A1 n1 c1 A2 n2 c2 A3 n3 c3 W)

end Go.Proofs.Ytaogdaoiijmmhaa

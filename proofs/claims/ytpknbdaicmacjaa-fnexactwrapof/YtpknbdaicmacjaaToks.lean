/-
  Contracts of the small functions on numbers and tokens, of the program and of the reference.
-/
import Derived.Test.YtpknbdaicmacjaaProg
import Derived.Test.YtpknbdaicmacjaaMem
import Derived.Test.YtpknbdaicmacjaaExprPile
namespace Go.Proofs.Ytpknbdaicmacjaa
open Go.RowKit Exs

theorem ret_bool {a b : Bool} (h : a = b) : Ending.returned (.bool a) = .returned (.bool b) := by rw [h]
theorem wrap64_wrap32 (n : Int) : wrap64 (wrap32 n) = wrap32 n := by
  have := wrap32_range n
  unfold wrap64; omega

set_option maxHeartbeats 400000 in
theorem l2Wrap_any (n : Int) (w : World) : Calls Try.prog 27 #[.int .i64 n] w fun e w' => e = .returned (.int .i64 (wrap32 n)) ∧ w = w' := by
  go_enter Try.func27, Try.ntmps27
  go_wp2
  go_ret
  exact ⟨ret_int (wrap64_wrap32 n), rfl⟩

set_option maxHeartbeats 400000 in
theorem wrapOf_any (n : Int) (w : World) : Calls Try.prog 10 #[.int .i64 n] w fun e w' => e = .returned (.int .i64 (wrap32 n)) ∧ w = w' := by
  go_enter Try.func10, Try.ntmps10
  go_wp2
  go_ret
  exact ⟨ret_int (wrap64_wrap32 n), rfl⟩

set_option maxHeartbeats 400000 in
theorem specWrapOf_any (n : Int) (w : World) : Calls Try.prog 9 #[.int .i64 n] w fun e w' => e = .returned (.int .i64 (wrap32 n)) ∧ w = w' := by
  go_enter Try.func9, Try.ntmps9
  go_wp2_with fail
  refine (l2Wrap_any n _).mono ?_
  rintro e w1 ⟨rfl, rfl⟩
  go_wp2
  go_ret
  exact ⟨rfl, rfl⟩

/-- Whether a number is within bounds. -/
def within (n lo hi : Int) : Bool := decide (lo ≤ n ∧ n ≤ hi)
/-- Whether a number is one of 32 bits. -/
def bound (n : Int) : Bool := within n (-2147483648) 2147483647

theorem bound_iff (n : Int) : bound n = true ↔ -2147483648 ≤ n ∧ n ≤ 2147483647 := by simp [bound, within]
theorem bound_wrap (n : Int) : (wrap32 n == n) = bound n := by
  rw [Bool.eq_iff_iff, bound_iff, beq_iff_eq]
  unfold wrap32; omega

set_option maxHeartbeats 400000 in
theorem l1In_any (n lo hi : Int) (w : World) : Calls Try.prog 34 #[.int .i64 n, .int .i64 lo, .int .i64 hi] w fun e w' => e = .returned (.bool (within n lo hi)) ∧ w = w' := by
  go_enter Try.func34, Try.ntmps34
  go_wp2
  all_goals go_ret
  all_goals exact ⟨ret_bool (by rw [Bool.eq_iff_iff]; simp [within]; omega), rfl⟩

set_option maxHeartbeats 400000 in
theorem l2Bound_any (n : Int) (w : World) : Calls Try.prog 38 #[.int .i64 n] w fun e w' => e = .returned (.bool (bound n)) ∧ w = w' := by
  go_enter Try.func38, Try.ntmps38
  go_wp2_with fail
  refine (l1In_any n _ _ _).mono ?_
  rintro e w1 ⟨rfl, rfl⟩
  go_wp2
  go_ret
  exact ⟨rfl, rfl⟩

set_option maxHeartbeats 400000 in
theorem inBounds_any (n : Int) (w : World) : Calls Try.prog 40 #[.int .i64 n] w fun e w' => e = .returned (.bool (bound n)) ∧ w = w' := by
  go_enter Try.func40, Try.ntmps40
  go_wp2_with fail
  refine (wrapOf_any n _).mono ?_
  rintro e w1 ⟨rfl, rfl⟩
  go_wp2
  go_ret
  exact ⟨ret_bool (bound_wrap n), rfl⟩

set_option maxHeartbeats 400000 in
theorem isReckoning_any (op : Int) (w : World) : Calls Try.prog 33 #[.int .i64 op] w fun e w' => e = .returned (.bool (within op 3 8)) ∧ w = w' := by
  go_enter Try.func33, Try.ntmps33
  go_wp2
  all_goals go_ret
  all_goals exact ⟨ret_bool (by rw [Bool.eq_iff_iff]; simp [within]; omega), rfl⟩

/-- Whether a token has the form of one. -/
def tokB (op n : Int) : Bool := decide (goodTok (op, n))

theorem tokB_iff (op n : Int) : tokB op n = true ↔ (op = 1 ∧ -2147483648 ≤ n ∧ n ≤ 2147483647) ∨ ((op = 2 ∨ op = 11) ∧ 0 ≤ n ∧ n ≤ 99) ∨ (3 ≤ op ∧ op ≤ 10 ∧ n = 0) := by
  unfold tokB; rw [decide_eq_true_eq]; rfl
theorem within_iff (n lo hi : Int) : within n lo hi = true ↔ lo ≤ n ∧ n ≤ hi := by simp [within]

set_option maxHeartbeats 400000 in
theorem goodToken_any (op n : Int) (w : World) : Calls Try.prog 31 #[.agg #[.int .i64 op, .int .i64 n]] w fun e w' => e = .returned (.bool (tokB op n)) ∧ Below w.heap.size w w' := by
  go_enter Try.func31, Try.ntmps31
  go_wp2_with (go_at_call 40; refine (inBounds_any _ _).mono ?_; rintro e w' ⟨rfl, rfl⟩)
  all_goals go_ret
  all_goals refine ⟨ret_bool ?_, (Below.refl _ _).alloc (Nat.le_refl _) _⟩
  all_goals simp only [beq_iff_eq, beq_eq_false_iff_ne] at *
  all_goals rw [Bool.eq_iff_iff, tokB_iff]
  all_goals simp only [bound_iff, decide_eq_true_eq, Bool.false_eq_true, false_iff, beq_iff_eq]
  all_goals omega

set_option maxHeartbeats 400000 in
theorem l2Token_any (op n : Int) (w : World) : Calls Try.prog 47 #[.agg #[.int .i64 op, .int .i64 n]] w fun e w' => e = .returned (.bool (tokB op n)) ∧ Below w.heap.size w w' := by
  go_enter Try.func47, Try.ntmps47
  go_wp2_with (first | (go_at_call 38; refine (l2Bound_any _ _).mono ?_; rintro e w' ⟨rfl, rfl⟩) | (go_at_call 34; refine (l1In_any _ _ _ _).mono ?_; rintro e w' ⟨rfl, rfl⟩))
  all_goals go_ret
  all_goals refine ⟨ret_bool ?_, (Below.refl _ _).alloc (Nat.le_refl _) _⟩
  all_goals simp only [beq_iff_eq, beq_eq_false_iff_ne] at *
  all_goals rw [Bool.eq_iff_iff, tokB_iff]
  all_goals simp only [bound_iff, within_iff, Bool.false_eq_true, false_iff, beq_iff_eq] at *
  all_goals omega

/-- One where it is so. -/
def one (b : Bool) : Int := if b then 1 else 0

set_option maxHeartbeats 400000 in
theorem oneIf_any (b : Bool) (w : World) : Calls Try.prog 49 #[.bool b] w fun e w' => e = .returned (.int .i64 (one b)) ∧ w = w' := by
  cases b
  · go_enter Try.func49, Try.ntmps49
    go_wp2
    go_ret
    exact ⟨rfl, rfl⟩
  · go_enter Try.func49, Try.ntmps49
    go_wp2
    go_ret
    exact ⟨rfl, rfl⟩

/-- What is reckoned, ahead of any wrap. -/
def plainRk (op x y : Int) : Int := if op = 3 then x + y else if op = 4 then x - y else if op = 5 then x * y else if op = 6 then x.tdiv y else if op = 7 then one (decide (x < y)) else one (x == y)

theorem mul_bound {x y : Int} (hx : -2147483648 ≤ x ∧ x ≤ 2147483647) (hy : -2147483648 ≤ y ∧ y ≤ 2147483647) : -4611686018427387904 ≤ x * y ∧ x * y ≤ 4611686018427387904 := by
  have h := Int.natAbs_mul x y
  have h1 : x.natAbs ≤ 2147483648 := by omega
  have h2 : y.natAbs ≤ 2147483648 := by omega
  have h3 : x.natAbs * y.natAbs ≤ 2147483648 * 2147483648 := Nat.mul_le_mul h1 h2
  rw [← h] at h3
  omega
theorem tdiv_bound {x y : Int} (hx : -2147483648 ≤ x ∧ x ≤ 2147483647) : -2147483648 ≤ x.tdiv y ∧ x.tdiv y ≤ 2147483648 := by
  have h := Int.natAbs_tdiv x y
  have h1 : x.natAbs.div y.natAbs ≤ x.natAbs := Nat.div_le_self _ _
  rw [← h] at h1
  omega

set_option maxHeartbeats 400000 in
theorem reckoned_any (op x y : Int) (w : World) (hop : 3 ≤ op ∧ op ≤ 8) (hx : -2147483648 ≤ x ∧ x ≤ 2147483647) (hy : -2147483648 ≤ y ∧ y ≤ 2147483647) (h0 : op = 6 → y ≠ 0) :
    Calls Try.prog 41 #[.int .i64 op, .int .i64 x, .int .i64 y] w fun e w' => e = .returned (.int .i64 (plainRk op x y)) ∧ w = w' := by
  have hm := mul_bound hx hy
  have hd := tdiv_bound (y := y) hx
  have hc : op = 3 ∨ op = 4 ∨ op = 5 ∨ op = 6 ∨ op = 7 ∨ op = 8 := by omega
  clear hop
  rcases hc with rfl | rfl | rfl | rfl | rfl | rfl
  all_goals simp only [forall_const, Int.reduceEq, false_implies, ne_eq] at h0
  all_goals
    go_enter Try.func41, Try.ntmps41
    go_wp2_with (go_at_call 49; refine (oneIf_any _ _).mono ?_; rintro e w' ⟨rfl, rfl⟩)
    go_ret
    exact ⟨ret_int (by simp [plainRk]), rfl⟩

/-- What an op puts of two numbers within bounds, and whether it is told. -/
def rk (op x y : Int) : Int × Bool := if op = 6 ∧ y = 0 then (0, false) else (wrap32 (plainRk op x y), true)
/-- What Reckon answers. -/
def rkAns (op x y : Int) : Int × Bool × Bool := if within op 3 8 && bound x && bound y then ((rk op x y).1, (rk op x y).2, true) else (0, false, false)

theorem rk_div {x : Int} : rk 6 x 0 = (0, false) := rfl
theorem rk_other {op x y : Int} (h : op = 6 → y ≠ 0) : rk op x y = (wrap32 (plainRk op x y), true) := by
  unfold rk
  rw [if_neg (fun h1 => h h1.1 h1.2)]

theorem ret3 {a a' : Int} {b b' c c' : Bool} (h : (a, b, c) = (a', b', c')) : Ending.returned (.tuple #[.int .i64 a, .bool b, .bool c]) = .returned (.tuple #[.int .i64 a', .bool b', .bool c']) := by cases h; rfl
theorem ret2 {a a' : Int} {b b' : Bool} (h : (a, b) = (a', b')) : Ending.returned (.tuple #[.int .i64 a, .bool b]) = .returned (.tuple #[.int .i64 a', .bool b']) := by cases h; rfl

set_option maxHeartbeats 1000000 in
theorem l2Reckon_any (op x y : Int) (w : World) (hop : 3 ≤ op ∧ op ≤ 8) (hx : -2147483648 ≤ x ∧ x ≤ 2147483647) (hy : -2147483648 ≤ y ∧ y ≤ 2147483647) :
    Calls Try.prog 39 #[.int .i64 op, .int .i64 x, .int .i64 y] w fun e w' => e = .returned (.tuple #[.int .i64 (rk op x y).1, .bool (rk op x y).2]) ∧ w = w' := by
  have hm := mul_bound hx hy
  have hd := tdiv_bound (y := y) hx
  have hc : op = 3 ∨ op = 4 ∨ op = 5 ∨ (op = 6 ∧ y = 0) ∨ (op = 6 ∧ y ≠ 0) ∨ (op = 7 ∧ x < y) ∨ (op = 7 ∧ ¬ x < y) ∨ (op = 8 ∧ x = y) ∨ (op = 8 ∧ x ≠ y) := by omega
  clear hop
  rcases hc with rfl | rfl | rfl | ⟨rfl, rfl⟩ | ⟨rfl, hz⟩ | ⟨rfl, hz⟩ | ⟨rfl, hz⟩ | ⟨rfl, rfl⟩ | ⟨rfl, hz⟩
  all_goals
    try have hz' := beq_eq_false_iff_ne.2 hz
    go_enter Try.func39, Try.ntmps39
    go_wp2_with (go_at_call 27; refine (l2Wrap_any _ _).mono ?_; rintro e w' ⟨rfl, rfl⟩)
    go_ret2
    exact ⟨ret2 (by first | (simp [rk, plainRk, one, wrap32_in, *]; done) | (have h5 := Int.not_lt.2 hz; simp [rk, plainRk, one, wrap32_in, h5])), rfl⟩

set_option maxHeartbeats 1000000 in
theorem reckon_any (op x y : Int) (w : World) :
    Calls Try.prog 24 #[.int .i64 op, .int .i64 x, .int .i64 y] w fun e w' => e = .returned (.tuple #[.int .i64 (rkAns op x y).1, .bool (rkAns op x y).2.1, .bool (rkAns op x y).2.2]) ∧ w = w' := by
  have hc : (within op 3 8 = true ∧ bound x = true ∧ bound y = true) ∨ within op 3 8 = false ∨ (within op 3 8 = true ∧ bound x = false) ∨ (within op 3 8 = true ∧ bound x = true ∧ bound y = false) := by
    cases within op 3 8 <;> cases bound x <;> cases bound y <;> simp
  rcases hc with ⟨h2, h3, h4⟩ | h2 | ⟨h2, h3⟩ | ⟨h2, h3, h4⟩
  · have hk := put (show rkAns op x y = ((rk op x y).1, (rk op x y).2, true) by simp [rkAns, h2, h3, h4])
    have h2' := (within_iff _ _ _).1 h2
    have h3' := (bound_iff _).1 h3
    have h4' := (bound_iff _).1 h4
    have hc : op = 3 ∨ op = 4 ∨ op = 5 ∨ (op = 6 ∧ y = 0) ∨ (op = 6 ∧ y ≠ 0) ∨ op = 7 ∨ op = 8 := by omega
    clear h2'
    rcases hc with rfl | rfl | rfl | ⟨rfl, rfl⟩ | ⟨rfl, hz⟩ | rfl | rfl
    all_goals
      try have hz' := beq_eq_false_iff_ne.2 hz
      go_enter Try.func24, Try.ntmps24
      go_wp2_with (first | (go_at_call 33; refine (isReckoning_any _ _).mono ?_; rintro e w' ⟨rfl, rfl⟩) | (go_at_call 40; refine (inBounds_any _ _).mono ?_; rintro e w' ⟨rfl, rfl⟩) | (go_at_call 41; refine (reckoned_any _ _ _ _ (by decide) h3' h4' (by first | (intro h; exact absurd h (by decide)) | (intro _; assumption))).mono ?_; rintro e w' ⟨rfl, rfl⟩) | (go_at_call 10; refine (wrapOf_any _ _).mono ?_; rintro e w' ⟨rfl, rfl⟩))
      go_ret3
      exact ⟨ret3 (by rw [hk.out]; simp [rk, *]), rfl⟩
  all_goals
    have hk := put (show rkAns op x y = (0, false, false) by simp [rkAns, *])
    go_enter Try.func24, Try.ntmps24
    go_wp2_with (first | (go_at_call 33; refine (isReckoning_any _ _).mono ?_; rintro e w' ⟨rfl, rfl⟩) | (go_at_call 40; refine (inBounds_any _ _).mono ?_; rintro e w' ⟨rfl, rfl⟩))
    go_ret3
    exact ⟨ret3 (by rw [hk.out]), rfl⟩

set_option maxHeartbeats 1000000 in
theorem specReckon_any (op x y : Int) (w : World) :
    Calls Try.prog 23 #[.int .i64 op, .int .i64 x, .int .i64 y] w fun e w' => e = .returned (.tuple #[.int .i64 (rkAns op x y).1, .bool (rkAns op x y).2.1, .bool (rkAns op x y).2.2]) ∧ w = w' := by
  have hc : (within op 3 8 = true ∧ bound x = true ∧ bound y = true) ∨ within op 3 8 = false ∨ (within op 3 8 = true ∧ bound x = false) ∨ (within op 3 8 = true ∧ bound x = true ∧ bound y = false) := by
    cases within op 3 8 <;> cases bound x <;> cases bound y <;> simp
  rcases hc with ⟨h2, h3, h4⟩ | h2 | ⟨h2, h3⟩ | ⟨h2, h3, h4⟩
  · have hk := put (show rkAns op x y = ((rk op x y).1, (rk op x y).2, true) by simp [rkAns, h2, h3, h4])
    have h2' := (within_iff _ _ _).1 h2
    have h3' := (bound_iff _).1 h3
    have h4' := (bound_iff _).1 h4
    go_enter Try.func23, Try.ntmps23
    go_wp2_with (first | (go_at_call 34; refine (l1In_any _ _ _ _).mono ?_; rintro e w' ⟨rfl, rfl⟩) | (go_at_call 38; refine (l2Bound_any _ _).mono ?_; rintro e w' ⟨rfl, rfl⟩) | (go_at_call 39; refine (l2Reckon_any _ _ _ _ h2' h3' h4').mono ?_; rintro e w' ⟨rfl, rfl⟩))
    go_ret3
    exact ⟨ret3 (by rw [hk.out]), rfl⟩
  all_goals
    have hk := put (show rkAns op x y = (0, false, false) by simp [rkAns, *])
    go_enter Try.func23, Try.ntmps23
    go_wp2_with (first | (go_at_call 34; refine (l1In_any _ _ _ _).mono ?_; rintro e w' ⟨rfl, rfl⟩) | (go_at_call 38; refine (l2Bound_any _ _).mono ?_; rintro e w' ⟨rfl, rfl⟩))
    go_ret3
    exact ⟨ret3 (by rw [hk.out]), rfl⟩

end Go.Proofs.Ytpknbdaicmacjaa

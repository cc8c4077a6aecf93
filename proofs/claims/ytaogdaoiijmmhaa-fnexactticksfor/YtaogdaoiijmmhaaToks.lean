/-
  Contracts of the small functions on numbers and tokens, of the program and of the reference.
-/
import Derived.Test.YtaogdaoiijmmhaaProg
import Derived.Test.YtaogdaoiijmmhaaMem
import Derived.Test.YtaogdaoiijmmhaaExprPile
namespace Go.Proofs.Ytaogdaoiijmmhaa
open Go.RowKit Exs

theorem ret_bool {a b : Bool} (h : a = b) : Ending.returned (.bool a) = .returned (.bool b) := by rw [h]
theorem wrap64_wrap32 (n : Int) : wrap64 (wrap32 n) = wrap32 n := by
  have := wrap32_range n
  unfold wrap64; omega

set_option maxHeartbeats 400000 in
theorem wrapOf_any (n : Int) (w : World) : Calls Try.prog 77 #[.int .i64 n] w fun e w' => e = .returned (.int .i64 (wrap32 n)) ∧ w = w' := by
  go_enter Try.func77, Try.ntmps77
  go_wp2
  go_ret
  exact ⟨ret_int (wrap64_wrap32 n), rfl⟩

/-- Whether a number is within bounds. -/
def within (n lo hi : Int) : Bool := decide (lo ≤ n ∧ n ≤ hi)
/-- Whether a number is one of 32 bits. -/
def bound (n : Int) : Bool := within n (-2147483648) 2147483647

theorem bound_iff (n : Int) : bound n = true ↔ -2147483648 ≤ n ∧ n ≤ 2147483647 := by simp [bound, within]
theorem bound_wrap (n : Int) : (wrap32 n == n) = bound n := by
  rw [Bool.eq_iff_iff, bound_iff, beq_iff_eq]
  unfold wrap32; omega

set_option maxHeartbeats 400000 in
theorem l1In_any (n lo hi : Int) (w : World) : Calls Try.prog 20 #[.int .i64 n, .int .i64 lo, .int .i64 hi] w fun e w' => e = .returned (.bool (within n lo hi)) ∧ w = w' := by
  go_enter Try.func20, Try.ntmps20
  go_wp2
  all_goals go_ret
  all_goals exact ⟨ret_bool (by rw [Bool.eq_iff_iff]; simp [within]; omega), rfl⟩

set_option maxHeartbeats 400000 in
theorem l2Bound_any (n : Int) (w : World) : Calls Try.prog 76 #[.int .i64 n] w fun e w' => e = .returned (.bool (bound n)) ∧ w = w' := by
  go_enter Try.func76, Try.ntmps76
  go_wp2_with fail
  refine (l1In_any n _ _ _).mono ?_
  rintro e w1 ⟨rfl, rfl⟩
  go_wp2
  go_ret
  exact ⟨rfl, rfl⟩

set_option maxHeartbeats 400000 in
theorem inBounds_any (n : Int) (w : World) : Calls Try.prog 75 #[.int .i64 n] w fun e w' => e = .returned (.bool (bound n)) ∧ w = w' := by
  go_enter Try.func75, Try.ntmps75
  go_wp2_with fail
  refine (wrapOf_any n _).mono ?_
  rintro e w1 ⟨rfl, rfl⟩
  go_wp2
  go_ret
  exact ⟨ret_bool (bound_wrap n), rfl⟩

set_option maxHeartbeats 400000 in
theorem isReckoning_any (op : Int) (w : World) : Calls Try.prog 72 #[.int .i64 op] w fun e w' => e = .returned (.bool (within op 3 8)) ∧ w = w' := by
  go_enter Try.func72, Try.ntmps72
  go_wp2
  all_goals go_ret
  all_goals exact ⟨ret_bool (by rw [Bool.eq_iff_iff]; simp [within]; omega), rfl⟩

/-- Whether a token has the form of one. -/
def tokB (op n : Int) : Bool := decide (goodTok (op, n))

theorem tokB_iff (op n : Int) : tokB op n = true ↔ (op = 1 ∧ -2147483648 ≤ n ∧ n ≤ 2147483647) ∨ ((op = 2 ∨ op = 11) ∧ 0 ≤ n ∧ n ≤ 99) ∨ (3 ≤ op ∧ op ≤ 10 ∧ n = 0) := by
  unfold tokB; rw [decide_eq_true_eq]; rfl
theorem within_iff (n lo hi : Int) : within n lo hi = true ↔ lo ≤ n ∧ n ≤ hi := by simp [within]

set_option maxHeartbeats 400000 in
theorem goodToken_any (op n : Int) (w : World) : Calls Try.prog 70 #[.agg #[.int .i64 op, .int .i64 n]] w fun e w' => e = .returned (.bool (tokB op n)) ∧ Below w.heap.size w w' := by
  go_enter Try.func70, Try.ntmps70
  go_wp2_with (go_at_call 75; refine (inBounds_any _ _).mono ?_; rintro e w' ⟨rfl, rfl⟩)
  all_goals go_ret
  all_goals refine ⟨ret_bool ?_, (Below.refl _ _).alloc (Nat.le_refl _) _⟩
  all_goals simp only [beq_iff_eq, beq_eq_false_iff_ne] at *
  all_goals rw [Bool.eq_iff_iff, tokB_iff]
  all_goals simp only [bound_iff, decide_eq_true_eq, Bool.false_eq_true, false_iff, beq_iff_eq]
  all_goals omega

set_option maxHeartbeats 400000 in
theorem l2Token_any (op n : Int) (w : World) : Calls Try.prog 74 #[.agg #[.int .i64 op, .int .i64 n]] w fun e w' => e = .returned (.bool (tokB op n)) ∧ Below w.heap.size w w' := by
  go_enter Try.func74, Try.ntmps74
  go_wp2_with (first | (go_at_call 76; refine (l2Bound_any _ _).mono ?_; rintro e w' ⟨rfl, rfl⟩) | (go_at_call 20; refine (l1In_any _ _ _ _).mono ?_; rintro e w' ⟨rfl, rfl⟩))
  all_goals go_ret
  all_goals refine ⟨ret_bool ?_, (Below.refl _ _).alloc (Nat.le_refl _) _⟩
  all_goals simp only [beq_iff_eq, beq_eq_false_iff_ne] at *
  all_goals rw [Bool.eq_iff_iff, tokB_iff]
  all_goals simp only [bound_iff, within_iff, Bool.false_eq_true, false_iff, beq_iff_eq] at *
  all_goals omega

/-- One where it is so. -/
def one (b : Bool) : Int := if b then 1 else 0

/-- What is reckoned, ahead of any wrap. -/
def plainRk (op x y : Int) : Int := if op = 3 then x + y else if op = 4 then x - y else if op = 5 then x * y else if op = 6 then x.tdiv y else if op = 7 then one (decide (x < y)) else one (x == y)

theorem mul_bound {x y : Int} (hx : -2147483648 ≤ x ∧ x ≤ 2147483647) (hy : -2147483648 ≤ y ∧ y ≤ 2147483647) : -4611686018427387904 ≤ x * y ∧ x * y ≤ 4611686018427387904 := by
  have h := Int.natAbs_mul x y
  have h1 : x.natAbs ≤ 2147483648 := by omega
  have h2 : y.natAbs ≤ 2147483648 := by omega
  have h3 : x.natAbs * y.natAbs ≤ 2147483648 * 2147483648 := Nat.mul_le_mul h1 h2
  rw [← h] at h3
  omega
theorem tdiv_bound {x y : Int} (hx : -2147483648 ≤ x ∧ x ≤ 2147483647) : -2147483648 ≤ x.tdiv y ∧ x.tdiv y ≤ 2147483648 := by
  have h := Int.natAbs_tdiv x y
  have h1 : x.natAbs.div y.natAbs ≤ x.natAbs := Nat.div_le_self _ _
  rw [← h] at h1
  omega

/-- What an op puts of two numbers within bounds, and whether it is told. -/
def rk (op x y : Int) : Int × Bool := if op = 6 ∧ y = 0 then (0, false) else (wrap32 (plainRk op x y), true)
/-- What Reckon answers. -/
def rkAns (op x y : Int) : Int × Bool × Bool := if within op 3 8 && bound x && bound y then ((rk op x y).1, (rk op x y).2, true) else (0, false, false)

theorem rk_div {x : Int} : rk 6 x 0 = (0, false) := rfl
theorem rk_other {op x y : Int} (h : op = 6 → y ≠ 0) : rk op x y = (wrap32 (plainRk op x y), true) := by
  unfold rk
  rw [if_neg (fun h1 => h h1.1 h1.2)]

theorem ret3 {a a' : Int} {b b' c c' : Bool} (h : (a, b, c) = (a', b', c')) : Ending.returned (.tuple #[.int .i64 a, .bool b, .bool c]) = .returned (.tuple #[.int .i64 a', .bool b', .bool c']) := by cases h; rfl
theorem ret2 {a a' : Int} {b b' : Bool} (h : (a, b) = (a', b')) : Ending.returned (.tuple #[.int .i64 a, .bool b]) = .returned (.tuple #[.int .i64 a', .bool b']) := by cases h; rfl

end Go.Proofs.Ytaogdaoiijmmhaa

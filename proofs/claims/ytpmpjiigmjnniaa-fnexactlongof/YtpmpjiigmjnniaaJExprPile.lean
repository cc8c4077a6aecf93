/-
  Texts joined: ExprPile Toks.
-/
import Derived.Test.YtpmpjiigmjnniaaJExprText
import Derived.RowKit
import Derived.Test.YtpmpjiigmjnniaaProg
import Derived.Test.YtpmpjiigmjnniaaJKit
/-
  Plain mathematics on expressions: what a token takes, how high the pile is, what an expression comes to. No program is imported here.
-/
namespace Go.Proofs.Ytpmpjiigmjnniaa.Exs
open Go.RowKit

/-- Whether a token is one, with a variable and a function that are there. -/
def known (vars : Int) (ps : List Int) (t : Token) : Prop := goodTok t ∧ (t.1 = 2 → t.2 < vars) ∧ (t.1 = 11 → t.2 < ps.length)

instance (vars : Int) (ps : List Int) (t : Token) : Decidable (known vars ps t) := by unfold known; infer_instance

/-- How many numbers a token takes. -/
def needs (ps : List Int) (t : Token) : Int := if 3 ≤ t.1 ∧ t.1 ≤ 8 then 2 else if t.1 = 11 then ps.getD t.2.toNat 0 else 0

/-- Whether params are so. -/
def okParams (ps : List Int) : Prop := ps.length ≤ 5 ∧ ∀ x ∈ ps, 0 ≤ x ∧ x ≤ 2

instance (ps : List Int) : Decidable (okParams ps) := by unfold okParams; infer_instance

/-- The pile's height behind all tokens, and the greatest one on the way, from a height and a greatest one. -/
def pile (vars : Int) (ps : List Int) : List Token → Int → Int → Option (Int × Int)
  | [], p, m => some (p, m)
  | t :: r, p, m => if known vars ps t ∧ needs ps t ≤ p then pile vars ps r (p + 1 - needs ps t) (max m (p + 1 - needs ps t)) else none

/-- The greatest height of a good expression, -1 of another one. -/
def high (vars : Int) (ps : List Int) (e : List Token) : Int :=
  match pile vars ps e 0 0 with | some (p, m) => if p = 1 ∧ e.length ≤ 12 then m else -1 | none => -1

theorem pile_cons {vars : Int} {ps : List Int} {t : Token} {r : List Token} {p m : Int} {q : Int × Int} (h : pile vars ps (t :: r) p m = some q) :
    known vars ps t ∧ needs ps t ≤ p ∧ pile vars ps r (p + 1 - needs ps t) (max m (p + 1 - needs ps t)) = some q := by
  rw [pile] at h
  split at h
  · rename_i hc; exact ⟨hc.1, hc.2, h⟩
  · cases h

theorem getD_range {ps : List Int} (h : ∀ x ∈ ps, 0 ≤ x ∧ x ≤ 2) (k : Nat) : 0 ≤ ps.getD k 0 ∧ ps.getD k 0 ≤ 2 := by
  by_cases hk : k < ps.length
  · rw [List.getD_eq_getElem?_getD, List.getElem?_eq_getElem hk]; exact h _ (List.getElem_mem hk)
  · rw [List.getD_eq_getElem?_getD, List.getElem?_eq_none (by omega)]; simp

theorem needs_range {ps : List Int} (h : ∀ x ∈ ps, 0 ≤ x ∧ x ≤ 2) (t : Token) : 0 ≤ needs ps t ∧ needs ps t ≤ 2 := by
  unfold needs
  split
  · omega
  · split
    · exact getD_range h _
    · omega

theorem pile_most {vars : Int} {ps : List Int} (h : ∀ x ∈ ps, 0 ≤ x ∧ x ≤ 2) : ∀ (e : List Token) (p m : Int) (q : Int × Int), 0 ≤ p → p ≤ m → pile vars ps e p m = some q →
    0 ≤ q.1 ∧ q.1 ≤ q.2 ∧ m ≤ q.2 ∧ (q.2 ≤ m ∨ q.2 ≤ p + e.length)
  | [], p, m, q, h0, h1, hq => by cases hq; exact ⟨h0, h1, Int.le_refl _, .inl (Int.le_refl _)⟩
  | t :: r, p, m, q, h0, h1, hq => by
    obtain ⟨_, hn, hr⟩ := pile_cons hq
    have hg := needs_range h t
    obtain ⟨a, b, c, d⟩ := pile_most h r _ _ q (by omega) (Int.le_max_right _ _) hr
    refine ⟨a, b, by omega, ?_⟩
    simp only [List.length_cons]
    omega

theorem high_pos {vars : Int} {ps : List Int} (h : ∀ x ∈ ps, 0 ≤ x ∧ x ≤ 2) {e : List Token} (hh : 0 < high vars ps e) :
    pile vars ps e 0 0 = some (1, high vars ps e) ∧ e.length ≤ 12 ∧ 1 ≤ e.length ∧ high vars ps e ≤ e.length := by
  unfold high at hh ⊢
  cases hq : pile vars ps e 0 0 with
  | none => rw [hq] at hh; simp at hh
  | some q =>
    obtain ⟨p, m⟩ := q
    rw [hq] at hh
    simp only at hh ⊢
    split at hh
    · rename_i hc
      rw [if_pos hc]
      have := pile_most h e 0 0 _ (by omega) (by omega) hq
      simp only at this
      refine ⟨by rw [hc.1], hc.2, ?_, by omega⟩
      match e, hq, hc with
      | [], hq, hc => cases hq; have := hc.1; omega
      | _ :: _, _, _ => simp
    · omega

theorem high_neg {vars : Int} {ps : List Int} (h : ∀ x ∈ ps, 0 ≤ x ∧ x ≤ 2) {e : List Token} (hh : ¬ 0 < high vars ps e) : high vars ps e = -1 := by
  unfold high at hh ⊢
  cases hq : pile vars ps e 0 0 with
  | none => rfl
  | some q =>
    obtain ⟨p, m⟩ := q
    rw [hq] at hh
    simp only at hh ⊢
    split at hh
    · rename_i hc
      have := pile_most h e 0 0 _ (by omega) (by omega) hq
      simp only at this
      omega
    · rename_i hc; rw [if_neg hc]

/-- Whether an expression is good. -/
def goodExpr (e : List Token) (vars : Int) (ps : List Int) : Prop := 0 ≤ vars ∧ vars ≤ 6 ∧ okParams ps ∧ 0 < high vars ps e

instance (e : List Token) (vars : Int) (ps : List Int) : Decidable (goodExpr e vars ps) := by unfold goodExpr; infer_instance

theorem wrap32_range (n : Int) : -2147483648 ≤ wrap32 n ∧ wrap32 n ≤ 2147483647 := by unfold wrap32; omega

theorem wrap32_in {n : Int} (h0 : -2147483648 ≤ n) (h1 : n ≤ 2147483647) : wrap32 n = n := by unfold wrap32; omega

theorem wrap32_apart (n : Int) : (n - wrap32 n) % 4294967296 = 0 := by unfold wrap32; omega

/-- What an op puts of two numbers, nothing of x / 0. -/
def reckon (op x y : Int) : Option Int :=
  if op = 3 then some (wrap32 (x + y)) else if op = 4 then some (wrap32 (x - y)) else if op = 5 then some (wrap32 (x * y))
  else if op = 6 then (if y = 0 then none else some (wrap32 (x.tdiv y))) else if op = 7 then some (if x < y then 1 else 0) else some (if x = y then 1 else 0)

theorem reckon_range {op x y n : Int} (h : reckon op x y = some n) : -2147483648 ≤ n ∧ n ≤ 2147483647 := by
  unfold reckon at h
  repeat' split at h
  all_goals first | (cases h; exact wrap32_range _) | (cases h; omega) | (cases h)

theorem reckon_none {op x y : Int} (h : reckon op x y = none) : op = 6 ∧ y = 0 := by
  unfold reckon at h
  repeat' split at h
  all_goals first | (cases h; done) | exact ⟨by assumption, by assumption⟩

/-- What tokens make of a pile, the top first: nothing where x / 0 is met. -/
def eval (env : List Int) : List Token → List Int → Option (List Int)
  | [], st => some st
  | t :: r, st =>
    if t.1 = 1 then eval env r (t.2 :: st) else if t.1 = 2 then eval env r (env.getD t.2.toNat 0 :: st)
    else match st with
      | y :: x :: st => match reckon t.1 x y with | some n => eval env r (n :: st) | none => none
      | _ => none

/-- Whether a token takes no input, recovers nothing and calls nothing. -/
def pureTok (t : Token) : Prop := t.1 ≠ 9 ∧ t.1 ≠ 10 ∧ t.1 ≠ 11

theorem known_pure {vars : Int} {t : Token} (h : known vars [] t) : t.1 ≠ 11 := by
  obtain ⟨h1, _, h3⟩ := h
  intro e
  have := h3 e
  unfold goodTok at h1
  simp at this
  omega

theorem needs_pure {vars : Int} {t : Token} (h : known vars [] t) (h9 : t.1 ≠ 9) (h10 : t.1 ≠ 10) : (needs [] t = 0 ∧ (t.1 = 1 ∨ t.1 = 2)) ∨ (needs [] t = 2 ∧ 3 ≤ t.1 ∧ t.1 ≤ 8) := by
  have h11 := known_pure h
  have hg := h.1
  unfold goodTok at hg
  by_cases hc : 3 ≤ t.1 ∧ t.1 ≤ 8
  · exact .inr ⟨by rw [needs, if_pos hc], hc.1, hc.2⟩
  · exact .inl ⟨by rw [needs, if_neg hc, if_neg h11], by omega⟩

end Go.Proofs.Ytpmpjiigmjnniaa.Exs

/-
  Contracts of the small functions on numbers and tokens, of the program and of the reference.
-/
namespace Go.Proofs.Ytpmpjiigmjnniaa
open Go.RowKit Exs

theorem ret_bool {a b : Bool} (h : a = b) : Ending.returned (.bool a) = .returned (.bool b) := by rw [h]
theorem wrap64_wrap32 (n : Int) : wrap64 (wrap32 n) = wrap32 n := by
  have := wrap32_range n
  unfold wrap64; omega

set_option maxHeartbeats 400000 in
theorem wrapOf_any (n : Int) (w : World) : Calls Try.prog 88 #[.int .i64 n] w fun e w' => e = .returned (.int .i64 (wrap32 n)) ∧ w = w' := by
  go_enter Try.func88, Try.ntmps88
  go_wp2
  go_ret
  exact ⟨ret_int (wrap64_wrap32 n), rfl⟩

/-- Whether a number is within bounds. -/
def within (n lo hi : Int) : Bool := decide (lo ≤ n ∧ n ≤ hi)
/-- Whether a number is one of 32 bits. -/
def bound (n : Int) : Bool := within n (-2147483648) 2147483647

theorem bound_iff (n : Int) : bound n = true ↔ -2147483648 ≤ n ∧ n ≤ 2147483647 := by simp [bound, within]
theorem bound_wrap (n : Int) : (wrap32 n == n) = bound n := by
  rw [Bool.eq_iff_iff, bound_iff, beq_iff_eq]
  unfold wrap32; omega

set_option maxHeartbeats 400000 in
theorem l1In_any (n lo hi : Int) (w : World) : Calls Try.prog 16 #[.int .i64 n, .int .i64 lo, .int .i64 hi] w fun e w' => e = .returned (.bool (within n lo hi)) ∧ w = w' := by
  go_enter Try.func16, Try.ntmps16
  go_wp2
  all_goals go_ret
  all_goals exact ⟨ret_bool (by rw [Bool.eq_iff_iff]; simp [within]; omega), rfl⟩

set_option maxHeartbeats 400000 in
theorem l2Bound_any (n : Int) (w : World) : Calls Try.prog 86 #[.int .i64 n] w fun e w' => e = .returned (.bool (bound n)) ∧ w = w' := by
  go_enter Try.func86, Try.ntmps86
  go_wp2_with fail
  refine (l1In_any n _ _ _).mono ?_
  rintro e w1 ⟨rfl, rfl⟩
  go_wp2
  go_ret
  exact ⟨rfl, rfl⟩

set_option maxHeartbeats 400000 in
theorem inBounds_any (n : Int) (w : World) : Calls Try.prog 87 #[.int .i64 n] w fun e w' => e = .returned (.bool (bound n)) ∧ w = w' := by
  go_enter Try.func87, Try.ntmps87
  go_wp2_with fail
  refine (wrapOf_any n _).mono ?_
  rintro e w1 ⟨rfl, rfl⟩
  go_wp2
  go_ret
  exact ⟨ret_bool (bound_wrap n), rfl⟩

set_option maxHeartbeats 400000 in
theorem isReckoning_any (op : Int) (w : World) : Calls Try.prog 85 #[.int .i64 op] w fun e w' => e = .returned (.bool (within op 3 8)) ∧ w = w' := by
  go_enter Try.func85, Try.ntmps85
  go_wp2
  all_goals go_ret
  all_goals exact ⟨ret_bool (by rw [Bool.eq_iff_iff]; simp [within]; omega), rfl⟩

/-- Whether a token has the form of one. -/
def tokB (op n : Int) : Bool := decide (goodTok (op, n))

theorem tokB_iff (op n : Int) : tokB op n = true ↔ (op = 1 ∧ -2147483648 ≤ n ∧ n ≤ 2147483647) ∨ ((op = 2 ∨ op = 11) ∧ 0 ≤ n ∧ n ≤ 99) ∨ (3 ≤ op ∧ op ≤ 10 ∧ n = 0) := by
  unfold tokB; rw [decide_eq_true_eq]; rfl
theorem within_iff (n lo hi : Int) : within n lo hi = true ↔ lo ≤ n ∧ n ≤ hi := by simp [within]

set_option maxHeartbeats 400000 in
theorem goodToken_any (op n : Int) (w : World) : Calls Try.prog 83 #[.agg #[.int .i64 op, .int .i64 n]] w fun e w' => e = .returned (.bool (tokB op n)) ∧ Below w.heap.size w w' := by
  go_enter Try.func83, Try.ntmps83
  go_wp2_with (go_at_call 87; refine (inBounds_any _ _).mono ?_; rintro e w' ⟨rfl, rfl⟩)
  all_goals go_ret
  all_goals refine ⟨ret_bool ?_, (Below.refl _ _).alloc (Nat.le_refl _) _⟩
  all_goals simp only [beq_iff_eq, beq_eq_false_iff_ne] at *
  all_goals rw [Bool.eq_iff_iff, tokB_iff]
  all_goals simp only [bound_iff, decide_eq_true_eq, Bool.false_eq_true, false_iff, beq_iff_eq]
  all_goals omega

set_option maxHeartbeats 400000 in
theorem l2Token_any (op n : Int) (w : World) : Calls Try.prog 82 #[.agg #[.int .i64 op, .int .i64 n]] w fun e w' => e = .returned (.bool (tokB op n)) ∧ Below w.heap.size w w' := by
  go_enter Try.func82, Try.ntmps82
  go_wp2_with (first | (go_at_call 86; refine (l2Bound_any _ _).mono ?_; rintro e w' ⟨rfl, rfl⟩) | (go_at_call 16; refine (l1In_any _ _ _ _).mono ?_; rintro e w' ⟨rfl, rfl⟩))
  all_goals go_ret
  all_goals refine ⟨ret_bool ?_, (Below.refl _ _).alloc (Nat.le_refl _) _⟩
  all_goals simp only [beq_iff_eq, beq_eq_false_iff_ne] at *
  all_goals rw [Bool.eq_iff_iff, tokB_iff]
  all_goals simp only [bound_iff, within_iff, Bool.false_eq_true, false_iff, beq_iff_eq] at *
  all_goals omega

/-- One where it is so. -/
def one (b : Bool) : Int := if b then 1 else 0

/-- What is reckoned, ahead of any wrap. -/
def plainRk (op x y : Int) : Int := if op = 3 then x + y else if op = 4 then x - y else if op = 5 then x * y else if op = 6 then x.tdiv y else if op = 7 then one (decide (x < y)) else one (x == y)

theorem mul_bound {x y : Int} (hx : -2147483648 ≤ x ∧ x ≤ 2147483647) (hy : -2147483648 ≤ y ∧ y ≤ 2147483647) : -4611686018427387904 ≤ x * y ∧ x * y ≤ 4611686018427387904 := by
  have h := Int.natAbs_mul x y
  have h1 : x.natAbs ≤ 2147483648 := by omega
  have h2 : y.natAbs ≤ 2147483648 := by omega
  have h3 : x.natAbs * y.natAbs ≤ 2147483648 * 2147483648 := Nat.mul_le_mul h1 h2
  rw [← h] at h3
  omega
theorem tdiv_bound {x y : Int} (hx : -2147483648 ≤ x ∧ x ≤ 2147483647) : -2147483648 ≤ x.tdiv y ∧ x.tdiv y ≤ 2147483648 := by
  have h := Int.natAbs_tdiv x y
  have h1 : x.natAbs.div y.natAbs ≤ x.natAbs := Nat.div_le_self _ _
  rw [← h] at h1
  omega

/-- What an op puts of two numbers within bounds, and whether it is told. -/
def rk (op x y : Int) : Int × Bool := if op = 6 ∧ y = 0 then (0, false) else (wrap32 (plainRk op x y), true)
/-- What Reckon answers. -/
def rkAns (op x y : Int) : Int × Bool × Bool := if within op 3 8 && bound x && bound y then ((rk op x y).1, (rk op x y).2, true) else (0, false, false)

theorem rk_div {x : Int} : rk 6 x 0 = (0, false) := rfl
theorem rk_other {op x y : Int} (h : op = 6 → y ≠ 0) : rk op x y = (wrap32 (plainRk op x y), true) := by
  unfold rk
  rw [if_neg (fun h1 => h h1.1 h1.2)]

theorem ret3 {a a' : Int} {b b' c c' : Bool} (h : (a, b, c) = (a', b', c')) : Ending.returned (.tuple #[.int .i64 a, .bool b, .bool c]) = .returned (.tuple #[.int .i64 a', .bool b', .bool c']) := by cases h; rfl
theorem ret2 {a a' : Int} {b b' : Bool} (h : (a, b) = (a', b')) : Ending.returned (.tuple #[.int .i64 a, .bool b]) = .returned (.tuple #[.int .i64 a', .bool b']) := by cases h; rfl

end Go.Proofs.Ytpmpjiigmjnniaa

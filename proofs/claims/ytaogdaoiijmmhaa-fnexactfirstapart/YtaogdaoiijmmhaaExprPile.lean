/-
  Plain mathematics on expressions: what a token takes, how high the pile is, what an expression comes to. No program is imported here.
-/
import Derived.Test.YtaogdaoiijmmhaaExprTok
import Derived.RowKit
namespace Go.Proofs.Ytaogdaoiijmmhaa.Exs
open Go.RowKit

/-- Whether a token is one, with a variable and a function that are there. -/
def known (vars : Int) (ps : List Int) (t : Token) : Prop := goodTok t ∧ (t.1 = 2 → t.2 < vars) ∧ (t.1 = 11 → t.2 < ps.length)

instance (vars : Int) (ps : List Int) (t : Token) : Decidable (known vars ps t) := by unfold known; infer_instance

/-- How many numbers a token takes. -/
def needs (ps : List Int) (t : Token) : Int := if 3 ≤ t.1 ∧ t.1 ≤ 8 then 2 else if t.1 = 11 then ps.getD t.2.toNat 0 else 0

/-- Whether params are so. -/
def okParams (ps : List Int) : Prop := ps.length ≤ 5 ∧ ∀ x ∈ ps, 0 ≤ x ∧ x ≤ 2

instance (ps : List Int) : Decidable (okParams ps) := by unfold okParams; infer_instance

/-- The pile's height behind all tokens, and the greatest one on the way, from a height and a greatest one. -/
def pile (vars : Int) (ps : List Int) : List Token → Int → Int → Option (Int × Int)
  | [], p, m => some (p, m)
  | t :: r, p, m => if known vars ps t ∧ needs ps t ≤ p then pile vars ps r (p + 1 - needs ps t) (max m (p + 1 - needs ps t)) else none

/-- The greatest height of a good expression, -1 of another one. -/
def high (vars : Int) (ps : List Int) (e : List Token) : Int :=
  match pile vars ps e 0 0 with | some (p, m) => if p = 1 ∧ e.length ≤ 12 then m else -1 | none => -1

theorem pile_cons {vars : Int} {ps : List Int} {t : Token} {r : List Token} {p m : Int} {q : Int × Int} (h : pile vars ps (t :: r) p m = some q) :
    known vars ps t ∧ needs ps t ≤ p ∧ pile vars ps r (p + 1 - needs ps t) (max m (p + 1 - needs ps t)) = some q := by
  rw [pile] at h
  split at h
  · rename_i hc; exact ⟨hc.1, hc.2, h⟩
  · cases h

theorem getD_range {ps : List Int} (h : ∀ x ∈ ps, 0 ≤ x ∧ x ≤ 2) (k : Nat) : 0 ≤ ps.getD k 0 ∧ ps.getD k 0 ≤ 2 := by
  by_cases hk : k < ps.length
  · rw [List.getD_eq_getElem?_getD, List.getElem?_eq_getElem hk]; exact h _ (List.getElem_mem hk)
  · rw [List.getD_eq_getElem?_getD, List.getElem?_eq_none (by omega)]; simp

theorem needs_range {ps : List Int} (h : ∀ x ∈ ps, 0 ≤ x ∧ x ≤ 2) (t : Token) : 0 ≤ needs ps t ∧ needs ps t ≤ 2 := by
  unfold needs
  split
  · omega
  · split
    · exact getD_range h _
    · omega

theorem pile_most {vars : Int} {ps : List Int} (h : ∀ x ∈ ps, 0 ≤ x ∧ x ≤ 2) : ∀ (e : List Token) (p m : Int) (q : Int × Int), 0 ≤ p → p ≤ m → pile vars ps e p m = some q →
    0 ≤ q.1 ∧ q.1 ≤ q.2 ∧ m ≤ q.2 ∧ (q.2 ≤ m ∨ q.2 ≤ p + e.length)
  | [], p, m, q, h0, h1, hq => by cases hq; exact ⟨h0, h1, Int.le_refl _, .inl (Int.le_refl _)⟩
  | t :: r, p, m, q, h0, h1, hq => by
    obtain ⟨_, hn, hr⟩ := pile_cons hq
    have hg := needs_range h t
    obtain ⟨a, b, c, d⟩ := pile_most h r _ _ q (by omega) (Int.le_max_right _ _) hr
    refine ⟨a, b, by omega, ?_⟩
    simp only [List.length_cons]
    omega

theorem high_pos {vars : Int} {ps : List Int} (h : ∀ x ∈ ps, 0 ≤ x ∧ x ≤ 2) {e : List Token} (hh : 0 < high vars ps e) :
    pile vars ps e 0 0 = some (1, high vars ps e) ∧ e.length ≤ 12 ∧ 1 ≤ e.length ∧ high vars ps e ≤ e.length := by
  unfold high at hh ⊢
  cases hq : pile vars ps e 0 0 with
  | none => rw [hq] at hh; simp at hh
  | some q =>
    obtain ⟨p, m⟩ := q
    rw [hq] at hh
    simp only at hh ⊢
    split at hh
    · rename_i hc
      rw [if_pos hc]
      have := pile_most h e 0 0 _ (by omega) (by omega) hq
      simp only at this
      refine ⟨by rw [hc.1], hc.2, ?_, by omega⟩
      match e, hq, hc with
      | [], hq, hc => cases hq; have := hc.1; omega
      | _ :: _, _, _ => simp
    · omega

theorem high_neg {vars : Int} {ps : List Int} (h : ∀ x ∈ ps, 0 ≤ x ∧ x ≤ 2) {e : List Token} (hh : ¬ 0 < high vars ps e) : high vars ps e = -1 := by
  unfold high at hh ⊢
  cases hq : pile vars ps e 0 0 with
  | none => rfl
  | some q =>
    obtain ⟨p, m⟩ := q
    rw [hq] at hh
    simp only at hh ⊢
    split at hh
    · rename_i hc
      have := pile_most h e 0 0 _ (by omega) (by omega) hq
      simp only at this
      omega
    · rename_i hc; rw [if_neg hc]

/-- Whether an expression is good. -/
def goodExpr (e : List Token) (vars : Int) (ps : List Int) : Prop := 0 ≤ vars ∧ vars ≤ 6 ∧ okParams ps ∧ 0 < high vars ps e

instance (e : List Token) (vars : Int) (ps : List Int) : Decidable (goodExpr e vars ps) := by unfold goodExpr; infer_instance

theorem wrap32_range (n : Int) : -2147483648 ≤ wrap32 n ∧ wrap32 n ≤ 2147483647 := by unfold wrap32; omega

theorem wrap32_in {n : Int} (h0 : -2147483648 ≤ n) (h1 : n ≤ 2147483647) : wrap32 n = n := by unfold wrap32; omega

theorem wrap32_apart (n : Int) : (n - wrap32 n) % 4294967296 = 0 := by unfold wrap32; omega

/-- What an op puts of two numbers, nothing of x / 0. -/
def reckon (op x y : Int) : Option Int :=
  if op = 3 then some (wrap32 (x + y)) else if op = 4 then some (wrap32 (x - y)) else if op = 5 then some (wrap32 (x * y))
  else if op = 6 then (if y = 0 then none else some (wrap32 (x.tdiv y))) else if op = 7 then some (if x < y then 1 else 0) else some (if x = y then 1 else 0)

theorem reckon_range {op x y n : Int} (h : reckon op x y = some n) : -2147483648 ≤ n ∧ n ≤ 2147483647 := by
  unfold reckon at h
  repeat' split at h
  all_goals first | (cases h; exact wrap32_range _) | (cases h; omega) | (cases h)

theorem reckon_none {op x y : Int} (h : reckon op x y = none) : op = 6 ∧ y = 0 := by
  unfold reckon at h
  repeat' split at h
  all_goals first | (cases h; done) | exact ⟨by assumption, by assumption⟩

/-- What tokens make of a pile, the top first: nothing where x / 0 is met. -/
def eval (env : List Int) : List Token → List Int → Option (List Int)
  | [], st => some st
  | t :: r, st =>
    if t.1 = 1 then eval env r (t.2 :: st) else if t.1 = 2 then eval env r (env.getD t.2.toNat 0 :: st)
    else match st with
      | y :: x :: st => match reckon t.1 x y with | some n => eval env r (n :: st) | none => none
      | _ => none

/-- Whether a token takes no input, recovers nothing and calls nothing. -/
def pureTok (t : Token) : Prop := t.1 ≠ 9 ∧ t.1 ≠ 10 ∧ t.1 ≠ 11

theorem known_pure {vars : Int} {t : Token} (h : known vars [] t) : t.1 ≠ 11 := by
  obtain ⟨h1, _, h3⟩ := h
  intro e
  have := h3 e
  unfold goodTok at h1
  simp at this
  omega

theorem needs_pure {vars : Int} {t : Token} (h : known vars [] t) (h9 : t.1 ≠ 9) (h10 : t.1 ≠ 10) : (needs [] t = 0 ∧ (t.1 = 1 ∨ t.1 = 2)) ∨ (needs [] t = 2 ∧ 3 ≤ t.1 ∧ t.1 ≤ 8) := by
  have h11 := known_pure h
  have hg := h.1
  unfold goodTok at hg
  by_cases hc : 3 ≤ t.1 ∧ t.1 ≤ 8
  · exact .inr ⟨by rw [needs, if_pos hc], hc.1, hc.2⟩
  · exact .inl ⟨by rw [needs, if_neg hc, if_neg h11], by omega⟩

end Go.Proofs.Ytaogdaoiijmmhaa.Exs

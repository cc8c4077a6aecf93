/-
  The walk over a function's blocks, in plain words.
-/
import Derived.Test.YtaogdaoiijmmhaaPrg
namespace Go.Proofs.Ytaogdaoiijmmhaa
open Go.RowKit Exs

def okAt (f : Fc) (k : Nat) (n : Int) (b : Bool) : Bool := decide (n = k) && (match f.stmts[k]? with | some s => !(b && decide (s.kind = 3)) | none => false)
theorem okAt_some {f : Fc} {k : Nat} {n : Int} {b : Bool} (h : okAt f k n b = true) : n = k ∧ ∃ s, f.stmts[k]? = some s ∧ (b = true → s.kind ≠ 3) := by
  unfold okAt at h
  simp only [Bool.and_eq_true, decide_eq_true_eq] at h
  obtain ⟨h1, h2⟩ := h
  refine ⟨h1, ?_⟩
  cases hs : f.stmts[k]? with
  | none => rw [hs] at h2; simp at h2
  | some s =>
    rw [hs] at h2
    refine ⟨s, rfl, fun hb => ?_⟩
    subst hb
    simpa using h2

/-- The walk from k on over a block, inside a loop or not: where it comes to, if it goes through. -/
def go (f : Fc) (fuel : Nat) (block : List Int) (b : Bool) (k : Nat) : Option Nat :=
  match fuel, block with
  | _, [] => some k
  | 0, _ :: _ => none
  | fuel + 1, n :: r =>
    if okAt f k n b then
      match f.stmts[k]? with
      | none => none
      | some s =>
        match go f fuel s.th (b || decide (s.kind = 8)) (k + 1) with
        | none => none
        | some k1 =>
          match go f fuel s.el (b || decide (s.kind = 8)) k1 with
          | none => none
          | some k2 => go f (fuel + 1) r b k2
    else none
  termination_by (fuel, block.length)

theorem go_nil (f : Fc) (fuel : Nat) (b : Bool) (k : Nat) : go f fuel [] b k = some k := by unfold go; rfl
theorem go_zero (f : Fc) (n : Int) (r : List Int) (b : Bool) (k : Nat) : go f 0 (n :: r) b k = none := by unfold go; rfl
theorem go_stop {f : Fc} {fuel : Nat} {n : Int} {r : List Int} {b : Bool} {k : Nat} (h : okAt f k n b = false) : go f fuel (n :: r) b k = none := by
  cases fuel with
  | zero => exact go_zero ..
  | succ m => unfold go; simp [h]
theorem go_on {f : Fc} {fuel : Nat} {n : Int} {r : List Int} {b : Bool} {k : Nat} {s : St} (h : okAt f k n b = true) (hs : f.stmts[k]? = some s) :
    go f (fuel + 1) (n :: r) b k = (go f fuel s.th (b || decide (s.kind = 8)) (k + 1)).bind fun k1 => (go f fuel s.el (b || decide (s.kind = 8)) k1).bind fun k2 => go f (fuel + 1) r b k2 := by
  conv => lhs; unfold go
  simp only [h, if_true, hs]
  cases go f fuel s.th (b || decide (s.kind = 8)) (k + 1) with
  | none => rfl
  | some k1 =>
    simp only [Option.bind_some]
    cases go f fuel s.el (b || decide (s.kind = 8)) k1 <;> rfl
theorem go_mono (f : Fc) : ∀ (fuel : Nat) (block : List Int) (b : Bool) (k k' : Nat), go f fuel block b k = some k' → k ≤ k' := by
  intro fuel
  induction fuel with
  | zero =>
    intro block b k k' h
    cases block with
    | nil => rw [go_nil] at h; injection h with h; omega
    | cons n r => rw [go_zero] at h; cases h
  | succ m ih =>
    intro block
    induction block with
    | nil => intro b k k' h; rw [go_nil] at h; injection h with h; omega
    | cons n r ihr =>
      intro b k k' h
      cases hok : okAt f k n b with
      | false => rw [go_stop hok] at h; cases h
      | true =>
        obtain ⟨_, s, hs, _⟩ := okAt_some hok
        rw [go_on hok hs] at h
        obtain ⟨k1, h1, h⟩ := Option.bind_eq_some_iff.1 h
        obtain ⟨k2, h2, h⟩ := Option.bind_eq_some_iff.1 h
        have := ih _ _ _ _ h1
        have := ih _ _ _ _ h2
        have := ihr _ _ _ h
        omega

end Go.Proofs.Ytaogdaoiijmmhaa

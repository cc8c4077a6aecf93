/-
  What an expression without input, recovery and calls comes to, and the loops that reckon it.
-/
import Derived.Test.YtpknbdaicmacjaaEval
namespace Go.Proofs.Ytpknbdaicmacjaa
open Go.RowKit Exs
set_option linter.unusedVariables false

/-- What tokens make of a pile, the lowest number first: nothing where x / 0 is met. -/
def ev (env : List Int) : List Token → List Int → Option (List Int)
  | [], xs => some xs
  | t :: r, xs =>
    if t.1 = 1 then ev env r (xs ++ [t.2]) else if t.1 = 2 then ev env r (xs ++ [env.getD t.2.toNat 0])
    else if (rk t.1 (xs.getD (xs.length - 2) 0) (xs.getD (xs.length - 1) 0)).2 = true then ev env r (xs.take (xs.length - 2) ++ [(rk t.1 (xs.getD (xs.length - 2) 0) (xs.getD (xs.length - 1) 0)).1]) else none

section
variable {env : List Int} {ts : List Token} {k : Nat} {xs : List Int} {op x : Int}
theorem drop_at (h : ts[k]? = some (op, x)) : ts.drop k = (op, x) :: ts.drop (k + 1) := by
  obtain ⟨hk, he⟩ := List.getElem?_eq_some_iff.1 h
  rw [List.drop_eq_getElem_cons hk, he]
theorem ev_num (h : ts[k]? = some (1, x)) : ev env (ts.drop k) xs = ev env (ts.drop (k + 1)) (xs ++ [x]) := by rw [drop_at h, ev]; simp
theorem ev_var (h : ts[k]? = some (2, x)) : ev env (ts.drop k) xs = ev env (ts.drop (k + 1)) (xs ++ [env.getD x.toNat 0]) := by rw [drop_at h, ev]; simp
theorem ev_op (h : ts[k]? = some (op, x)) (h1 : 3 ≤ op) : ev env (ts.drop k) xs = if (rk op (xs.getD (xs.length - 2) 0) (xs.getD (xs.length - 1) 0)).2 = true then ev env (ts.drop (k + 1)) (xs.take (xs.length - 2) ++ [(rk op (xs.getD (xs.length - 2) 0) (xs.getD (xs.length - 1) 0)).1]) else none := by
  rw [drop_at h, ev, if_neg (by simp; omega), if_neg (by simp; omega)]
theorem ev_done (h : ts.length ≤ k) : ev env (ts.drop k) xs = some xs := by rw [List.drop_eq_nil_of_le h, ev]
end

/-- The rest of the tokens does with a pile of this height, and leaves one number. -/
def Sane (vars : Int) (ts : List Token) (k : Nat) (p : Nat) : Prop := ∃ q hi : Int, pile vars [] (ts.drop k) p q = some (1, hi)

theorem sane_step {vars : Int} {ts : List Token} {k p : Nat} {op x : Int} (h : Sane vars ts k p) (hx : ts[k]? = some (op, x)) (ha : ask op = false) :
    (op = 1 ∧ bound x = true ∧ Sane vars ts (k + 1) (p + 1)) ∨ (op = 2 ∧ 0 ≤ x ∧ x < vars ∧ Sane vars ts (k + 1) (p + 1)) ∨ (3 ≤ op ∧ op ≤ 8 ∧ 2 ≤ p ∧ Sane vars ts (k + 1) (p - 2 + 1)) := by
  obtain ⟨q, hi, hp⟩ := h
  rw [pile_step hx] at hp
  split at hp
  · rename_i hc
    obtain ⟨hk, hn⟩ := hc
    obtain ⟨ht, hv, hf⟩ := (knB_iff _ _ _ _).1 hk
    have hg := (tokB_iff _ _).1 ht
    simp only [ask, Bool.or_eq_false_iff, beq_eq_false_iff_ne] at ha
    have h11 : op ≠ 11 := fun e => by
      have h1 := hf e
      have := kn_call hk e
      simp at h1
      omega
    by_cases h3 : 3 ≤ op ∧ op ≤ 8
    · have hd : needs [] (op, x) = 2 := needs_two ((within_iff _ _ _).2 h3)
      rw [hd] at hn hp
      have hp2 : 2 ≤ p := by omega
      exact .inr (.inr ⟨h3.1, h3.2, hp2, _, hi, by rw [show ((p - 2 + 1 : Nat) : Int) = (p : Int) + 1 - 2 by omega]; exact hp⟩)
    · have hd : needs [] (op, x) = 0 := needs_none (by rw [Bool.eq_false_iff]; intro h; exact h3 ((within_iff _ _ _).1 h)) h11
      rw [hd] at hp
      have hs : Sane vars ts (k + 1) (p + 1) := ⟨_, hi, by rw [show ((p + 1 : Nat) : Int) = (p : Int) + 1 - 0 by omega]; exact hp⟩
      by_cases h1 : op = 1
      · exact .inl ⟨h1, (bound_iff _).2 (by omega), hs⟩
      · have h2 : op = 2 := by omega
        exact .inr (.inl ⟨h2, by omega, hv h2, hs⟩)
  · cases hp
theorem sane_done {vars : Int} {ts : List Token} {k p : Nat} (h : Sane vars ts k p) (hk : ts.length ≤ k) : p = 1 := by
  obtain ⟨q, hi, hp⟩ := h
  rw [pile_done hk] at hp
  injection hp with hp
  injection hp with hp
  omega
theorem sane_good {ts : List Token} {vars : Int} (h : (highAns ts vars []).2 = true) : Sane vars ts 0 0 ∧ ts.length ≤ 12 ∧ 0 ≤ vars ∧ vars ≤ 6 := by
  unfold highAns at h
  split at h
  · rename_i hg
    obtain ⟨h1, h2, _, _⟩ := high_pos (by simp) hg.2.2.2
    exact ⟨⟨0, _, h1⟩, h2, hg.1, hg.2.1⟩
  · cases h

/-- Numbers of 32 bits. -/
def Small (xs : List Int) : Prop := allIn (-2147483648) 2147483647 xs = true
theorem Small.snoc {xs : List Int} {x : Int} (h : Small xs) (hx : bound x = true) : Small (xs ++ [x]) := by
  unfold Small allIn at *; rw [List.all_append, h]; simp [show within x (-2147483648) 2147483647 = true from hx]
theorem Small.take {xs : List Int} (h : Small xs) (k : Nat) : Small (xs.take k) :=
  (allIn_iff _ _ _).2 fun x hx => (allIn_iff _ _ _).1 h x (List.mem_of_mem_take hx)
theorem Small.at_ {xs : List Int} (h : Small xs) (k : Nat) : -2147483648 ≤ xs.getD k 0 ∧ xs.getD k 0 ≤ 2147483647 := by
  by_cases hk : k < xs.length
  · rw [List.getD_eq_getElem?_getD, List.getElem?_eq_getElem hk]; exact (allIn_iff _ _ _).1 h _ (List.getElem_mem hk)
  · rw [List.getD_eq_getElem?_getD, List.getElem?_eq_none (by omega)]; simp
theorem rk_bound (op x y : Int) : bound (rk op x y).1 = true := by
  unfold rk
  split
  · decide
  · exact (bound_iff _).2 (wrap32_range _)

/-- What an expression comes to, and whether it does. -/
def evAns (ts : List Token) (env : List Int) : Int × Bool := match ev env ts [] with | some xs => (xs.getD 0 0, true) | none => (0, false)
theorem evAns_some {ts : List Token} {env xs : List Int} (h : ev env ts [] = some xs) : evAns ts env = (xs.getD 0 0, true) := by unfold evAns; rw [h]
theorem evAns_none {ts : List Token} {env : List Int} (h : ev env ts [] = none) : evAns ts env = (0, false) := by unfold evAns; rw [h]

/-- A row of the call's own that is not empty. -/
theorem Nums.form {w : World} {B : Nat} {e : TypeId} {k : IntKind} {v : Value} {xs : List Int} (h : Nums w B e k v xs) (hn : 0 < xs.length) :
    ∃ g cap, v = .slice (some ⟨g, 0, none⟩) xs.length cap ∧ B ≤ g ∧ g < w.heap.size ∧ xs.length ≤ cap ∧ cap ≤ maxLen ∧ ∀ j, j < xs.length → w.cell? ⟨g, j, none⟩ = some (.int k (xs.getD j 0)) := by
  rcases h.2 with ⟨_, h0⟩ | ⟨g, cap, cur, rfl, hB, hg, hc, hm, _⟩
  · omega
  · refine ⟨g, cap, rfl, hB, (Array.getElem?_eq_some_iff.1 hg).1, hc, hm, fun j hj => ?_⟩
    rw [World.ownsRow.cellAt h j (by omega)]
    simp [List.getElem?_eq_getElem hj, List.getD]
theorem Nums.cut {w : World} {B : Nat} {e : TypeId} {k : IntKind} {g cap : Nat} {xs : List Int} (h : Nums w B e k (.slice (some ⟨g, 0, none⟩) xs.length cap) xs) (m : Nat) (hm : m ≤ xs.length) :
    Nums w B e k (.slice (some ⟨g, 0, none⟩) m cap) (xs.take m) := by
  have hl : (xs.take m).length = m := by rw [List.length_take]; omega
  rcases h.2 with ⟨h0, _⟩ | ⟨g', cap', cur, hv, hB, hg, hc, hmx, hs, ht⟩
  · cases h0
  · injection hv with h1 _ h2
    injection h1 with h1
    injection h1 with h1
    subst h1; subst h2
    refine ⟨by simp, .inr ⟨g, cap, cur, by rw [hl], hB, hg, by omega, hmx, hs, ?_⟩⟩
    rw [hl, List.map_take, ← ht, List.take_take]
    simp only [Nat.mul_one]
    rw [Nat.min_eq_left hm]
theorem Nums.belowNew {w w' : World} {B : Nat} {e : TypeId} {k : IntKind} {v : Value} {xs : List Int} (h : Nums w B e k v xs) (hb : Below w.heap.size w w') : Nums w' B e k v xs := by
  refine ⟨h.1, ?_⟩
  rcases h.2 with h0 | ⟨g, cap, cur, hv, hB, hg, hc, hmx, hs, ht⟩
  · exact .inl h0
  · exact .inr ⟨g, cap, cur, hv, hB, (hb.block g (Array.getElem?_eq_some_iff.1 hg).1).trans hg, hc, hmx, hs, ht⟩

end Go.Proofs.Ytpknbdaicmacjaa

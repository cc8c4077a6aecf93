/-
  The functions that a function names: plain maths.
-/
import Derived.Test.YtfdijeeilfhjeaaPut
import Derived.Test.YtfdijeeilfhjeaaRec
namespace Go.Proofs.Ytfdijeeilfhjeaa
open Go.RowKit Exs

def callN (t : Token) : List Int := if t.1 = 11 then [t.2] else []
def putN (s : St) : List Int := if s.kind = 3 then [s.n] else []
def stN (s : St) : List Int := putN s ++ s.ex.flatMap callN
def fnN (f : Fc) : List Int := f.stmts.flatMap stN
/-- Those of 0 to 4 that are in a list. -/
def namedL (S : List Int) : List Int := [(0 : Int), 1, 2, 3, 4].filter fun x => decide (x ∈ S)
def namedTo (k : Nat) (S : List Int) : List Int := ([(0 : Int), 1, 2, 3, 4].take k).filter fun x => decide (x ∈ S)
theorem namedL_length (S : List Int) : (namedL S).length ≤ 5 := List.length_filter_le _ _
theorem namedTo_length (k : Nat) (S : List Int) : (namedTo k S).length ≤ 5 := by
  have h1 := List.length_filter_le (fun x => decide (x ∈ S)) ([(0 : Int), 1, 2, 3, 4].take k)
  have h2 := List.length_take_le k [(0 : Int), 1, 2, 3, 4]
  unfold namedTo
  simp only [List.length_take, List.length_cons, List.length_nil] at h1
  omega
theorem five_more : ∀ k : Nat, k < 5 → [(0 : Int), 1, 2, 3, 4].take (k + 1) = [(0 : Int), 1, 2, 3, 4].take k ++ [(k : Int)]
  | 0, _ => rfl
  | 1, _ => rfl
  | 2, _ => rfl
  | 3, _ => rfl
  | 4, _ => rfl
  | k + 5, h => absurd h (by omega)
theorem namedTo_more (S : List Int) (k : Nat) (hk : k < 5) : namedTo (k + 1) S = namedTo k S ++ (if (k : Int) ∈ S then [(k : Int)] else []) := by
  unfold namedTo
  rw [five_more k hk, List.filter_append]
  by_cases h : (k : Int) ∈ S <;> simp [h]
theorem filter_put (p : Int → Bool) (n : Int) (h0 : 0 ≤ n) (h5 : n < 5) : putL ([(0 : Int), 1, 2, 3, 4].filter p) n = [(0 : Int), 1, 2, 3, 4].filter fun x => p x || decide (x = n) := by
  simp only [List.filter]
  rcases (show n = 0 ∨ n = 1 ∨ n = 2 ∨ n = 3 ∨ n = 4 by omega) with rfl | rfl | rfl | rfl | rfl <;>
    (cases p 0 <;> cases p 1 <;> cases p 2 <;> cases p 3 <;> cases p 4 <;> simp [putL])
theorem namedL_put {S : List Int} {n : Int} (h0 : 0 ≤ n) (h5 : n < 5) : putL (namedL S) n = namedL (S ++ [n]) := by
  unfold namedL
  rw [filter_put _ n h0 h5]
  congr 1
  funext x
  by_cases h : x ∈ S <;> simp [h]

/-- Whether each of 0 to 4 is in a list, as cells. -/
def flags (S : List Int) : Array Value := #[.bool (decide ((0 : Int) ∈ S)), .bool (decide ((1 : Int) ∈ S)), .bool (decide ((2 : Int) ∈ S)), .bool (decide ((3 : Int) ∈ S)), .bool (decide ((4 : Int) ∈ S))]
theorem flags_set (S : List Int) : ∀ q : Nat, q < 5 → (flags S).setIfInBounds q (.bool true) = flags (S ++ [(q : Int)])
  | 0, _ => by simp [flags]
  | 1, _ => by simp [flags]
  | 2, _ => by simp [flags]
  | 3, _ => by simp [flags]
  | 4, _ => by simp [flags]
  | q + 5, h => absurd h (by omega)
theorem flags_at (S : List Int) : ∀ q : Nat, q < 5 → (flags S)[q]? = some (.bool (decide ((q : Int) ∈ S)))
  | 0, _ => by simp [flags]
  | 1, _ => by simp [flags]
  | 2, _ => by simp [flags]
  | 3, _ => by simp [flags]
  | 4, _ => by simp [flags]
  | q + 5, h => absurd h (by omega)

theorem pile_known {vars : Int} {ps : List Int} : ∀ {e : List Token} {p m : Int} {q : Int × Int}, pile vars ps e p m = some q → ∀ t ∈ e, known vars ps t
  | [], _, _, _, _, t, ht => by cases ht
  | x :: r, p, m, q, h, t, ht => by
    obtain ⟨h1, _, h3⟩ := pile_cons h
    rcases List.mem_cons.1 ht with rfl | ht
    · exact h1
    · exact pile_known h3 t ht
theorem ge_known {e : List Token} {vars : Int} {ps : List Int} (h : ge e vars ps = true) : ∀ t ∈ e, known vars ps t := by
  unfold ge highAns at h
  split at h
  · rename_i hg
    exact pile_known (high_pos hg.2.2.1.2 hg.2.2.2).1
  · cases h
theorem names_in {f : Fc} {ps : List Int} (h5 : ps.length ≤ 5) (h : shapeB f = true) (he : exprsB f ps = true) : ∀ s ∈ f.stmts, ∀ n ∈ stN s, 0 ≤ n ∧ n < 5 := by
  intro s hs n hn
  simp only [shapeB, Bool.and_eq_true, List.all_eq_true] at h
  have hf := (fieldsB_iff s f.vars).1 (h.1.1.2 s hs)
  simp only [exprsB, List.all_eq_true] at he
  have hx := (exB_iff f.vars ps s).1 (he s hs)
  rcases List.mem_append.1 hn with hn | hn
  · unfold putN at hn
    split at hn
    · rename_i h3
      simp at hn
      have := hf.2.2.2.2.2
      simp only [manyN, h3] at this
      simp at this
      omega
    · cases hn
  · obtain ⟨t, ht, hnt⟩ := List.mem_flatMap.1 hn
    unfold callN at hnt
    split at hnt
    · rename_i h11
      simp at hnt
      subst hnt
      rcases hx with hx | hx
      · have := hf.2.2.2.2.1 hx
        have := List.eq_nil_of_length_eq_zero this
        rw [this] at ht
        cases ht
      · have hk := ge_known hx t ht
        have := kn_call (vars := f.vars) (ps := ps) (op := t.1) (n := t.2) (by unfold knB; exact decide_eq_true hk) h11
        omega
    · cases hnt
theorem names_prog {fs : List Fc} (h : progB fs = true) {f : Fc} (hf : f ∈ fs) : ∀ s ∈ f.stmts, ∀ n ∈ stN s, 0 ≤ n ∧ n < 5 := by
  have h5 := h
  simp only [progB, Bool.and_eq_true, decide_eq_true_eq, List.all_eq_true] at h5
  have hb := h5.2 f hf
  simp only [funcB, Bool.and_eq_true] at hb
  exact names_in (by simp [paramsL]; omega) hb.1 hb.2.1

def callAns (fs : List Fc) (fn : Int) : List Int × Bool := if hasF fs fn then (match fs[fn.toNat]? with | some f => namedL (fnN f) | none => [], true) else ([], false)
theorem callAns_len (fs : List Fc) (fn : Int) : (callAns fs fn).1.length ≤ 1048576 := by
  unfold callAns
  split
  · split
    · have := namedL_length (fnN ‹Fc›); simp only; omega
    · simp
  · simp
theorem flat_more {α β : Type} {g : α → List β} {xs : List α} {k : Nat} {x : α} (h : xs[k]? = some x) : (xs.take (k + 1)).flatMap g = (xs.take k).flatMap g ++ g x := by
  rw [takeA_more h]; simp
theorem mem_callN {s : St} {t : Token} (h : t ∈ s.ex) (h11 : t.1 = 11) : t.2 ∈ stN s := by
  unfold stN
  rw [List.mem_append]
  exact .inr (List.mem_flatMap.2 ⟨t, h, by simp [callN, h11]⟩)
theorem mem_putN {s : St} (h : s.kind = 3) : s.n ∈ stN s := by
  unfold stN
  rw [List.mem_append]
  exact .inl (by simp [putN, h])

end Go.Proofs.Ytfdijeeilfhjeaa

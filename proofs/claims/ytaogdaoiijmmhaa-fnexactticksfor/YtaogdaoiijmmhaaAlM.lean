/-
  A function that is good by itself: plain maths.
-/
import Derived.Test.YtaogdaoiijmmhaaFit
import Derived.Test.YtaogdaoiijmmhaaPEq4
namespace Go.Proofs.Ytaogdaoiijmmhaa
open Go.RowKit Exs

def aloneB (f : Fc) : Bool := shapeB f && fit f 5 []
theorem fit_iff (f : Fc) : ∀ (k : Nat) (ps : List Int), fit f k ps = true ↔ ∃ qs : List Int, qs.length = k ∧ (∀ q ∈ qs, 0 ≤ q ∧ q ≤ 2) ∧ exprsB f (ps ++ qs) = true
  | 0, ps => by
    constructor
    · intro h; exact ⟨[], rfl, by simp, by simpa [fit] using h⟩
    · rintro ⟨qs, h1, _, h3⟩
      obtain rfl := List.eq_nil_of_length_eq_zero h1
      simpa [fit] using h3
  | k + 1, ps => by
    have ih := fun n => fit_iff f k (ps ++ [n])
    simp only [fit, Bool.or_eq_true, ih]
    constructor
    · rintro (⟨qs, h1, h2, h3⟩ | ⟨qs, h1, h2, h3⟩ | ⟨qs, h1, h2, h3⟩)
      · exact ⟨0 :: qs, by simp [h1], by simpa using h2, by simpa using h3⟩
      · exact ⟨1 :: qs, by simp [h1], by simpa using h2, by simpa using h3⟩
      · exact ⟨2 :: qs, by simp [h1], by simpa using h2, by simpa using h3⟩
    · rintro ⟨qs, h1, h2, h3⟩
      cases qs with
      | nil => simp at h1
      | cons q r =>
        have hq := h2 q (by simp)
        have hr : ∀ x ∈ r, 0 ≤ x ∧ x ≤ 2 := fun x hx => h2 x (by simp [hx])
        have hl : r.length = k := by simpa using h1
        rcases (show q = 0 ∨ q = 1 ∨ q = 2 by omega) with rfl | rfl | rfl
        · exact .inl ⟨r, hl, hr, by simpa using h3⟩
        · exact .inr (.inl ⟨r, hl, hr, by simpa using h3⟩)
        · exact .inr (.inr ⟨r, hl, hr, by simpa using h3⟩)

/-- The first k digits of a number to the base three, the least first. -/
def digTo (n k : Nat) : List Int := (List.range k).map fun i => ((n / 3 ^ i % 3 : Nat) : Int)
theorem digTo_more (n k : Nat) : digTo n (k + 1) = digTo n k ++ [((n / 3 ^ k % 3 : Nat) : Int)] := by simp [digTo, List.range_succ]
theorem digTo_length (n k : Nat) : (digTo n k).length = k := by simp [digTo]
theorem digTo_in (n k : Nat) : ∀ x ∈ digTo n k, 0 ≤ x ∧ x ≤ 2 := by
  intro x hx
  obtain ⟨i, _, rfl⟩ := List.mem_map.1 hx
  omega
theorem digTo_five (n : Nat) : digTo n 5 = [((n % 3 : Nat) : Int), ((n / 3 % 3 : Nat) : Int), ((n / 9 % 3 : Nat) : Int), ((n / 27 % 3 : Nat) : Int), ((n / 81 % 3 : Nat) : Int)] := by simp [digTo, List.range_succ]
theorem digTo_all {qs : List Int} (hl : qs.length = 5) (h : ∀ q ∈ qs, 0 ≤ q ∧ q ≤ 2) : ∃ n, n < 243 ∧ digTo n 5 = qs := by
  match qs, hl, h with
  | [a, b, c, d, e], _, h =>
    have ha := h a (by simp)
    have hb := h b (by simp)
    have hc := h c (by simp)
    have hd := h d (by simp)
    have he := h e (by simp)
    refine ⟨(a + 3 * b + 9 * c + 27 * d + 81 * e).toNat, by omega, ?_⟩
    rw [digTo_five]
    refine List.cons_eq_cons.2 ⟨by omega, List.cons_eq_cons.2 ⟨by omega, List.cons_eq_cons.2 ⟨by omega, List.cons_eq_cons.2 ⟨by omega, List.cons_eq_cons.2 ⟨by omega, rfl⟩⟩⟩⟩⟩

theorem func_five (f : Fc) (ps : List Int) (hps : ps.length = 5) : funcP f ps ↔ shapeB f = true ∧ exprsB f ps = true := by
  have hle : ps.length ≤ 5 := by omega
  unfold shapeB exprsB
  simp only [Bool.and_eq_true, List.all_eq_true, decide_eq_true_eq]
  have hsites : (sitesL f).length = manyD f.stmts := sites_many _ _
  constructor
  · rintro ⟨h1, h2, h3, h4, h5⟩
    have hst := fun s hs => (stmt_iff f.vars ps s hle).1 (h5 s hs).1
    refine ⟨⟨⟨⟨h1, fun s hs => (hst s hs).1⟩, by omega⟩, ?_⟩, fun s hs => (hst s hs).2.1⟩
    unfold placesB
    rw [decide_eq_true_eq, places_iff f (fun s hs => fields_loop (hst s hs).1)]
    exact ⟨h2, h4, fun j s hs h8 => (h5 s (mem_of_at hs)).2 h8⟩
  · rintro ⟨⟨⟨⟨h1, h2⟩, h3⟩, h4⟩, h5⟩
    unfold placesB at h4
    rw [decide_eq_true_eq, places_iff f (fun s hs => fields_loop (h2 s hs))] at h4
    obtain ⟨p1, p2, p3⟩ := h4
    refine ⟨h1, p1, by omega, p2, fun s hs => ⟨(stmt_iff f.vars ps s hle).2 ⟨h2 s hs, h5 s hs, fun h => ?_⟩, fun h8 => ?_⟩⟩
    · have := ((fieldsB_iff s f.vars).1 (h2 s hs)).2.2.2.2.2.2
      simp only [manyN, h] at this
      simp at this
      omega
    · obtain ⟨j, hj⟩ := List.getElem?_of_mem hs
      exact p3 j s hj h8

def aloneTo (f : Fc) (k : Nat) : Prop := ∃ n, n < k ∧ funcP f (digTo n 5)
theorem alone_iff (f : Fc) : aloneB f = true ↔ aloneTo f 243 := by
  unfold aloneB aloneTo
  rw [Bool.and_eq_true, fit_iff]
  constructor
  · rintro ⟨h1, qs, h2, h3, h4⟩
    obtain ⟨n, hn, hd⟩ := digTo_all h2 h3
    exact ⟨n, hn, (func_five f _ (digTo_length _ _)).2 ⟨h1, by rw [hd]; simpa using h4⟩⟩
  · rintro ⟨n, _, h⟩
    obtain ⟨h1, h2⟩ := (func_five f _ (digTo_length _ _)).1 h
    exact ⟨h1, digTo n 5, digTo_length _ _, digTo_in _ _, by simpa using h2⟩
theorem alone_no {f : Fc} (h : ¬ aloneTo f 243) : aloneB f = false := by
  cases hb : aloneB f with
  | false => rfl
  | true => exact absurd ((alone_iff f).1 hb) h
theorem alone_head {f : Fc} (h : aloneB f = true) : f.stmts.length ≤ 16 ∧ shapeB f = true := by
  unfold aloneB at h
  rw [Bool.and_eq_true] at h
  have h1 := h.1
  simp only [shapeB, headB, Bool.and_eq_true, decide_eq_true_eq] at h1
  exact ⟨by omega, h.1⟩

end Go.Proofs.Ytaogdaoiijmmhaa

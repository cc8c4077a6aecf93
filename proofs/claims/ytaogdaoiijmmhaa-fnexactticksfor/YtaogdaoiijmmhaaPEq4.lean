/-
  Both GoodProg say the same.
-/
import Derived.Test.YtaogdaoiijmmhaaSpP
import Derived.Test.YtaogdaoiijmmhaaGProg
namespace Go.Proofs.Ytaogdaoiijmmhaa
open Go.RowKit Exs

theorem sites_many : ∀ (ss : List St) (i : Nat), (sitesFrom i ss).length = manyD ss
  | [], _ => rfl
  | s :: r, i => by
    have := sites_many r (i + 1)
    simp only [sitesFrom, manyD]
    split
    · simp only [List.length_cons, this]; omega
    · rw [this]; omega

theorem exB_iff (vars : Int) (ps : List Int) (s : St) : exB vars ps s = true ↔ (s.kind = 3 ∨ s.kind = 6) ∨ ge s.ex vars ps = true := by
  unfold exB
  cases hh : hasEx s with
  | true =>
    have := (hasEx_iff s).1 hh
    simp
    omega
  | false =>
    have : s.kind = 3 ∨ s.kind = 6 := by
      by_cases h3 : s.kind = 3
      · exact .inl h3
      · by_cases h6 : s.kind = 6
        · exact .inr h6
        · rw [(hasEx_iff s).2 ⟨h3, h6⟩] at hh; cases hh
    simp [this]
theorem stmt_iff (vars : Int) (ps : List Int) (s : St) (hps : ps.length ≤ 5) : stmtB vars ps s = true ↔ fieldsB s vars = true ∧ exB vars ps s = true ∧ (s.kind = 3 → s.n < ps.length) := by
  rw [fieldsB_iff, exB_iff]
  unfold stmtB
  rw [decide_eq_true_iff]
  unfold stmtP manyN
  obtain ⟨k, x, ex, th, el⟩ := s
  simp only
  generalize ex.length = a
  generalize th.length = b
  generalize el.length = c
  generalize ps.length = d at hps ⊢
  by_cases hg : ge ex vars ps = true
  · rw [hg]
    simp only [true_and, or_true]
    split
    · omega
    · split <;> omega
  · rw [show ge ex vars ps = false by simpa using hg]
    simp only [Bool.false_eq_true, false_and, and_false, or_false, false_or]
    split
    · omega
    · split <;> omega

theorem fields_loop {s : St} {vars : Int} (h : fieldsB s vars = true) (h8 : s.kind = 8) : s.el = [] := by
  have := (fieldsB_iff s vars).1 h
  cases he : s.el with
  | nil => rfl
  | cons a r => rw [he] at this; simp at this; omega

theorem func_iff (f : Fc) (ps : List Int) (hps : ps.length ≤ 5) : (funcP f ps ∧ ∀ s ∈ f.stmts, freeOk ps s) ↔ funcB ps f = true := by
  unfold funcB shapeB exprsB putsB
  simp only [Bool.and_eq_true, List.all_eq_true, decide_eq_true_eq]
  have hsites : (sitesL f).length = manyD f.stmts := sites_many _ _
  constructor
  · rintro ⟨⟨h1, h2, h3, h4, h5⟩, h6⟩
    have hst := fun s hs => (stmt_iff f.vars ps s hps).1 (h5 s hs).1
    refine ⟨⟨⟨⟨h1, fun s hs => (hst s hs).1⟩, by omega⟩, ?_⟩, fun s hs => (hst s hs).2.1, fun s hs => ?_⟩
    · unfold placesB
      rw [decide_eq_true_eq, places_iff f (fun s hs => fields_loop (hst s hs).1)]
      exact ⟨h2, h4, fun j s hs h8 => (h5 s (mem_of_at hs)).2 h8⟩
    · unfold putB
      rw [decide_eq_true_eq]
      exact fun h => ⟨(hst s hs).2.2 h, h6 s hs h⟩
  · rintro ⟨⟨⟨⟨h1, h2⟩, h3⟩, h4⟩, h5, h6⟩
    unfold placesB at h4
    rw [decide_eq_true_eq, places_iff f (fun s hs => fields_loop (h2 s hs))] at h4
    obtain ⟨p1, p2, p3⟩ := h4
    have hput := fun s hs => by have := h6 s hs; unfold putB at this; rw [decide_eq_true_eq] at this; exact this
    refine ⟨⟨h1, p1, by omega, p2, fun s hs => ⟨(stmt_iff f.vars ps s hps).2 ⟨h2 s hs, h5 s hs, fun h => (hput s hs h).1⟩, fun h8 => ?_⟩⟩, fun s hs h => (hput s hs h).2⟩
    obtain ⟨j, hj⟩ := List.getElem?_of_mem hs
    exact p3 j s hj h8

theorem progS_eq (fs : List Fc) : progS fs = progB fs := by
  rw [Bool.eq_iff_iff, progS_iff]
  unfold progP progB
  simp only [Bool.and_eq_true, decide_eq_true_eq, List.all_eq_true]
  have hlen : (paramsL fs).length = fs.length := by simp [paramsL]
  constructor
  · rintro ⟨h1, h2, h3, h4⟩
    exact ⟨⟨h1, h3⟩, fun f hf => (func_iff f _ (by rw [hlen]; exact h1.2)).1 (h4 f hf)⟩
  · rintro ⟨⟨h1, h3⟩, h4⟩
    refine ⟨h1, ?_, h3, fun f hf => (func_iff f _ (by rw [hlen]; exact h1.2)).2 (h4 f hf)⟩
    rw [parB_iff]
    refine ⟨by rw [hlen]; exact h1.2, fun x hx => ?_⟩
    obtain ⟨f, hf, rfl⟩ := List.mem_map.1 hx
    have := h4 f hf
    simp only [funcB, shapeB, headB, Bool.and_eq_true, decide_eq_true_eq] at this
    omega

end Go.Proofs.Ytaogdaoiijmmhaa

/-
  Plain mathematics: a function of a good program is good by itself.
-/
import Derived.Test.YtfdijeeilfhjeaaAlone
import Derived.Test.YtfdijeeilfhjeaaCalI
namespace Go.Proofs.Ytfdijeeilfhjeaa
open Go.RowKit Exs

theorem needs_more {vars : Int} {ps : List Int} (qs : List Int) {t : Token} (h : Exs.known vars ps t) : needs (ps ++ qs) t = needs ps t := by
  unfold needs
  split
  · rfl
  · split
    · rename_i h11
      have h2 := h.2.2 h11
      by_cases hl : t.2.toNat < ps.length
      · rw [List.getD_eq_getElem?_getD, List.getD_eq_getElem?_getD, List.getElem?_append_left hl]
      · have h3 := h.1
        unfold goodTok at h3
        omega
    · rfl
theorem known_more {vars : Int} {ps : List Int} (qs : List Int) {t : Token} (h : Exs.known vars ps t) : Exs.known vars (ps ++ qs) t :=
  ⟨h.1, h.2.1, fun h11 => by have := h.2.2 h11; rw [List.length_append]; omega⟩
theorem pile_more {vars : Int} {ps : List Int} (qs : List Int) : ∀ (e : List Token) (p m : Int) (q : Int × Int), pile vars ps e p m = some q → pile vars (ps ++ qs) e p m = some q
  | [], _, _, _, h => h
  | t :: r, p, m, q, h => by
    obtain ⟨hk, hn, hr⟩ := pile_cons h
    rw [pile, needs_more qs hk, if_pos ⟨known_more qs hk, hn⟩]
    exact pile_more qs r _ _ q hr
theorem ge_more {ts : List Token} {vars : Int} {ps : List Int} (qs : List Int) (h : ge ts vars ps = true) (hp : okParams (ps ++ qs)) : ge ts vars (ps ++ qs) = true := by
  unfold ge highAns at h ⊢
  split at h
  · rename_i hg
    obtain ⟨h0, h6, hok, hh⟩ := hg
    have hq := (high_pos hok.2 hh)
    have : high vars (ps ++ qs) ts = high vars ps ts := by
      have e := pile_more qs _ _ _ _ hq.1
      conv => lhs; unfold high
      rw [e]
      simp [hq.2.1]
    rw [if_pos ⟨h0, h6, hp, by rw [this]; exact hh⟩]
  · cases h
theorem exprs_more {f : Fc} {ps : List Int} (qs : List Int) (h : exprsB f ps = true) (hp : okParams (ps ++ qs)) : exprsB f (ps ++ qs) = true := by
  unfold exprsB at h ⊢
  rw [List.all_eq_true] at h ⊢
  intro s hs
  have := h s hs
  unfold exB at this ⊢
  rw [Bool.or_eq_true] at this ⊢
  exact this.imp id (fun h => ge_more qs h hp)
theorem prog_alone {fs : List Fc} (h : progB fs = true) {f : Fc} (hf : f ∈ fs) : aloneB f = true := by
  have hS : progS fs = true := by rw [progS_eq]; exact h
  have hP := (progS_iff fs).1 hS
  have hpar := (parB_iff _).1 hP.2.1
  simp only [progB, Bool.and_eq_true, decide_eq_true_eq, List.all_eq_true] at h
  have hfb := h.2 f hf
  simp only [funcB, Bool.and_eq_true] at hfb
  have hlen : (paramsL fs).length ≤ 5 := hpar.1
  unfold aloneB
  rw [Bool.and_eq_true]
  refine ⟨hfb.1, (fit_iff f 5 []).2 ⟨paramsL fs ++ List.replicate (5 - (paramsL fs).length) 0, by simp; omega, ?_, ?_⟩⟩
  · intro q hq
    rcases List.mem_append.1 hq with hq | hq
    · exact hpar.2 q hq
    · have := (List.mem_replicate.1 hq).2; omega
  · rw [List.nil_append]
    refine exprs_more _ hfb.2.1 ⟨by simp; omega, fun q hq => ?_⟩
    rcases List.mem_append.1 hq with hq | hq
    · exact hpar.2 q hq
    · have := (List.mem_replicate.1 hq).2; omega
/-- What is told of a function that is there in a good program. -/
theorem call_told {fs : List Fc} {fn : Int} (h : (callAns fs fn).2 = true) : ∃ (k : Nat) (f : Fc), fn = k ∧ fs[k]? = some f ∧ ordAns f = (run 0 f.stmts.length, true) ∧ siteAns f = (sitesL f, true) ∧ (sitesL f).length ≤ 4 := by
  unfold callAns at h
  split at h
  · rename_i hh
    unfold hasF at hh
    rw [Bool.and_eq_true, decide_eq_true_eq] at hh
    obtain ⟨k, rfl⟩ := Int.eq_ofNat_of_zero_le hh.1.1
    have hk : k < fs.length := by have := hh.1.2; omega
    have hal := prog_alone hh.2 (List.getElem_mem hk)
    have hsh := (alone_head hal).2
    simp only [shapeB, Bool.and_eq_true, decide_eq_true_eq] at hsh
    refine ⟨k, fs[k], rfl, List.getElem?_eq_getElem hk, by unfold ordAns; rw [if_pos hal], by unfold siteAns; rw [if_pos hal], ?_⟩
    rw [show (sitesL fs[k]).length = manyD fs[k].stmts from sites_many _ _]
    exact hsh.1.2
  · cases h
theorem par_told (fs : List Fc) : (parAns fs).2 = progB fs := by
  unfold parAns
  split
  · rename_i h; exact h.symm
  · rename_i h; simp only; exact (Bool.not_eq_true _).mp h |>.symm

end Go.Proofs.Ytfdijeeilfhjeaa

/-
  A code's fault as one plain answer; rows about a place.
-/
import Derived.Test.YtcpjddkhclaafaaDoorRz
import Derived.Test.YtcpjddkhclaafaaDoorHtS
namespace Go.Proofs.YtcpjddkhclaafaaDoor
open Go.RowKit Exs Ht

/-- A place is in a row. -/
def InR (r : Row3) (a : Nat) : Prop := r.1 ≤ (a : Int) ∧ (a : Int) < r.2.1
theorem rowsF_from {many : Nat} : ∀ {rs : List Row3} {a : Int}, rowsF many a rs = true → ∀ r ∈ rs, a ≤ r.1 ∧ r.1 < r.2.1 ∧ r.2.1 ≤ many
  | [], _, _, r, h => by cases h
  | q :: rs, a, h, r, hr => by
    simp only [rowsF, Bool.and_eq_true] at h
    have h1 := of_decide_eq_true h.1
    rcases List.mem_cons.1 hr with rfl | hr
    · exact ⟨h1.1, h1.2.1, h1.2.2.1⟩
    · have := rowsF_from h.2 r hr
      omega
theorem rowsF_one {many : Nat} : ∀ {rs : List Row3} {a : Int}, rowsF many a rs = true → ∀ r ∈ rs, ∀ r' ∈ rs, ∀ p, InR r p → InR r' p → r = r'
  | [], _, _, r, h => by cases h
  | q :: rs, a, h, r, hr => by
    intro r' hr' p hp hp'
    simp only [rowsF, Bool.and_eq_true] at h
    rcases List.mem_cons.1 hr with rfl | hs <;> rcases List.mem_cons.1 hr' with rfl | hs'
    · rfl
    · have := rowsF_from h.2 r' hs'
      unfold InR at hp hp'
      omega
    · have := rowsF_from h.2 r hs
      unfold InR at hp hp'
      omega
    · exact rowsF_one h.2 r hs r' hs' p hp hp'
/-- Where something may be raised there is a row with a pad further on. -/
def raisOk (s : Cd) (hs : List Int) : Prop := ∀ (a : Nat) (t : Token) (g : Int), s.ins[a]? = some t → hs[a]? = some g → 0 ≤ g → raisB t.1 = true → ∃ r ∈ s.rows, InR r a ∧ (a : Int) < r.2.2
/-- The row in which a place is, by its number. -/
def RowAt (rs : List Row3) (a : Nat) (k : Int) : Prop := (∃ (j : Nat) (r : Row3), k = (j : Int) ∧ j < rs.length ∧ rs[j]? = some r ∧ InR r a) ∨ (k = -1 ∧ ∀ r ∈ rs, ¬ InR r a)
open Classical in
/-- What is wrong with a code: 0 for nothing. -/
noncomputable def cdAns (cs : List Cd) (s : Cd) : Int :=
  if namedB cs s = false then 1 else if sitesB cs s = false then 2 else if goesB s = false then 3 else if rowsF s.ins.length 0 s.rows = false then 4 else
  match hts (gr cs s) with
  | none => 5
  | some hs => if raisOk s hs then (if endOk s hs then 0 else 7) else 6
section
variable {cs : List Cd} {s : Cd}
theorem cdAns_1 (h : namedB cs s = false) : cdAns cs s = 1 := by unfold cdAns; rw [if_pos h]
theorem cdAns_2 (h1 : namedB cs s = true) (h : sitesB cs s = false) : cdAns cs s = 2 := by unfold cdAns; rw [if_neg (by rw [h1]; exact Bool.noConfusion), if_pos h]
theorem cdAns_3 (h1 : namedB cs s = true) (h2 : sitesB cs s = true) (h : goesB s = false) : cdAns cs s = 3 := by unfold cdAns; rw [if_neg (by rw [h1]; exact Bool.noConfusion), if_neg (by rw [h2]; exact Bool.noConfusion), if_pos h]
theorem cdAns_4 (h1 : namedB cs s = true) (h2 : sitesB cs s = true) (h3 : goesB s = true) (h : rowsF s.ins.length 0 s.rows = false) : cdAns cs s = 4 := by unfold cdAns; rw [if_neg (by rw [h1]; exact Bool.noConfusion), if_neg (by rw [h2]; exact Bool.noConfusion), if_neg (by rw [h3]; exact Bool.noConfusion), if_pos h]
theorem cdAns_on (h1 : namedB cs s = true) (h2 : sitesB cs s = true) (h3 : goesB s = true) (h4 : rowsF s.ins.length 0 s.rows = true) : (hts (gr cs s) = none → cdAns cs s = 5) ∧ ∀ hs, hts (gr cs s) = some hs → (¬ raisOk s hs → cdAns cs s = 6) ∧ (raisOk s hs → ¬ endOk s hs → cdAns cs s = 7) ∧ (raisOk s hs → endOk s hs → cdAns cs s = 0) := by
  unfold cdAns
  rw [if_neg (by rw [h1]; exact Bool.noConfusion), if_neg (by rw [h2]; exact Bool.noConfusion), if_neg (by rw [h3]; exact Bool.noConfusion), if_neg (by rw [h4]; exact Bool.noConfusion)]
  refine ⟨fun h => by rw [h], fun hs h => ?_⟩
  rw [h]
  refine ⟨fun hr => ?_, fun hr he => ?_, fun hr he => ?_⟩
  · dsimp only
    rw [if_neg hr]
  · dsimp only
    rw [if_pos hr, if_neg he]
  · dsimp only
    rw [if_pos hr, if_pos he]
end
theorem cdAns_zero {cs : List Cd} {s : Cd} (h : cdAns cs s = 0) : namedB cs s = true ∧ sitesB cs s = true ∧ goesB s = true ∧ rowsF s.ins.length 0 s.rows = true ∧ ∃ hs, hts (gr cs s) = some hs := by
  cases h1 : namedB cs s
  · rw [cdAns_1 h1] at h; cases h
  cases h2 : sitesB cs s
  · rw [cdAns_2 h1 h2] at h; cases h
  cases h3 : goesB s
  · rw [cdAns_3 h1 h2 h3] at h; cases h
  cases h4 : rowsF s.ins.length 0 s.rows
  · rw [cdAns_4 h1 h2 h3 h4] at h; cases h
  refine ⟨rfl, rfl, rfl, rfl, ?_⟩
  cases h5 : hts (gr cs s)
  · rw [(cdAns_on h1 h2 h3 h4).1 h5] at h; cases h
  · exact ⟨_, rfl⟩
theorem cdAns_bounds (cs : List Cd) (s : Cd) : 0 ≤ cdAns cs s ∧ cdAns cs s ≤ 7 := by
  unfold cdAns
  repeat' split
  all_goals omega

end Go.Proofs.YtcpjddkhclaafaaDoor

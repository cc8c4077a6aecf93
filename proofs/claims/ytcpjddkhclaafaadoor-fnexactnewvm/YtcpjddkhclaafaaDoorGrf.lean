/-
  A code as a graph; small laws on rows for the walks along its ways.
-/
import Derived.Test.YtcpjddkhclaafaaDoorGc4
import Derived.Test.YtcpjddkhclaafaaDoorHtM
namespace Go.Proofs.YtcpjddkhclaafaaDoor
open Go.RowKit Exs Ht

def tkA (cs : List Cd) (s : Cd) (a : Nat) : Int := match s.ins[a]? with | some t => tkI cs t.1 t.2 | none => 0
def ptA (s : Cd) (a : Nat) : Int := match s.ins[a]? with | some t => kP t.1 | none => 0
def nxA (s : Cd) (a : Nat) : List Nat := match s.ins[a]? with | some t => (nxL t.1 t.2 a).map Int.toNat | none => []
def gr (cs : List Cd) (s : Cd) : Gr := ⟨s.ins.length, tkA cs s, ptA s, nxA s, s.rows.map fun r => r.2.2.toNat⟩

section
variable {cs : List Cd} {s : Cd} {a : Nat} {op x : Int}
theorem gr_tk (h : s.ins[a]? = some (op, x)) : (gr cs s).tk a = tkI cs op x := by simp [gr, tkA, h]
theorem gr_pt (h : s.ins[a]? = some (op, x)) : (gr cs s).pt a = kP op := by simp [gr, ptA, h]
theorem gr_nx (h : s.ins[a]? = some (op, x)) : (gr cs s).nx a = (nxL op x a).map Int.toNat := by simp [gr, nxA, h]
end

theorem kP_is (op : Int) : kP op = 0 ∨ (kP op = 1 ∧ (op = 1 ∨ op = 2 ∨ op = 4 ∨ op = 5 ∨ op = 6 ∨ op = 7)) := by
  unfold kP
  split
  · right; exact ⟨rfl, by assumption⟩
  · left; rfl
theorem kT_is (op : Int) : 0 ≤ kT op ∧ kT op ≤ 2 := by
  unfold kT
  split
  · omega
  · split <;> omega
theorem tkI_is {cs : List Cd} (hp : ∀ c ∈ cs, cdB c = true) (op x : Int) : 0 ≤ tkI cs op x ∧ tkI cs op x ≤ 2 := by
  unfold tkI
  split
  · split
    · rename_i c hc
      have := (cdB_iff c).1 (hp c (List.mem_of_getElem? hc))
      omega
    · omega
  · exact kT_is op
theorem rowsF_mem {many : Nat} : ∀ {rs : List Row3} {a : Int}, rowsF many a rs = true → ∀ r ∈ rs, 0 ≤ r.2.2 ∧ r.2.2 < many
  | [], _, _, r, h => by cases h
  | q :: rs, a, h, r, hr => by
    simp only [rowsF, Bool.and_eq_true] at h
    rcases List.mem_cons.1 hr with rfl | hr
    · have := of_decide_eq_true h.1
      omega
    · exact rowsF_mem h.2 r hr

theorem gr_wf {cs : List Cd} {s : Cd} (hp : ∀ c ∈ cs, cdB c = true) (hi : cdB s = true) (hg : goesB s = true) (hr : rowsF s.ins.length 0 s.rows = true) : Wf (gr cs s) := by
  have hs := (cdB_iff s).1 hi
  refine ⟨by show 0 < s.ins.length; omega, fun a t ha ht => ?_, fun p hp' => ?_, fun a => ?_, fun a => ?_, fun a ha => ?_, fun a => ?_⟩
  · obtain ⟨q, hq⟩ : ∃ q, s.ins[a]? = some q := ⟨_, List.getElem?_eq_getElem ha⟩
    obtain ⟨op, x⟩ := q
    rw [gr_nx hq] at ht
    obtain ⟨y, hy, rfl⟩ := List.mem_map.1 ht
    have h1 := (goesB_iff s).1 hg a _ hq
    have h2 := (within_iff _ _ _).1 (List.all_eq_true.1 h1 y hy)
    show y.toNat < s.ins.length
    omega
  · obtain ⟨r, hr', rfl⟩ := List.mem_map.1 hp'
    have := rowsF_mem hr r hr'
    show r.2.2.toNat < s.ins.length
    omega
  · show 0 ≤ tkA cs s a
    unfold tkA
    split
    · exact (tkI_is hp _ _).1
    · omega
  · show 0 ≤ ptA s a
    unfold ptA
    split
    · rename_i t _; rcases kP_is t.1 with h | ⟨h, _⟩ <;> omega
    · omega
  · obtain ⟨q, hq⟩ : ∃ q, s.ins[a]? = some q := ⟨_, List.getElem?_eq_getElem ha⟩
    obtain ⟨op, x⟩ := q
    rw [gr_pt hq, gr_nx hq]
    rcases kP_is op with h | ⟨h, ho⟩
    · exact .inl h
    · refine .inr ⟨h, ?_⟩
      rw [nxL_on (by omega) (by omega) (by unfold stops; omega)]
      simp
  · show (nxA s a).length ≤ 2
    unfold nxA
    split
    · rw [List.length_map]; exact nxL_length _ _ _
    · simp

/-- A place of a row is written over. -/
theorem Room.set {w : World} {g : Nat} {t : TypeId} {c : Nat} {k : IntKind} {xs : List Int} (h : Room w g t c k xs) {i : Nat} (hc : xs.length ≤ c) (v : Int) : Room (w.setCell ⟨g, i, none⟩ (.int k v)) g t c k (xs.set i v) := by
  obtain ⟨cs, h1, h2, h3⟩ := h
  refine ⟨cs.setIfInBounds i (.int k v), by simp [World.setCell, Array.getElem?_modify, h1], by simpa using h2, ?_⟩
  apply List.ext_getElem?
  intro j
  have e4 : (cs.toList.take xs.length)[j]? = (xs.map (Value.int k))[j]? := by rw [h3]
  simp only [List.getElem?_take, List.length_set, Array.toList_setIfInBounds, List.getElem?_set, List.map_set, List.length_map, Array.length_toList] at e4 ⊢
  by_cases hj : j < xs.length
  · rw [if_pos hj] at e4 ⊢
    by_cases hij : i = j
    · subst hij
      rw [if_pos rfl, if_pos rfl, if_pos (by omega), if_pos hj]
    · rw [if_neg hij, if_neg hij]
      exact e4
  · rw [if_neg hj]
    by_cases hij : i = j
    · subst hij
      rw [if_pos rfl, if_neg hj]
    · rw [if_neg hij, List.getElem?_eq_none (by simp; omega)]
theorem Room.at {w : World} {g : Nat} {t : TypeId} {c : Nat} {k : IntKind} {xs : List Int} (h : Room w g t c k xs) {j : Nat} {x : Int} (hx : xs[j]? = some x) : w.cell? ⟨g, j, none⟩ = some (.int k x) := by
  have hj := (List.getElem?_eq_some_iff.1 hx).1
  rw [h.cell j hj]
  simp [List.getD, hx]
/-- A row in other blocks stays. -/
theorem Nums.other {w : World} {B g i : Nat} {e : TypeId} {k : IntKind} {v u : Value} {xs : List Int} (h : Nums w B e k v xs) (hg : g < B) : Nums (w.setCell ⟨g, i, none⟩ u) B e k v xs := by
  obtain ⟨h1, h2⟩ := h
  refine ⟨h1, ?_⟩
  rcases h2 with h2 | ⟨g', cap, cur, hv, hg', hh, r⟩
  · exact Or.inl h2
  · exact Or.inr ⟨g', cap, cur, hv, hg', (Below.heap_setCell _ _ _ _ (show g' ≠ g by omega)).trans hh, r⟩
def ints (l : List Nat) : List Int := l.map fun n : Nat => (n : Int)
theorem ints_snoc (l : List Nat) (n : Nat) : ints (l ++ [n]) = ints l ++ [(n : Int)] := by simp [ints]
theorem ints_length (l : List Nat) : (ints l).length = l.length := by simp [ints]
theorem ints_at {l : List Nat} {k : Nat} {x : Int} (h : (ints l)[k]? = some x) : ∃ n : Nat, x = (n : Int) ∧ l[k]? = some n := by
  simp [ints] at h
  obtain ⟨n, h1, h2⟩ := h
  exact ⟨n, h2.symm, h1⟩
theorem toNat_at {l : List Int} {k : Nat} {x : Int} (h : l[k]? = some x) : (l.map Int.toNat)[k]? = some x.toNat := by simp [h]

end Go.Proofs.YtcpjddkhclaafaaDoor

/-
  A row of numbers of the call's own: the laws' marks on it, what a marked program leaves of it. Contracts.
-/
import Derived.Test.YtaogdaoiijmmhaaInk2
namespace Go.Proofs.Ytaogdaoiijmmhaa
open Go.RowKit Exs

/-- The numbers 1, 2, .. -/
def ups (n : Nat) : List Int := (List.range n).map fun j => ((j + 1 : Nat) : Int)
theorem ups_more (n : Nat) : ups (n + 1) = ups n ++ [(n : Int) + 1] := by simp [ups, List.range_succ]
theorem ups_length (n : Nat) : (ups n).length = n := by simp [ups]
theorem ups_get {n i : Nat} (h : i < n) : (ups n).getD i 0 = (i : Int) + 1 := by
  simp [ups, List.getD, h]
theorem Room.none_ {w : World} {g : Nat} {t : TypeId} {c : Nat} {k : IntKind} {xs : List Int} (h : Room w g t c k xs) : Room w g t c k [] := by
  obtain ⟨cs, h1, h2, _⟩ := h
  exact ⟨cs, h1, h2, rfl⟩

theorem Nums.of_room {w : World} {B g : Nat} {t : TypeId} {c : Nat} {k : IntKind} {xs : List Int} (h : Room w g t c k xs) (hB : B ≤ g) (hl : xs.length ≤ c) (hc : c ≤ maxLen) : Nums w B t k (.slice (some ⟨g, 0, none⟩) xs.length c) xs := by
  obtain ⟨cs, h1, h2, h3⟩ := h
  exact ⟨by simp, .inr ⟨g, c, cs, rfl, hB, h1, hl, hc, by simpa using h2, by simpa using h3⟩⟩
theorem Nums.to_room {w : World} {B : Nat} {t : TypeId} {k : IntKind} {v : Value} {xs : List Int} (h : Nums w B t k v xs) : (v = .slice none 0 0 ∧ xs = []) ∨ ∃ g c, v = .slice (some ⟨g, 0, none⟩) xs.length c ∧ B ≤ g ∧ Room w g t c k xs ∧ xs.length ≤ c ∧ c ≤ maxLen := by
  rcases h.2 with ⟨rfl, hn⟩ | ⟨g, cap, cur, rfl, hB, hg, hnc, hm, hcs, htk⟩
  · exact .inl ⟨rfl, List.eq_nil_of_length_eq_zero hn⟩
  · exact .inr ⟨g, cap, rfl, hB, ⟨cur, hg, by simpa using hcs, by simpa using htk⟩, hnc, hm⟩
theorem Nums.inked {w w' : World} {B L R : Nat} {t : TypeId} {k : IntKind} {v : Value} {xs : List Int} (h : Nums w B t k v xs) (hR : R ≤ B) (hi : Inked L R w w') : Nums w' B t k v xs := by
  obtain ⟨h1, h2⟩ := h
  refine ⟨h1, ?_⟩
  rcases h2 with h2 | ⟨g, cap, cur, hv, hg, hh, r⟩
  · exact Or.inl h2
  · exact Or.inr ⟨g, cap, cur, hv, hg, (hi.above g (by omega) (Array.getElem?_eq_some_iff.1 hh).1).trans hh, r⟩

/-- Rows of one list are the same for the laws' comparing. -/
theorem eqNums_any (v v' : Value) (xs : List Int) (B B' : Nat) (w : World) (h : Nums w B 3 .i64 v xs) (h' : Nums w B' 3 .i64 v' xs) (hn : xs.length ≤ 1048576) :
    Calls Try.prog 17 #[v, v'] w fun e w' => e = .returned (.bool true) ∧ ∃ q, w' = w.drewN q := by
  obtain ⟨A, c, rfl, hr⟩ := h.reads
  obtain ⟨A', c', rfl, hr'⟩ := h'.reads
  exact eqInts_same A A' _ c c' xs w hr hr' hn
theorem Nums.drewN {w : World} {B : Nat} {t : TypeId} {k : IntKind} {v : Value} {xs : List Int} (h : Nums w B t k v xs) (q : Nat) : Nums (w.drewN q) B t k v xs := h
/-- A row that lies below L, while all below L stays. -/
theorem Nums.under {w w' : World} {B L : Nat} {t : TypeId} {k : IntKind} {v : Value} {xs : List Int} (h : Nums w B t k v xs) (hL : w.heap.size ≤ L) (hb : Below L w w') : Nums w' B t k v xs := h.belowNew (hb.mono hL)

end Go.Proofs.Ytaogdaoiijmmhaa

/-
  Rows of a code, plainly: which are good, the row of a place, neighbours joined, the bytes of rows and back. No program.
-/
import Derived.Test.YtkfdehmmhgcapaaCod
import Derived.Test.YtkfdehmmhgcapaaBack
namespace Go.Proofs.Ytkfdehmmhgcapaa
open Go.RowKit Exs Leb

theorem no_of {b : Bool} (h : b = true → False) : b = false := by cases b <;> simp_all

/-- Rows one behind the other. -/
def rowB (many : Nat) (at_ : Int) (r : Row3) : Bool := decide (at_ ≤ r.1 ∧ r.1 < r.2.1 ∧ r.2.1 ≤ many ∧ 0 ≤ r.2.2 ∧ r.2.2 < many)
theorem rowB_iff {many : Nat} {a : Int} {r : Row3} : rowB many a r = true ↔ (a ≤ r.1 ∧ r.1 < r.2.1 ∧ r.2.1 ≤ many ∧ 0 ≤ r.2.2 ∧ r.2.2 < many) := by unfold rowB; exact decide_eq_true_iff
def rowsF (many : Nat) : Int → List Row3 → Bool
  | _, [] => true
  | a, r :: rs => rowB many a r && rowsF many r.2.1 rs
def lastTo (a : Int) : List Row3 → Int
  | [] => a
  | r :: rs => lastTo r.2.1 rs
theorem rowsF_snoc (many : Nat) (r : Row3) : ∀ (rs : List Row3) (a : Int), rowsF many a (rs ++ [r]) = (rowsF many a rs && rowB many (lastTo a rs) r)
  | [], a => by simp [rowsF, lastTo]
  | q :: rs, a => by simp [rowsF, lastTo, rowsF_snoc many r rs, Bool.and_assoc]
theorem lastTo_snoc (r : Row3) : ∀ (rs : List Row3) (a : Int), lastTo a (rs ++ [r]) = r.2.1
  | [], a => rfl
  | q :: rs, a => by simp [lastTo, lastTo_snoc r rs]
theorem rowsF_append (many : Nat) (q : List Row3) : ∀ (rs : List Row3) (a : Int), rowsF many a (rs ++ q) = true → rowsF many a rs = true
  | [], a, _ => rfl
  | r :: rs, a, h => by
    simp only [List.cons_append, rowsF, Bool.and_eq_true] at h ⊢
    exact ⟨h.1, rowsF_append many q rs _ h.2⟩
theorem rowsF_no {many : Nat} {rs : List Row3} {k : Nat} {r : Row3} {a : Int} (h : rs[k]? = some r) (hb : rowB many (lastTo a (rs.take k)) r = false) : rowsF many a rs = false := no_of fun ht => by
  rw [← List.take_append_drop (k + 1) rs] at ht
  have := rowsF_append _ _ _ _ ht
  rw [takeA_more h, rowsF_snoc, hb] at this
  simp at this
theorem rowsF_take {many : Nat} {rs : List Row3} {a : Int} (h : rowsF many a rs = true) (k : Nat) : rowsF many a (rs.take k) = true := by
  rw [← List.take_append_drop k rs] at h
  exact rowsF_append _ _ _ _ h
theorem rowsF_at {many : Nat} {rs : List Row3} {a : Int} {k : Nat} {r : Row3} (h : rowsF many a rs = true) (hk : rs[k]? = some r) : rowB many (lastTo a (rs.take k)) r = true := by
  cases hb : rowB many (lastTo a (rs.take k)) r
  · rw [rowsF_no hk hb] at h; cases h
  · rfl
theorem rowsF_from {many : Nat} : ∀ {rs : List Row3} {a : Int}, rowsF many a rs = true → ∀ r ∈ rs, a ≤ r.1 ∧ r.1 < r.2.1 ∧ r.2.1 ≤ many ∧ 0 ≤ r.2.2 ∧ r.2.2 < many
  | [], _, _ => fun _ h => by cases h
  | q :: rs, a, h => by
    simp only [rowsF, Bool.and_eq_true, rowB_iff] at h
    intro r hr
    rcases List.mem_cons.1 hr with rfl | hr
    · exact h.1
    · have := rowsF_from h.2 r hr
      omega
theorem lastTo_bounds {many : Nat} : ∀ {rs : List Row3} {a : Int}, rowsF many a rs = true → a ≤ many → a ≤ lastTo a rs ∧ lastTo a rs ≤ many
  | [], a, _, h => ⟨Int.le_refl _, h⟩
  | q :: rs, a, h, _ => by
    simp only [rowsF, Bool.and_eq_true, rowB_iff] at h
    have := lastTo_bounds h.2 h.1.2.2.1
    simp only [lastTo]
    omega
theorem rowsF_length {many : Nat} : ∀ {rs : List Row3} {a : Int}, rowsF many a rs = true → a ≤ many → a + rs.length ≤ many
  | [], a, _, h => by simpa using h
  | q :: rs, a, h, _ => by
    simp only [rowsF, Bool.and_eq_true, rowB_iff] at h
    have := rowsF_length h.2 h.1.2.2.1
    simp only [List.length_cons, Int.natCast_add]
    omega

/-- Rows that are good in a code of so many instructions. -/
def goodB (many : Int) (rs : List Row3) : Bool := decide (1 ≤ many ∧ many ≤ 300) && rowsF many.toNat 0 rs
theorem goodB_iff {many : Int} {rs : List Row3} : goodB many rs = true ↔ (1 ≤ many ∧ many ≤ 300) ∧ rowsF many.toNat 0 rs = true := by simp [goodB]
theorem goodB_length {many : Int} {rs : List Row3} (h : goodB many rs = true) : rs.length ≤ 300 := by
  obtain ⟨⟨h1, h2⟩, h3⟩ := goodB_iff.1 h
  have := rowsF_length h3 (by omega)
  omega
theorem goodB_out {many : Int} {rs : List Row3} (h : ¬ (1 ≤ many ∧ many ≤ 300)) : goodB many rs = false := no_of fun h' => h (goodB_iff.1 h').1
theorem goodB_long {many : Int} {rs : List Row3} (h : 300 < rs.length) : goodB many rs = false := no_of fun h' => by have := goodB_length h'; omega
theorem goodB_in {many : Int} {m : Nat} {rs : List Row3} (hm : many = m) (h : 1 ≤ many ∧ many ≤ 300) : goodB many rs = rowsF m 0 rs := by
  subst hm; simp [goodB]; omega

/-! The row of a place. -/
def InR (r : Row3) (a : Int) : Prop := r.1 ≤ a ∧ a < r.2.1
instance (r : Row3) (a : Int) : Decidable (InR r a) := by unfold InR; infer_instance
def ixOf (a : Int) : List Row3 → Nat → Int
  | [], _ => -1
  | r :: rs, k => if InR r a then (k : Int) else ixOf a rs (k + 1)
theorem ixOf_hit {a : Int} {r : Row3} : ∀ {rs : List Row3} {k j : Nat}, rs[k]? = some r → InR r a → (∀ q ∈ rs.take k, ¬ InR q a) → ixOf a rs j = ((j + k : Nat) : Int)
  | [], _, _, h, _, _ => by simp at h
  | q :: rs, 0, j, h, hi, _ => by simp at h; subst h; simp [ixOf, hi]
  | q :: rs, k + 1, j, h, hi, hn => by
    have h0 : ¬ InR q a := hn q (by simp)
    rw [ixOf, if_neg h0, ixOf_hit (rs := rs) (k := k) (by simpa using h) hi fun p hp => hn p (by simp [hp])]
    omega
theorem ixOf_none {a : Int} : ∀ {rs : List Row3} {j : Nat}, (∀ q ∈ rs, ¬ InR q a) → ixOf a rs j = -1
  | [], _, _ => rfl
  | q :: rs, j, h => by rw [ixOf, if_neg (h q (by simp)), ixOf_none fun p hp => h p (by simp [hp])]
theorem ixOf_cases (a : Int) (rs : List Row3) : (∃ (k : Nat) (r : Row3), ixOf a rs 0 = k ∧ rs[k]? = some r ∧ InR r a) ∨ (ixOf a rs 0 = -1 ∧ ∀ q ∈ rs, ¬ InR q a) := by
  have key : ∀ (rs : List Row3) (j : Nat), (∃ (k : Nat) (r : Row3), ixOf a rs j = ((j + k : Nat) : Int) ∧ rs[k]? = some r ∧ InR r a) ∨ (ixOf a rs j = -1 ∧ ∀ q ∈ rs, ¬ InR q a) := by
    intro rs
    induction rs with
    | nil => exact fun j => .inr ⟨rfl, by simp⟩
    | cons q rs ih =>
      intro j
      by_cases h : InR q a
      · exact .inl ⟨0, q, by simp [ixOf, h], rfl, h⟩
      · rcases ih (j + 1) with ⟨k, r, h1, h2, h3⟩ | ⟨h1, h2⟩
        · exact .inl ⟨k + 1, r, by rw [ixOf, if_neg h, h1]; congr 1; omega, by simpa using h2, h3⟩
        · refine .inr ⟨by rw [ixOf, if_neg h, h1], fun p hp => ?_⟩
          rcases List.mem_cons.1 hp with rfl | hp
          · exact h
          · exact h2 p hp
  rcases key rs 0 with ⟨k, r, h1, h2, h3⟩ | h
  · exact .inl ⟨k, r, by simpa using h1, h2, h3⟩
  · exact .inr h
theorem none_more {a : Int} {rs : List Row3} {k : Nat} {r : Row3} (h : rs[k]? = some r) (hr : ¬ InR r a) (hn : ∀ q ∈ rs.take k, ¬ InR q a) : ∀ q ∈ rs.take (k + 1), ¬ InR q a := by
  intro q hq
  rw [takeA_more h] at hq
  rcases List.mem_append.1 hq with hq | hq
  · exact hn q hq
  · simp at hq; subst hq; exact hr

/-- What PadFor answers. -/
def padAns (many : Int) (rs : List Row3) (a : Int) : Int × Bool := if goodB many rs = true then (match rs[(ixOf a rs 0).toNat]? with | some r => if 0 ≤ ixOf a rs 0 then (r.2.2, true) else (0, false) | none => (0, false)) else (0, false)
theorem padAns_bad {many : Int} {rs : List Row3} {a : Int} (h : goodB many rs = false) : padAns many rs a = (0, false) := by simp [padAns, h]
theorem padAns_none {many : Int} {rs : List Row3} {a : Int} (h : ixOf a rs 0 < 0) : padAns many rs a = (0, false) := by
  unfold padAns
  split
  · split
    · rw [if_neg (by omega)]
    · rfl
  · rfl
theorem padAns_hit {many : Int} {rs : List Row3} {a : Int} {k : Nat} {r : Row3} (hg : goodB many rs = true) (h : ixOf a rs 0 = k) (hr : rs[k]? = some r) : padAns many rs a = (r.2.2, true) := by
  unfold padAns
  rw [if_pos hg, h, Int.toNat_natCast, hr]
  simp
theorem ixOf_within {many : Int} {rs : List Row3} {a : Int} (hg : goodB many rs = true) (h : 0 ≤ ixOf a rs 0) : 0 ≤ a ∧ a ≤ many - 1 := by
  rcases ixOf_cases a rs with ⟨k, r, h1, h2, h3⟩ | ⟨h1, _⟩
  · have := rowsF_from (goodB_iff.1 hg).2 r (mem_of_at h2)
    have := (goodB_iff.1 hg).1
    unfold InR at h3
    omega
  · omega

/-- The row of each place. -/
def coverL (rs : List Row3) (m : Nat) : List Int := (List.range m).map fun (a : Nat) => ixOf a rs 0
theorem coverL_more (rs : List Row3) (m : Nat) : coverL rs (m + 1) = coverL rs m ++ [ixOf m rs 0] := by simp [coverL, List.range_succ]
theorem coverL_length (rs : List Row3) (m : Nat) : (coverL rs m).length = m := by simp [coverL]
def coverAns (many : Int) (rs : List Row3) : List Int × Bool := if goodB many rs = true then (coverL rs many.toNat, true) else ([], false)
theorem coverAns_length {many : Int} {rs : List Row3} : (coverAns many rs).1.length ≤ 300 := by
  unfold coverAns
  split
  · rename_i h; have := (goodB_iff.1 h).1; rw [coverL_length]; omega
  · simp

/-! Neighbours joined. -/
def joinS (out : List Row3) (r : Row3) : List Row3 := match out.getLast? with
  | some q => if q.2.1 = r.1 ∧ q.2.2 = r.2.2 then out.dropLast ++ [(q.1, r.2.1, q.2.2)] else out ++ [r]
  | none => out ++ [r]
def joinL (rs : List Row3) : List Row3 := rs.foldl joinS []
theorem joinL_more {rs : List Row3} {k : Nat} {r : Row3} (h : rs[k]? = some r) : joinL (rs.take (k + 1)) = joinS (joinL (rs.take k)) r := by
  unfold joinL
  rw [takeA_more h, List.foldl_append]
  rfl
theorem joinS_nil (r : Row3) : joinS [] r = [r] := rfl
theorem joinS_yes {ys : List Row3} {q r : Row3} (h : q.2.1 = r.1 ∧ q.2.2 = r.2.2) : joinS (ys ++ [q]) r = ys ++ [(q.1, r.2.1, q.2.2)] := by
  unfold joinS; rw [List.getLast?_concat]; simp only; rw [if_pos h, List.dropLast_concat]
theorem joinS_no {ys : List Row3} {q r : Row3} (h : ¬ (q.2.1 = r.1 ∧ q.2.2 = r.2.2)) : joinS (ys ++ [q]) r = ys ++ [q] ++ [r] := by
  unfold joinS; rw [List.getLast?_concat]; simp only; rw [if_neg h]
theorem joinS_length (out : List Row3) (r : Row3) : (joinS out r).length ≤ out.length + 1 := by
  rcases List.eq_nil_or_concat out with rfl | ⟨ys, q, rfl⟩
  · simp [joinS_nil]
  · by_cases h : q.2.1 = r.1 ∧ q.2.2 = r.2.2
    · rw [List.concat_eq_append, joinS_yes h]; simp
    · rw [List.concat_eq_append, joinS_no h]; simp
theorem joinL_length (rs : List Row3) : (joinL rs).length ≤ rs.length := by
  have key : ∀ (rs out : List Row3), (rs.foldl joinS out).length ≤ out.length + rs.length := by
    intro rs
    induction rs with
    | nil => simp
    | cons r rs ih => intro out; have := ih (joinS out r); have := joinS_length out r; simp only [List.foldl_cons, List.length_cons]; omega
  simpa [joinL] using key rs []
def joinAns (many : Int) (rs : List Row3) : List Row3 × Bool := if goodB many rs = true then (joinL rs, true) else ([], false)
theorem joinAns_length {many : Int} {rs : List Row3} : (joinAns many rs).1.length ≤ 300 := by
  unfold joinAns
  split
  · rename_i h; have := goodB_length h; have := joinL_length rs; simp; omega
  · simp

/-! The bytes of rows. -/
def pieceR (a : Int) (r : Row3) : List Int := putU (r.1 - a).toNat ++ putU (r.2.1 - r.1).toNat ++ putS (r.2.2 - r.2.1)
def piecesR (a : Int) : List Row3 → List Int
  | [] => []
  | r :: rs => pieceR a r ++ piecesR r.2.1 rs
theorem piecesR_snoc (r : Row3) : ∀ (rs : List Row3) (a : Int), piecesR a (rs ++ [r]) = piecesR a rs ++ pieceR (lastTo a rs) r
  | [], a => by simp [piecesR, lastTo]
  | q :: rs, a => by simp [piecesR, lastTo, piecesR_snoc r rs]
def bytesR (rs : List Row3) : List Int := putU rs.length ++ piecesR 0 rs
theorem bytesTo_more {rs : List Row3} {k : Nat} {r : Row3} (h : rs[k]? = some r) : putU rs.length ++ piecesR 0 (rs.take (k + 1)) = putU rs.length ++ piecesR 0 (rs.take k) ++ pieceR (lastTo 0 (rs.take k)) r := by
  rw [takeA_more h, piecesR_snoc, List.append_assoc]
theorem pieceR_length {many : Nat} {a : Int} {r : Row3} (h : rowB many a r = true) (ha : 0 ≤ a) (hm : many ≤ 300) : (pieceR a r).length ≤ 6 := by
  have h := rowB_iff.1 h
  have h1 := putU_length_le 1 (r.1 - a).toNat (by omega)
  have h2 := putU_length_le 1 (r.2.1 - r.1).toNat (by omega)
  have h3 := putS_length_le 1 (r.2.2 - r.2.1) (by omega) (by omega)
  simp only [pieceR, List.length_append]
  omega
theorem piecesR_length {many : Nat} (hm : many ≤ 300) : ∀ {rs : List Row3} {a : Int}, rowsF many a rs = true → 0 ≤ a → (piecesR a rs).length ≤ 6 * rs.length
  | [], _, _, _ => by simp [piecesR]
  | r :: rs, a, h, ha => by
    simp only [rowsF, Bool.and_eq_true] at h
    have h0 := pieceR_length h.1 ha hm
    have h1 := rowB_iff.1 h.1
    have := piecesR_length hm h.2 (by omega)
    simp only [piecesR, List.length_append, List.length_cons]
    omega
theorem bytesTo_length {many : Nat} {rs : List Row3} (hm : many ≤ 300) (h : rowsF many 0 rs = true) (k : Nat) : (putU rs.length ++ piecesR 0 (rs.take k)).length ≤ 1802 := by
  have h0 := rowsF_length h (by omega)
  have h1 := piecesR_length hm (rowsF_take h k) (Int.le_refl _)
  have h2 := putU_length_le 1 rs.length (by omega)
  have h3 : (rs.take k).length ≤ rs.length := by rw [List.length_take]; omega
  simp only [List.length_append]
  omega
theorem bytesR_length {many : Int} {rs : List Row3} (h : goodB many rs = true) : (bytesR rs).length ≤ 1802 := by
  have h1 := goodB_iff.1 h
  have := bytesTo_length (k := rs.length) (by omega) h1.2
  rwa [List.take_length] at this
theorem pieceR_range (a : Int) (r : Row3) : ∀ x ∈ pieceR a r, 0 ≤ x ∧ x ≤ 255 := by
  intro x hx
  simp only [pieceR, List.mem_append] at hx
  rcases hx with (hx | hx) | hx
  · exact putU_range _ x hx
  · exact putU_range _ x hx
  · exact (shape_putS _).range x hx
theorem piecesR_range : ∀ (rs : List Row3) (a : Int), ∀ x ∈ piecesR a rs, 0 ≤ x ∧ x ≤ 255
  | [], _, x, hx => by simp [piecesR] at hx
  | r :: rs, a, x, hx => by
    simp only [piecesR, List.mem_append] at hx
    rcases hx with hx | hx
    · exact pieceR_range a r x hx
    · exact piecesR_range rs _ x hx
def bytesAns (many : Int) (rs : List Row3) : List Int × Bool := if goodB many rs = true then (bytesR rs, true) else ([], false)

/-! Rows read. -/
abbrev Gap := Int × Int × Int
/-- A number, or one that is too great for a row. -/
def smallR (n : Int) : Int := if 1000000 < n then 2000000 else n
def padR (n : Int) : Int := if -1000000 ≤ n ∧ n ≤ 1000000 then n else -2000000
/-- A row as the reference reads it, as the program reads it. -/
def rowS (a : Int) (g : Gap) : Row3 := let f := min 2000000 (a + smallR g.1); let t := min 4000000 (f + smallR g.2.1); (f, t, t + padR g.2.2)
def rowI (a : Int) (g : Gap) : Row3 := let f := a + min g.1 1000001; let t := f + min g.2.1 1000001; (f, t, t + max (min g.2.2 1000001) (-1000001))
def rowsS : Int → List Gap → List Row3
  | _, [] => []
  | a, g :: gs => rowS a g :: rowsS (rowS a g).2.1 gs
def rowsI : Int → List Gap → List Row3
  | _, [] => []
  | a, g :: gs => rowI a g :: rowsI (rowI a g).2.1 gs
theorem rowsS_snoc (g : Gap) : ∀ (gs : List Gap) (a : Int), rowsS a (gs ++ [g]) = rowsS a gs ++ [rowS (lastTo a (rowsS a gs)) g]
  | [], a => rfl
  | q :: gs, a => by simp [rowsS, lastTo, rowsS_snoc g gs]
theorem rowsI_snoc (g : Gap) : ∀ (gs : List Gap) (a : Int), rowsI a (gs ++ [g]) = rowsI a gs ++ [rowI (lastTo a (rowsI a gs)) g]
  | [], a => rfl
  | q :: gs, a => by simp [rowsI, lastTo, rowsI_snoc g gs]
theorem rowsS_length : ∀ (gs : List Gap) (a : Int), (rowsS a gs).length = gs.length
  | [], _ => rfl
  | g :: gs, a => by simp [rowsS, rowsS_length gs]
theorem rowsI_length : ∀ (gs : List Gap) (a : Int), (rowsI a gs).length = gs.length
  | [], _ => rfl
  | g :: gs, a => by simp [rowsI, rowsI_length gs]
def GapOk (g : Gap) : Prop := 0 ≤ g.1 ∧ 0 ≤ g.2.1
theorem row_same {m : Nat} {a : Int} {g : Gap} (h0 : 0 ≤ a) (h1 : a ≤ m) (hm : m ≤ 300) (hg : GapOk g) : rowS a g = rowI a g ∨ (rowB m a (rowS a g) = false ∧ rowB m a (rowI a g) = false) := by
  obtain ⟨x, y, z⟩ := g
  obtain ⟨hx, hy⟩ := hg
  simp only at hx hy
  by_cases c1 : x ≤ 1000000
  · by_cases c2 : y ≤ 1000000
    · by_cases c3 : -1000000 ≤ z ∧ z ≤ 1000000
      · left
        simp only [rowS, rowI, smallR, padR, if_pos c3, if_neg (show ¬ 1000000 < x by omega), if_neg (show ¬ 1000000 < y by omega), Prod.mk.injEq]
        omega
      · right
        refine ⟨no_of fun h => ?_, no_of fun h => ?_⟩
        · have h := rowB_iff.1 h
          simp only [rowS, smallR, padR, if_neg c3, if_neg (show ¬ 1000000 < x by omega), if_neg (show ¬ 1000000 < y by omega)] at h
          omega
        · have h := rowB_iff.1 h
          simp only [rowI] at h
          omega
    · right
      refine ⟨no_of fun h => ?_, no_of fun h => ?_⟩
      · have h := rowB_iff.1 h
        simp only [rowS, smallR, if_neg (show ¬ 1000000 < x by omega), if_pos (show 1000000 < y by omega)] at h
        omega
      · have h := rowB_iff.1 h
        simp only [rowI] at h
        omega
  · right
    refine ⟨no_of fun h => ?_, no_of fun h => ?_⟩
    · have h := rowB_iff.1 h
      simp only [rowS, smallR, if_pos (show 1000000 < x by omega)] at h
      split at h <;> omega
    · have h := rowB_iff.1 h
      simp only [rowI] at h
      omega
theorem rows_same {m : Nat} (hm : m ≤ 300) : ∀ {gs : List Gap} {a : Int}, 0 ≤ a → a ≤ m → (∀ g ∈ gs, GapOk g) → rowsF m a (rowsS a gs) = rowsF m a (rowsI a gs) ∧ (rowsF m a (rowsS a gs) = true → rowsS a gs = rowsI a gs)
  | [], _, _, _, _ => ⟨rfl, fun _ => rfl⟩
  | g :: gs, a, h0, h1, hg => by
    rcases row_same h0 h1 hm (hg g (by simp)) with h | ⟨h, h'⟩
    · cases hb : rowB m a (rowS a g)
      · simp [rowsS, rowsI, rowsF, ← h, hb]
      · have hh := rowB_iff.1 hb
        have ih := rows_same hm (gs := gs) (a := (rowS a g).2.1) (by omega) (by omega) fun p hp => hg p (by simp [hp])
        simp only [rowsS, rowsI, rowsF, ← h, hb, Bool.true_and]
        exact ⟨ih.1, fun ht => by rw [ih.2 ht]⟩
    · simp [rowsS, rowsI, rowsF, h, h']
/-- How great what is read can come to be. -/
theorem rowI_bound {g : Gap} {a : Int} (hg : GapOk g) (_ : 0 ≤ a) : a ≤ (rowI a g).1 ∧ (rowI a g).1 ≤ a + 1000001 ∧ (rowI a g).1 ≤ (rowI a g).2.1 ∧ (rowI a g).2.1 ≤ a + 2000002 := by
  obtain ⟨x, y, z⟩ := g
  obtain ⟨h1, h2⟩ := hg
  simp only at h1 h2
  simp only [rowI]
  omega
theorem rowS_bound {g : Gap} {a : Int} (hg : GapOk g) (_ : 0 ≤ a) : 0 ≤ (rowS a g).1 ∧ (rowS a g).1 ≤ 2000000 ∧ 0 ≤ (rowS a g).2.1 ∧ (rowS a g).2.1 ≤ 4000000 := by
  obtain ⟨x, y, z⟩ := g
  obtain ⟨h1, h2⟩ := hg
  simp only at h1 h2
  simp only [rowS, smallR]
  split <;> split <;> omega
theorem lastI_bound : ∀ {gs : List Gap} {a : Int}, (∀ g ∈ gs, GapOk g) → 0 ≤ a → 0 ≤ lastTo a (rowsI a gs) ∧ lastTo a (rowsI a gs) ≤ a + 2000002 * gs.length
  | [], a, _, h => by simp [rowsI, lastTo, h]
  | g :: gs, a, hg, h => by
    have h1 := rowI_bound (hg g (by simp)) h
    have h2 := lastI_bound (gs := gs) (a := (rowI a g).2.1) (fun p hp => hg p (by simp [hp])) (by omega)
    simp only [rowsI, lastTo, List.length_cons, Int.natCast_add]
    omega
theorem lastS_bound : ∀ {gs : List Gap} {a : Int}, (∀ g ∈ gs, GapOk g) → 0 ≤ a → a ≤ 4000000 → 0 ≤ lastTo a (rowsS a gs) ∧ lastTo a (rowsS a gs) ≤ 4000000
  | [], a, _, h, h' => by simp [rowsS, lastTo, h, h']
  | g :: gs, a, hg, h, _ => by
    have h1 := rowS_bound (hg g (by simp)) h
    have h2 := lastS_bound (gs := gs) (a := (rowS a g).2.1) (fun p hp => hg p (by simp [hp])) (by omega) (by omega)
    simp only [rowsS, lastTo]
    omega
end Go.Proofs.Ytkfdehmmhgcapaa

/-
  Rows read off a text, plainly.
-/
import Derived.Test.YtkfdehmmhgcapaaRwM
import Derived.Test.YtkfdehmmhgcapaaSpecReadT
namespace Go.Proofs.Ytkfdehmmhgcapaa
open Go.RowKit Exs Leb

def gapAt (s : ByteArray) (p : Nat) : Option (Gap × Nat) :=
  if (readU s p).fine = true then
    if (readU s (readU s p).place.toNat).fine = true then
      if (readS s (readU s (readU s p).place.toNat).place.toNat).fine = true then
        some (((readU s p).num, (readU s (readU s p).place.toNat).num, (readS s (readU s (readU s p).place.toNat).place.toNat).num), (readS s (readU s (readU s p).place.toNat).place.toNat).place.toNat)
      else none
    else none
  else none
section
variable {s : ByteArray} {p q1 q2 q3 : Nat} {x y z c1 c2 c3 : Int}
theorem gap_some (h1 : readU s p = ⟨x, q1, c1, true⟩) (h2 : readU s q1 = ⟨y, q2, c2, true⟩) (h3 : readS s q2 = ⟨z, q3, c3, true⟩) : gapAt s p = some ((x, y, z), q3) := by
  simp [gapAt, h1, h2, h3]
theorem gap_no1 {r : Read} (h1 : readU s p = r) (hf : r.fine = false) : gapAt s p = none := by
  simp [gapAt, h1, hf]
theorem gap_no2 {r : Read} (h1 : readU s p = ⟨x, q1, c1, true⟩) (h2 : readU s q1 = r) (hf : r.fine = false) : gapAt s p = none := by
  simp [gapAt, h1, h2, hf]
theorem gap_no3 {r : Read} (h1 : readU s p = ⟨x, q1, c1, true⟩) (h2 : readU s q1 = ⟨y, q2, c2, true⟩) (h3 : readS s q2 = r) (hf : r.fine = false) : gapAt s p = none := by
  simp [gapAt, h1, h2, h3, hf]
end
/-- What is fine lies in the text. -/
theorem readS_bounds {s : ByteArray} {a : Nat} (ha : a ≤ s.size) : ((readS s a).fine = true ∧ -9223372036854775808 ≤ (readS s a).num ∧ (readS s a).num ≤ 9223372036854775807 ∧ ∃ p : Nat, (readS s a).place = p ∧ p ≤ s.size) ∨ ((readS s a).fine = false ∧ (readS s a).num = 0 ∧ (readS s a).place = 0) := by
  rcases ends_shape s a ha with ⟨L, hL1, hL2, hL3, hE, hsh⟩ | hE | hE
  · have hlen : (seg s a (a + L)).length = L := by rw [seg_length s a (a + L) (by omega) hL3]; omega
    rcases faultS_cases (seg s a (a + L)) with ⟨hf, _⟩ | ⟨_, hf, _⟩ | ⟨h10, hf, _⟩
    · right; rw [readS_fault hE hf (by decide)]; exact ⟨rfl, rfl, rfl⟩
    · right; rw [readS_fault hE hf (by decide)]; exact ⟨rfl, rfl, rfl⟩
    · left
      rw [readS_fine hE hf]
      have := sval_i64 (l := seg s a (a + L)) (by omega) h10
      exact ⟨rfl, this.1, this.2, a + L, rfl, hL3⟩
  · right; rw [readS_none hE (by decide)]; exact ⟨rfl, rfl, rfl⟩
  · right; rw [readS_none hE (by decide)]; exact ⟨rfl, rfl, rfl⟩
theorem readU_bounds {s : ByteArray} {a : Nat} (ha : a ≤ s.size) : ((readU s a).fine = true ∧ 0 ≤ (readU s a).num ∧ (readU s a).num ≤ 18446744073709551615 ∧ ∃ p : Nat, (readU s a).place = p ∧ p ≤ s.size) ∨ ((readU s a).fine = false ∧ (readU s a).num = 0 ∧ (readU s a).place = 0) := by
  rcases ends_shape s a ha with ⟨L, hL1, hL2, hL3, hE, hsh⟩ | hE | hE
  · have hlen : (seg s a (a + L)).length = L := by rw [seg_length s a (a + L) (by omega) hL3]; omega
    rcases faultU_cases (seg s a (a + L)) with ⟨hf, _⟩ | ⟨_, hf, _⟩ | ⟨h10, hf, _⟩
    · right; rw [readU_fault hE hf (by decide)]; exact ⟨rfl, rfl, rfl⟩
    · right; rw [readU_fault hE hf (by decide)]; exact ⟨rfl, rfl, rfl⟩
    · left
      rw [readU_fine hE hf]
      have := val_u64 hsh (by omega) h10
      exact ⟨rfl, by simp, by simp; omega, a + L, rfl, hL3⟩
  · right; rw [readU_none hE (by decide)]; exact ⟨rfl, rfl, rfl⟩
  · right; rw [readU_none hE (by decide)]; exact ⟨rfl, rfl, rfl⟩
/-- A number read, as it is: fine or not. -/
theorem readU_two {s : ByteArray} {a : Nat} (ha : a ≤ s.size) : (∃ (x c : Int) (q : Nat), readU s a = ⟨x, q, c, true⟩ ∧ 0 ≤ x ∧ x ≤ 18446744073709551615 ∧ q ≤ s.size) ∨ ∃ c, readU s a = ⟨0, 0, c, false⟩ := by
  rcases readU_bounds ha with ⟨h1, h2, h3, q, h4, h5⟩ | ⟨h1, h2, h3⟩
  · generalize readU s a = r at h1 h2 h3 h4
    obtain ⟨x, p, c, f⟩ := r
    simp only at h1 h2 h3 h4
    subst h1 h4
    exact .inl ⟨x, c, q, rfl, h2, h3, h5⟩
  · generalize readU s a = r at h1 h2 h3
    obtain ⟨x, p, c, f⟩ := r
    simp only at h1 h2 h3
    subst h1 h2 h3
    exact .inr ⟨c, rfl⟩
theorem readS_two {s : ByteArray} {a : Nat} (ha : a ≤ s.size) : (∃ (x c : Int) (q : Nat), readS s a = ⟨x, q, c, true⟩ ∧ -9223372036854775808 ≤ x ∧ x ≤ 9223372036854775807 ∧ q ≤ s.size) ∨ ∃ c, readS s a = ⟨0, 0, c, false⟩ := by
  rcases readS_bounds ha with ⟨h1, h2, h3, q, h4, h5⟩ | ⟨h1, h2, h3⟩
  · generalize readS s a = r at h1 h2 h3 h4
    obtain ⟨x, p, c, f⟩ := r
    simp only at h1 h2 h3 h4
    subst h1 h4
    exact .inl ⟨x, c, q, rfl, h2, h3, h5⟩
  · generalize readS s a = r at h1 h2 h3
    obtain ⟨x, p, c, f⟩ := r
    simp only at h1 h2 h3
    subst h1 h2 h3
    exact .inr ⟨c, rfl⟩

theorem gapAt_ok {s : ByteArray} {p q : Nat} {g : Gap} (hp : p ≤ s.size) (h : gapAt s p = some (g, q)) : GapOk g ∧ q ≤ s.size := by
  rcases readU_two hp with ⟨x, c1, q1, h1, x0, x1, hq1⟩ | ⟨c1, h1⟩
  · rcases readU_two hq1 with ⟨y, c2, q2, h2, y0, y1, hq2⟩ | ⟨c2, h2⟩
    · rcases readS_two hq2 with ⟨z, c3, q3, h3, z0, z1, hq3⟩ | ⟨c3, h3⟩
      · rw [gap_some h1 h2 h3] at h
        injection h with h
        injection h with h h'
        subst h h'
        exact ⟨⟨x0, y0⟩, hq3⟩
      · rw [gap_no3 h1 h2 h3 rfl] at h; cases h
    · rw [gap_no2 h1 h2 rfl] at h; cases h
  · rw [gap_no1 h1 rfl] at h; cases h
def gapsAt (s : ByteArray) : Nat → Nat → Option (List Gap × Nat)
  | 0, p => some ([], p)
  | k + 1, p => match gapAt s p with
    | none => none
    | some (g, q) => (gapsAt s k q).map fun r => (g :: r.1, r.2)
theorem gaps_next {s : ByteArray} {many k p q a : Nat} {g : Gap} {gs : List Gap} (hk : k < many) (h : gapsAt s many a = (gapsAt s (many - k) p).map fun r => (gs ++ r.1, r.2))
    (h1 : gapAt s p = some (g, q)) : gapsAt s many a = (gapsAt s (many - (k + 1)) q).map fun r => ((gs ++ [g]) ++ r.1, r.2) := by
  rw [h, show many - k = (many - (k + 1)) + 1 by omega, gapsAt, h1, Option.map_map]
  congr 1
  funext r
  simp
theorem gaps_fail {s : ByteArray} {many k p a : Nat} {gs : List Gap} (hk : k < many) (h : gapsAt s many a = (gapsAt s (many - k) p).map fun r => (gs ++ r.1, r.2))
    (h1 : gapAt s p = none) : gapsAt s many a = none := by
  rw [h, show many - k = (many - (k + 1)) + 1 by omega, gapsAt, h1]; rfl
theorem gaps_done {s : ByteArray} {many k p a : Nat} {gs : List Gap} (hk : ¬ k < many) (h : gapsAt s many a = (gapsAt s (many - k) p).map fun r => (gs ++ r.1, r.2)) : gapsAt s many a = some (gs, p) := by
  rw [h, show many - k = 0 by omega, gapsAt]; simp

/-- What ReadRows answers. -/
def readRAns (s : ByteArray) (many : Int) : List Row3 × Int × Bool :=
  if s.size ≤ 2000 ∧ (readU s 0).fine = true ∧ (readU s 0).num ≤ 300 ∧ 1 ≤ many ∧ many ≤ 300 then
    match gapsAt s (readU s 0).num.toNat (readU s 0).place.toNat with
    | none => ([], 2, false)
    | some (gs, e) => if rowsF many.toNat 0 (rowsI 0 gs) = true then (if e < s.size then ([], 4, false) else (rowsI 0 gs, 0, true)) else ([], 3, false)
  else ([], 1, false)
theorem readRAns_1 {s : ByteArray} {many : Int} (h : ¬ (s.size ≤ 2000 ∧ (readU s 0).fine = true ∧ (readU s 0).num ≤ 300 ∧ 1 ≤ many ∧ many ≤ 300)) : readRAns s many = ([], 1, false) := by
  unfold readRAns; rw [if_neg h]
section
variable {s : ByteArray} {m n p : Nat} {c : Int}
theorem readRAns_2 (hs : s.size ≤ 2000) (h : readU s 0 = ⟨n, p, c, true⟩) (hn : n ≤ 300) (h1 : 1 ≤ m) (h2 : m ≤ 300) (hg : gapsAt s n p = none) : readRAns s m = ([], 2, false) := by
  unfold readRAns
  rw [if_pos ⟨hs, by rw [h], by rw [h]; simp only; omega, by omega, by omega⟩, h]
  simp only [Int.toNat_natCast]
  rw [hg]
theorem readRAns_x {gs : List Gap} {e : Nat} (hs : s.size ≤ 2000) (h : readU s 0 = ⟨n, p, c, true⟩) (hn : n ≤ 300) (h1 : 1 ≤ m) (h2 : m ≤ 300) (hg : gapsAt s n p = some (gs, e)) :
    readRAns s m = if rowsF m 0 (rowsI 0 gs) = true then (if e < s.size then ([], 4, false) else (rowsI 0 gs, 0, true)) else ([], 3, false) := by
  unfold readRAns
  rw [if_pos ⟨hs, by rw [h], by rw [h]; simp only; omega, by omega, by omega⟩, h]
  simp only [Int.toNat_natCast]
  rw [hg]
end
theorem gapsAt_length {s : ByteArray} : ∀ {k p : Nat} {gs : List Gap} {e : Nat}, gapsAt s k p = some (gs, e) → gs.length = k
  | 0, _, _, _, h => by simp [gapsAt] at h; rw [h.1]; rfl
  | k + 1, p, gs, e, h => by
    rw [gapsAt] at h
    split at h
    · cases h
    · rename_i g q _
      rw [Option.map_eq_some_iff] at h
      obtain ⟨⟨gs', e'⟩, h1, h2⟩ := h
      injection h2 with h2 h3
      subst h2
      simp [gapsAt_length h1]
theorem readRAns_length {s : ByteArray} {many : Int} : (readRAns s many).1.length ≤ 300 := by
  unfold readRAns
  split
  · rename_i h
    split
    · simp
    · rename_i gs e hg
      split
      · split
        · simp
        · have := gapsAt_length hg
          simp only [rowsI_length]
          omega
      · simp
  · simp
theorem readRAns_codes {s : ByteArray} {many : Int} : 0 ≤ (readRAns s many).2.1 ∧ (readRAns s many).2.1 ≤ 4 := by
  unfold readRAns
  split
  · split
    · simp
    · split
      · split <;> simp
      · simp
  · simp
end Go.Proofs.Ytkfdehmmhgcapaa

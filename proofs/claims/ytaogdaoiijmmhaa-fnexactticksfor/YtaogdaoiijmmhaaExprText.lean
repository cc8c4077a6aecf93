/-
  Plain mathematics on the texts of expressions: a token's text, reading it, words between blanks, and reading back. No program is imported here.
-/
import Derived.Laws.Small
namespace Go.Proofs.Ytaogdaoiijmmhaa.Exs

/-- The decimal digits of a number, the highest one first. -/
def numL (n : Nat) : List UInt8 := if n < 10 then [UInt8.ofNat (48 + n)] else numL (n / 10) ++ [UInt8.ofNat (48 + n % 10)]
termination_by n
decreasing_by omega

theorem numL_last {n : Nat} (h : n < 10) : numL n = [UInt8.ofNat (48 + n)] := by rw [numL, if_pos h]
theorem numL_more {n : Nat} (h : 10 ≤ n) : numL n = numL (n / 10) ++ [UInt8.ofNat (48 + n % 10)] := by rw [numL, if_neg (by omega)]

/-- Whether a byte is a decimal digit. -/
def isDig (b : UInt8) : Bool := decide (48 ≤ b.toNat) && decide (b.toNat ≤ 57)

theorem isDig_iff (b : UInt8) : isDig b = true ↔ 48 ≤ b.toNat ∧ b.toNat ≤ 57 := by simp [isDig]

theorem toNat_dig {n : Nat} (h : n < 10) : (UInt8.ofNat (48 + n)).toNat = 48 + n := by
  rw [UInt8.toNat_ofNat']; omega

theorem dig_back {b : UInt8} (h : 48 ≤ b.toNat) : UInt8.ofNat (48 + (b.toNat - 48)) = b := by
  rw [show 48 + (b.toNat - 48) = b.toNat by omega]; simp

/-- The number that digits come to. -/
def valL (l : List UInt8) : Nat := l.foldl (fun n b => 10 * n + (b.toNat - 48)) 0

theorem valL_snoc (l : List UInt8) (b : UInt8) : valL (l ++ [b]) = 10 * valL l + (b.toNat - 48) := by simp [valL]

theorem numL_digs (n : Nat) : ∀ b ∈ numL n, isDig b = true := by
  induction n using Nat.strongRecOn with
  | _ n ih =>
    intro b hb
    by_cases hn : n < 10
    · rw [numL_last hn] at hb
      simp only [List.mem_singleton] at hb
      subst hb; rw [isDig_iff, toNat_dig hn]; omega
    · rw [numL_more (by omega), List.mem_append] at hb
      rcases hb with hb | hb
      · exact ih _ (by omega) b hb
      · simp only [List.mem_singleton] at hb
        subst hb; rw [isDig_iff, toNat_dig (by omega)]; omega

theorem valL_numL (n : Nat) : valL (numL n) = n := by
  induction n using Nat.strongRecOn with
  | _ n ih =>
    by_cases hn : n < 10
    · rw [numL_last hn, show [UInt8.ofNat (48 + n)] = [] ++ [UInt8.ofNat (48 + n)] from rfl, valL_snoc, toNat_dig hn]; simp [valL]
    · rw [numL_more (by omega), valL_snoc, ih _ (by omega), toNat_dig (by omega)]; omega

theorem numL_length_pos (n : Nat) : 1 ≤ (numL n).length := by rw [numL]; split <;> simp

theorem numL_length_le : ∀ (k n : Nat), n < 10 ^ (k + 1) → (numL n).length ≤ k + 1
  | 0, n, h => by rw [numL_last (by simpa using h)]; simp
  | k + 1, n, h => by
    by_cases hn : n < 10
    · rw [numL_last hn]; simp
    · rw [numL_more (by omega)]
      have := numL_length_le k (n / 10) (by
        rw [Nat.pow_succ] at h
        exact (Nat.div_lt_iff_lt_mul (by omega)).2 h)
      simp; omega

theorem numL_head (n : Nat) (h : 1 ≤ n) : (numL n).head? ≠ some 48 := by
  induction n using Nat.strongRecOn with
  | _ n ih =>
    by_cases hn : n < 10
    · rw [numL_last hn]
      intro e
      simp only [List.head?_cons, Option.some.injEq] at e
      have := congrArg UInt8.toNat e
      rw [toNat_dig hn] at this
      have e48 : (48 : UInt8).toNat = 48 := rfl
      omega
    · rw [numL_more (by omega)]
      have h1 := ih (n / 10) (by omega) (by omega)
      have h2 := numL_length_pos (n / 10)
      match hq : numL (n / 10), h1, h2 with
      | x :: r, h1, _ => simpa using h1

theorem numL_length_big {n : Nat} (h : 1 < (numL n).length) : 10 ≤ n := by
  by_cases hn : n < 10
  · rw [numL_last hn] at h; simp at h
  · omega

/-- Decimal digits in their one form, ten at most: what they come to. -/
def digs (l : List UInt8) : Option Nat :=
  if l.length = 0 ∨ 10 < l.length ∨ (l.head? = some 48 ∧ 1 < l.length) ∨ l.all isDig = false then none else some (valL l)

theorem digs_numL {n : Nat} (h : n < 10000000000) : digs (numL n) = some n := by
  have h1 := numL_length_pos n
  have h2 := numL_length_le 9 n (Nat.lt_of_lt_of_le h (by decide))
  have h3 : (numL n).all isDig = true := by rw [List.all_eq_true]; exact numL_digs n
  rw [digs, if_neg, valL_numL]
  rintro (h4 | h4 | ⟨h4, h5⟩ | h4)
  · omega
  · omega
  · have := numL_length_big h5
    exact numL_head n (by omega) h4
  · rw [h3] at h4; cases h4

theorem snoc_of {l : List UInt8} {k : Nat} (h : l.length = k + 1) : ∃ d b, l = d ++ [b] := by
  have hne : l ≠ [] := by intro e; rw [e] at h; simp at h
  exact ⟨l.dropLast, l.getLast hne, (List.dropLast_concat_getLast hne).symm⟩

theorem valL_pos : ∀ (k : Nat) (l : List UInt8), l.length = k + 1 → l.all isDig = true → l.head? ≠ some 48 → 1 ≤ valL l
  | 0, l, hl, ha, hh => by
    match l, hl with
    | [b], _ =>
      have hb := (isDig_iff b).1 (by simpa using ha)
      have : b.toNat ≠ 48 := fun e => hh (by rw [List.head?_cons]; exact congrArg some (UInt8.toNat_inj.1 e))
      show 1 ≤ valL ([] ++ [b])
      rw [valL_snoc]; omega
  | k + 1, l, hl, ha, hh => by
    obtain ⟨d, b, rfl⟩ := snoc_of hl
    rw [valL_snoc]
    have hd : d.length = k + 1 := by simpa using hl
    have := valL_pos k d hd (by rw [List.all_append, Bool.and_eq_true] at ha; exact ha.1) (by
      match d, hd with
      | x :: r, _ => simpa using hh)
    omega

theorem numL_valL : ∀ (k : Nat) (l : List UInt8), l.length = k + 1 → l.all isDig = true → (1 < l.length → l.head? ≠ some 48) → numL (valL l) = l
  | 0, l, hl, ha, _ => by
    match l, hl with
    | [b], _ =>
      have hb := (isDig_iff b).1 (by simpa using ha)
      show numL (valL ([] ++ [b])) = _
      rw [valL_snoc, show valL [] = 0 from rfl, numL_last (by omega), show 10 * 0 + (b.toNat - 48) = b.toNat - 48 by omega, dig_back hb.1]
  | k + 1, l, hl, ha, hh => by
    obtain ⟨d, b, rfl⟩ := snoc_of hl
    have hd : d.length = k + 1 := by simpa using hl
    rw [List.all_append, Bool.and_eq_true] at ha
    have hdh : d.head? ≠ some 48 := by
      have hh := hh (by omega)
      match d, hd with
      | x :: r, _ => simpa using hh
    have h1 := valL_pos k _ hd ha.1 hdh
    have h2 := numL_valL k _ hd ha.1 (fun _ => hdh)
    have hb := (isDig_iff b).1 (by simpa using ha.2)
    rw [valL_snoc, numL_more (by omega), show (10 * valL d + (b.toNat - 48)) / 10 = valL d by omega, show (10 * valL d + (b.toNat - 48)) % 10 = b.toNat - 48 by omega, h2, dig_back hb.1]

theorem digs_some {l : List UInt8} {n : Nat} (h : digs l = some n) : numL n = l ∧ l.all isDig = true ∧ 1 ≤ l.length := by
  rw [digs] at h
  split at h
  · cases h
  · rename_i hc
    simp only [not_or, not_and] at hc
    obtain ⟨h1, h2, h3, h4⟩ := hc
    have ha : l.all isDig = true := by simpa using h4
    cases h
    exact ⟨numL_valL (l.length - 1) l (by omega) ha (fun h5 h6 => h3 h6 h5), ha, by omega⟩

end Go.Proofs.Ytaogdaoiijmmhaa.Exs

/-
  Plain mathematics of reading expressions: words between blanks, decimal digits, numerals. No program is imported here.
-/
import Derived.Test.YtpknbdaicmacjaaGreatDoorNum
import Derived.Lib.Split
import Derived.Lib.AtoiAll
import Derived.Lib.CountLaws
namespace Go.Proofs.YtpknbdaicmacjaaGreatDoor
open Go.RowKit Exs

theorem strB_toList (l : List UInt8) : (strB l).data.toList = l := rfl
theorem strB_of (s : ByteArray) : strB s.data.toList = s := rfl
theorem strB_inj {a b : List UInt8} (h : strB a = strB b) : a = b := by
  have := congrArg (fun s : ByteArray => s.data.toList) h
  exact this
theorem strB_extract (l : List UInt8) (a b : Nat) : (strB l).extract a b = strB ((l.take b).drop a) := by
  apply ByteArray.ext
  apply Array.toList_inj.1
  rw [Lib.extract_data, strB_toList, strB_toList, List.drop_take]

theorem indexByte_split : ∀ (l : List UInt8) (c : UInt8), (Lib.indexByte l c = -1 ∧ c ∉ l) ∨ ∃ (i : Nat) (u r : List UInt8), Lib.indexByte l c = i ∧ u.length = i ∧ l = u ++ c :: r ∧ c ∉ u
  | [], c => .inl ⟨rfl, by simp⟩
  | b :: l, c => by
    by_cases hb : b = c
    · subst hb
      exact .inr ⟨0, [], l, by simp [Lib.indexByte], rfl, rfl, by simp⟩
    · rcases indexByte_split l c with ⟨h1, h2⟩ | ⟨i, u, r, h1, h2, h3, h4⟩
      · exact .inl ⟨by simp [Lib.indexByte, hb, h1], by simp [h2]; exact fun e => hb e.symm⟩
      · refine .inr ⟨i + 1, b :: u, r, ?_, by simp [h2], by simp [h3], by simp [h4]; exact fun e => hb e.symm⟩
        have hne : ¬ ((i : Int) = -1) := by omega
        simp [Lib.indexByte, hb, h1, hne]

theorem splitB_splitL : ∀ (n : Nat) (l : List UInt8), l.length ≤ n → Lib.splitB (strB [32]) 0 (Lib.countB (strB l) (strB [32])) (strB l) = (splitL l).map strB
  | n, l, hn => by
    have hi : Lib.indexB (strB l) (strB [32]) = Lib.indexByte l 32 := Lib.index_one l 32
    rcases indexByte_split l 32 with ⟨h1, h2⟩ | ⟨i, u, r, h1, h2, h3, h4⟩
    · rw [Lib.splitB_miss _ _ _ _ (hi.trans h1), splitL_word l h2]; rfl
    · have hrl : r.length < l.length := by rw [h3]; simp; omega
      match n, hn with
      | 0, hn => omega
      | n + 1, hn =>
        have hsz : (strB l).size = l.length := strB_size l
        have hs1 : (strB [32]).size = 1 := rfl
        have hr : (strB l).extract (i + (strB [32]).size) (strB l).size = strB r := by
          rw [strB_extract, hs1, hsz, List.take_length, h3]
          rw [show i + 1 = (u ++ [32]).length by simp [h2], show u ++ (32 : UInt8) :: r = (u ++ [32]) ++ r by simp, List.drop_left]
        rw [Lib.countB_hit _ _ i (by rw [hs1]; omega) (hi.trans h1), hr, Nat.add_comm 1, Lib.splitB_hit _ _ _ _ i (hi.trans h1), hr, splitB_splitL n r (by omega)]
        rw [Nat.add_zero, strB_extract, List.drop_zero, h3, splitL_blank u r h4]
        rw [show (u ++ (32 : UInt8) :: r).take i = u by rw [← h2, List.take_left]]
        rfl

theorem splitL_count (l : List UInt8) : Lib.countB (strB l) (strB [32]) + 1 = (splitL l).length := by
  have h := congrArg List.length (splitB_splitL l.length l (Nat.le_refl _))
  rw [List.length_map] at h
  rw [← h]
  suffices H : ∀ (n : Nat) (l : List UInt8), l.length ≤ n → Lib.countB (strB l) (strB [32]) + 1 = (Lib.splitB (strB [32]) 0 (Lib.countB (strB l) (strB [32])) (strB l)).length from H _ _ (Nat.le_refl _)
  intro n
  induction n with
  | zero =>
    intro l hl
    obtain rfl : l = [] := List.eq_nil_of_length_eq_zero (by omega)
    rfl
  | succ n ih =>
    intro l hl
    have hi : Lib.indexB (strB l) (strB [32]) = Lib.indexByte l 32 := Lib.index_one l 32
    rcases indexByte_split l 32 with ⟨h1, h2⟩ | ⟨i, u, r, h1, h2, h3, h4⟩
    · rw [Lib.splitB_miss _ _ _ _ (hi.trans h1), Lib.countB_miss _ _ (hi.trans h1)]; rfl
    · have hrl : r.length < l.length := by rw [h3]; simp; omega
      have hsz : (strB l).size = l.length := strB_size l
      have hs1 : (strB [32]).size = 1 := rfl
      have hr : (strB l).extract (i + (strB [32]).size) (strB l).size = strB r := by
        rw [strB_extract, hs1, hsz, List.take_length, h3]
        rw [show i + 1 = (u ++ [32]).length by simp [h2], show u ++ (32 : UInt8) :: r = (u ++ [32]) ++ r by simp, List.drop_left]
      rw [Lib.countB_hit _ _ i (by rw [hs1]; omega) (hi.trans h1), hr, Nat.add_comm 1, Lib.splitB_hit _ _ _ _ i (hi.trans h1), hr, List.length_cons, ← ih r (by omega)]

/-- Words of which the first goes on with what is there. -/
def cont (cur : List UInt8) (rest : List UInt8) : List (List UInt8) := match splitL rest with | [] => [cur] | u :: us => (cur ++ u) :: us
theorem cont_nil (cur : List UInt8) : cont cur [] = [cur] := by simp [cont, splitL]
theorem cont_start (l : List UInt8) : cont [] l = splitL l := by
  unfold cont
  have := splitL_ne l
  match h : splitL l, this with
  | u :: us, _ => rfl
theorem cont_blank (cur r : List UInt8) : cont cur (32 :: r) = cur :: cont [] r := by
  rw [cont_start]; unfold cont; rw [splitL, if_pos rfl]; simp
theorem cont_byte (cur r : List UInt8) {b : UInt8} (h : b ≠ 32) : cont cur (b :: r) = cont (cur ++ [b]) r := by
  unfold cont
  rw [splitL, if_neg h]
  have := splitL_ne r
  match hq : splitL r, this with
  | u :: us, _ => simp

/-- What the reference's digits come to. -/
def digI (l : List UInt8) : Int := match digs l with | some n => n | none => -1

theorem numL_small (n : Nat) (h : n < 10) (acc : Nat) (ha : acc < 1000000000000) : Lib.parseUint10 acc (numL n) = .ok (acc * 10 + n) := by
  rw [numL_last h, Lib.parseUint10, toNat_dig h, if_pos (by omega), if_neg (by omega), if_neg (by omega), Lib.parseUint10]
  congr 1; omega

theorem parseUint10_append : ∀ (a b : List UInt8) (acc u : Nat), Lib.parseUint10 acc a = .ok u → Lib.parseUint10 acc (a ++ b) = Lib.parseUint10 u b
  | [], b, acc, u, h => by rw [Lib.parseUint10] at h; injection h with h; rw [h]; rfl
  | c :: a, b, acc, u, h => by
    rw [Lib.parseUint10] at h
    rw [List.cons_append, Lib.parseUint10]
    split at h
    · rename_i h1
      split at h
      · cases h
      · rename_i h2
        split at h
        · cases h
        · rename_i h3
          rw [if_pos h1, if_neg h2, if_neg h3]
          exact parseUint10_append a b _ u h
    · cases h

theorem parseUint10_numL (n : Nat) (h : n < 1000000000000) : Lib.parseUint10 0 (numL n) = .ok n := by
  induction n using Nat.strongRecOn with
  | _ n ih =>
    by_cases h10 : n < 10
    · rw [numL_small n h10 0 (by omega)]; congr 1; omega
    · rw [numL_more (by omega), parseUint10_append _ _ _ _ (ih (n / 10) (by omega) (by omega)), ← numL_last (n := n % 10) (by omega), numL_small _ (by omega) _ (by omega)]
      congr 1; omega

theorem atoi_num (n : Nat) (h : n < 1000000000000) : Lib.atoiAll (numL n) = .ok (n : Int) := by
  have hp := parseUint10_numL n h
  have hd := numL_digs n
  have hne := numL_ne n
  match hl : numL n, hne with
  | c :: r, _ =>
    rw [hl] at hp hd
    have hc := (isDig_iff c).1 (hd c (by simp))
    unfold Lib.atoiAll
    simp only
    rw [if_neg (by omega), Lib.parseMag, if_neg (by simp), hp]
    simp only
    rw [if_neg (by omega), if_neg (by omega), if_neg (by omega)]
theorem atoi_neg (n : Nat) (h : n < 1000000000000) : Lib.atoiAll (45 :: numL n) = .ok (-(n : Int)) := by
  have hp := parseUint10_numL n h
  unfold Lib.atoiAll
  simp only
  rw [if_pos (by decide), Lib.parseMag, if_neg (numL_ne n), hp]
  simp only
  rw [if_neg (by simp), if_neg (by omega), if_pos (by decide)]
theorem atoi_int {n : Int} (h0 : -2147483648 ≤ n) (h1 : n ≤ 2147483647) : Lib.atoiAll (intL n) = .ok n := by
  by_cases h : n < 0
  · rw [intL, if_pos h, atoi_neg _ (by omega)]; congr 1; omega
  · rw [intL, if_neg h, atoi_num _ (by omega)]; congr 1; omega

end Go.Proofs.YtpknbdaicmacjaaGreatDoor

/-
  What is laid is read back: plain facts on the answers of ReadU and ReadS where the bytes of a number stand.
-/
import Derived.Test.YtkfdehmmhgcapaaSpecReadT
namespace Go.Proofs.Ytkfdehmmhgcapaa
open Go.RowKit Leb

theorem scan_of_shape (s : ByteArray) (a : Nat) : ∀ (L f k : Nat), L + 1 ≤ f → a + k + (L + 1) ≤ s.size → Shape (seg s (a + k) (a + k + (L + 1))) → scan s a f k = (((a + k + (L + 1) : Nat) : Int), 0)
  | 0, f, k, hf, hs, hsh => by
    obtain ⟨f, rfl⟩ : ∃ g, f = g + 1 := ⟨f - 1, by omega⟩
    rw [seg_cons s (a + k) (a + k + (0 + 1)) (by omega) (by omega)] at hsh
    have e : seg s (a + k + 1) (a + k + (0 + 1)) = [] := seg_self s (a + k + 1)
    rw [e] at hsh
    exact scan_hit f (by omega) hsh.2
  | L + 1, f, k, hf, hs, hsh => by
    obtain ⟨f, rfl⟩ : ∃ g, f = g + 1 := ⟨f - 1, by omega⟩
    rw [seg_cons s (a + k) (a + k + (L + 1 + 1)) (by omega) (by omega)] at hsh
    have e : seg s (a + k + 1) (a + k + (L + 1 + 1)) = seg s (a + (k + 1)) (a + (k + 1) + (L + 1)) := by rw [show a + k + 1 = a + (k + 1) by omega, show a + k + (L + 1 + 1) = a + (k + 1) + (L + 1) by omega]
    rw [e] at hsh
    have hlen : (seg s (a + (k + 1)) (a + (k + 1) + (L + 1))).length = L + 1 := by rw [seg_length _ _ _ (by omega) (by omega)]; omega
    match hq : seg s (a + (k + 1)) (a + (k + 1) + (L + 1)), hsh with
    | [], _ => rw [hq] at hlen; simp at hlen
    | x :: r, hsh =>
      rw [scan_on f (by omega) hsh.cons.1.1, scan_of_shape s a L f (k + 1) (by omega) (by omega) (by rw [hq]; exact hsh.cons.2), show a + (k + 1) + (L + 1) = a + k + (L + 1 + 1) by omega]

theorem ends_of_shape {s : ByteArray} {a L : Nat} (h1 : 1 ≤ L) (h2 : L ≤ 10) (h3 : a + L ≤ s.size) (hsh : Shape (seg s a (a + L))) : endsAt s a = (((a + L : Nat) : Int), 0) := by
  obtain ⟨M, rfl⟩ : ∃ M, L = M + 1 := ⟨L - 1, by omega⟩
  exact scan_of_shape s a M 10 0 (by omega) (by omega) hsh

theorem shape_putU (n : Nat) : Shape (putU n) := by
  induction n using Nat.strongRecOn with
  | _ n ih =>
    by_cases hn : n < 128
    · rw [putU_last hn]; exact ⟨by omega, by omega⟩
    · rw [putU_more (by omega)]
      have h := ih (n / 128) (by omega)
      match hq : putU (n / 128), h with
      | x :: r, h => exact ⟨⟨by omega, by omega⟩, h⟩
theorem val_putU (n : Nat) : val (putU n) = n := by
  induction n using Nat.strongRecOn with
  | _ n ih =>
    by_cases hn : n < 128
    · rw [putU_last hn]; simp [val]; omega
    · rw [putU_more (by omega), val, ih (n / 128) (by omega)]
      omega
theorem last_high {l : List Int} (h10 : l.length = 10) : ∃ low : Nat, low < 9223372036854775808 ∧ val l = low + (l.getLastD 0 % 128).toNat * 9223372036854775808 := by
  have hne : l ≠ [] := by intro h; subst h; simp at h10
  have hc := List.dropLast_concat_getLast hne
  have hld : l.getLastD 0 = l.getLast hne := by
    cases l with
    | nil => exact absurd rfl hne
    | cons a r => rfl
  have hlen : l.dropLast.length = 9 := by simp; omega
  have h1 := val_lt l.dropLast
  have h2 := val_snoc l.dropLast (l.getLast hne)
  have h3 : (128 : Nat) ^ 9 = 9223372036854775808 := by decide
  rw [hc, hlen, h3, ← hld] at h2
  rw [hlen, h3] at h1
  exact ⟨_, h1, h2⟩
theorem faultU_putU {n : Nat} (hn : n < 18446744073709551616) : faultU (putU n) = 0 := by
  have hs := shape_putU n
  have hl := hs.last
  have h1 := (putU_val hs).1 (by rw [val_putU])
  rcases faultU_cases (putU n) with ⟨_, h10, hb⟩ | ⟨_, _, h⟩ | ⟨_, h, _⟩
  · obtain ⟨low, hlow, hv⟩ := last_high h10
    rw [val_putU] at hv
    omega
  · exact absurd h h1
  · exact h

theorem shape_putS (n : Int) : Shape (putS n) := by
  suffices h : ∀ (k : Nat) (n : Int), n.natAbs ≤ k → Shape (putS n) from h n.natAbs n (Nat.le_refl _)
  intro k
  induction k with
  | zero =>
    intro n hn
    rw [putS_last (by omega)]
    exact ⟨by omega, by omega⟩
  | succ k ih =>
    intro n hn
    by_cases h : -64 ≤ n ∧ n ≤ 63
    · rw [putS_last h]; exact ⟨by omega, by omega⟩
    · rw [putS_more h]
      have h2 := ih (n / 128) (by omega)
      match hq : putS (n / 128), h2 with
      | x :: r, h2 => exact ⟨⟨by omega, by omega⟩, h2⟩
theorem sval_putS (n : Int) : sval (putS n) = n := by
  suffices h : ∀ (k : Nat) (n : Int), n.natAbs ≤ k → sval (putS n) = n from h n.natAbs n (Nat.le_refl _)
  have base : ∀ n : Int, -64 ≤ n ∧ n ≤ 63 → sval (putS n) = n := by
    intro n h
    rw [putS_last h]
    have e : sval [n % 128] = n % 128 % 128 + 128 * (if 64 ≤ n % 128 then -1 else 0) := rfl
    rw [e]
    by_cases h6 : 64 ≤ n % 128
    · rw [if_pos h6]; omega
    · rw [if_neg h6]; omega
  intro k
  induction k with
  | zero => intro n hn; exact base n (by omega)
  | succ k ih =>
    intro n hn
    by_cases h : -64 ≤ n ∧ n ≤ 63
    · exact base n h
    · rw [putS_more h]
      have h2 := ih (n / 128) (by omega)
      have h3 := shape_putS (n / 128)
      match hq : putS (n / 128), h3 with
      | x :: r, _ =>
        rw [hq] at h2
        rw [sval_cons, h2]
        omega
theorem faultS_putS {n : Int} (h1 : -9223372036854775808 ≤ n) (h2 : n ≤ 9223372036854775807) : faultS (putS n) = 0 := by
  have hs := shape_putS n
  have hl := hs.last
  have hp := (putS_val hs).1 (by rw [sval_putS])
  rcases faultS_cases (putS n) with ⟨_, h10, hb, hb2⟩ | ⟨_, _, h⟩ | ⟨_, h, _⟩
  · obtain ⟨low, hlow, hv⟩ := last_high h10
    have hn := sval_putS n
    unfold sval at hn
    rw [sfrom_val, h10, show (128 : Int) ^ 10 = 1180591620717411303424 by decide, hv] at hn
    unfold sgn at hn
    split at hn <;> omega
  · exact absurd h hp
  · exact h

/-- Where the bytes of a number stand, ReadU gives it. -/
theorem readU_back {s : ByteArray} {a n : Nat} (hn : n < 18446744073709551616) (h : seg s a (a + (putU n).length) = putU n) (hs : a + (putU n).length ≤ s.size) : readU s a = ⟨n, ((a + (putU n).length : Nat) : Int), 0, true⟩ := by
  have hE := ends_of_shape (putU_length_pos n) (putU_length_u64 hn) hs (by rw [h]; exact shape_putU n)
  rw [readU_fine hE (by rw [h]; exact faultU_putU hn), h, val_putU]
theorem readS_back {s : ByteArray} {a : Nat} {n : Int} (h1 : -9223372036854775808 ≤ n) (h2 : n ≤ 9223372036854775807) (h : seg s a (a + (putS n).length) = putS n) (hs : a + (putS n).length ≤ s.size) : readS s a = ⟨n, ((a + (putS n).length : Nat) : Int), 0, true⟩ := by
  have hE := ends_of_shape (putS_length_pos n) (putS_length_i64 h1 h2) hs (by rw [h]; exact shape_putS n)
  rw [readS_fine hE (by rw [h]; exact faultS_putS h1 h2), h, sval_putS]

theorem data_str (l : List Int) : (strOfNums l).data.toList = l.map fun n => UInt8.ofNat n.toNat := rfl
/-- The bytes of a number, with something ahead and something behind. -/
theorem seg_mid (p q : ByteArray) (l : List Int) (hl : ∀ x ∈ l, 0 ≤ x ∧ x ≤ 255) : seg (p ++ strOfNums l ++ q) p.size (p.size + l.length) = l := by
  have hd : (p ++ strOfNums l ++ q).data.toList = p.data.toList ++ ((strOfNums l).data.toList ++ q.data.toList) := by
    simp [ByteArray.data_append]
  unfold seg
  rw [hd, List.drop_left' (data_length p), show p.size + l.length - p.size = l.length by omega, List.take_left' (by rw [data_str, List.length_map])]
  exact nums_strOfNums l hl

end Go.Proofs.Ytkfdehmmhgcapaa

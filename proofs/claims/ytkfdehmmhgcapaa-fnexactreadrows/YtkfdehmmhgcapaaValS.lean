/-
  Plain mathematics: what a list of LEB128 bytes comes to as a signed number, and which lists are those of their numbers. No program is imported here.
-/
import Derived.Test.YtkfdehmmhgcapaaVal
namespace Go.Proofs.Ytkfdehmmhgcapaa.Leb

/-- What bytes come to above a number z. -/
def sfrom (z : Int) : List Int → Int
  | [] => z
  | d :: r => d % 128 + 128 * sfrom z r
/-- -1 where the last byte has the sign. -/
def sgn (l : List Int) : Int := if 64 ≤ l.getLastD 0 then -1 else 0
def sval (l : List Int) : Int := sfrom (sgn l) l
/-- The byte ahead of the last one. -/
def prevD (l : List Int) : Int := l.getD (l.length - 2) 0
/-- One byte fewer would do. -/
def PadS (l : List Int) : Prop := (l.getLastD 0 = 0 ∨ l.getLastD 0 = 127) ∧ 1 < l.length ∧ prevD l / 64 % 2 = l.getLastD 0 / 64 % 2

theorem lastD_cons (d y : Int) (r : List Int) : (d :: y :: r).getLastD 0 = (y :: r).getLastD 0 := by simp [List.getLastD]
theorem sgn_cons (d y : Int) (r : List Int) : sgn (d :: y :: r) = sgn (y :: r) := by unfold sgn; rw [lastD_cons]
theorem sval_cons (d y : Int) (r : List Int) : sval (d :: y :: r) = d % 128 + 128 * sval (y :: r) := by
  unfold sval; rw [sgn_cons]; rfl
theorem padS_cons (d y x : Int) (r : List Int) : PadS (d :: y :: x :: r) ↔ PadS (y :: x :: r) := by
  have e : prevD (d :: y :: x :: r) = prevD (y :: x :: r) := rfl
  unfold PadS
  rw [e, lastD_cons]
  simp

theorem putS_zero : putS 0 = [0] := by rw [putS_last (by omega)]; rfl
theorem putS_minus : putS (-1) = [127] := by rw [putS_last (by omega)]; rfl

theorem putS_val : ∀ {l : List Int}, Shape l → (putS (sval l) = l ↔ ¬ PadS l)
  | [], h => h.elim
  | [d], h => by
    have h : 0 ≤ d ∧ d < 128 := h
    have e : sval [d] = if 64 ≤ d then d - 128 else d := by
      simp only [sval, sfrom, sgn, List.getLastD]
      simp
      split <;> omega
    have hp : ¬ PadS [d] := by simp [PadS]
    refine ⟨fun _ => hp, fun _ => ?_⟩
    rw [e, putS_last (by split <;> omega)]
    congr 1
    split <;> omega
  | [d, y], h => by
    have hd := h.cons.1
    have hy : 0 ≤ y ∧ y < 128 := h.cons.2
    have ih := putS_val h.cons.2
    have hr : putS (sval [y]) = [y] := ih.2 (by simp [PadS])
    have ey : sval [y] = if 64 ≤ y then y - 128 else y := by
      simp only [sval, sfrom, sgn, List.getLastD]
      simp
      split <;> omega
    have en := sval_cons d y []
    have epad : PadS [d, y] ↔ ((y = 0 ∨ y = 127) ∧ d / 64 % 2 = y / 64 % 2) := by simp [PadS, prevD, List.getLastD]
    rw [epad]
    by_cases hin : -64 ≤ sval [d, y] ∧ sval [d, y] ≤ 63
    · rw [putS_last hin]
      refine ⟨fun he => by simp at he, fun hc => ?_⟩
      exfalso
      apply hc
      split at ey <;> constructor <;> omega
    · rw [putS_more hin, show sval [d, y] / 128 = sval [y] by omega, hr]
      refine ⟨fun _ hc => hin ?_, fun _ => ?_⟩
      · split at ey <;> omega
      · congr 1; omega
  | d :: y :: x :: r, h => by
    have hd := h.cons.1
    have ih := putS_val h.cons.2
    have en := sval_cons d y (x :: r)
    rw [padS_cons, ← ih]
    by_cases hin : -64 ≤ sval (d :: y :: x :: r) ∧ sval (d :: y :: x :: r) ≤ 63
    · rw [putS_last hin]
      refine ⟨fun he => by simp at he, fun he => ?_⟩
      exfalso
      have hS : sval (y :: x :: r) = 0 ∨ sval (y :: x :: r) = -1 := by omega
      rcases hS with hS | hS
      · rw [hS, putS_zero] at he; simp at he
      · rw [hS, putS_minus] at he; simp at he
    · rw [putS_more hin, show sval (d :: y :: x :: r) / 128 = sval (y :: x :: r) by omega]
      constructor
      · intro he; injection he
      · intro he; rw [he]; congr 1; omega

theorem sfrom_val (z : Int) : ∀ l : List Int, sfrom z l = val l + z * 128 ^ l.length
  | [] => by simp [sfrom, val]
  | d :: r => by
    rw [sfrom, sfrom_val z r, val, List.length_cons, Int.pow_succ, ← Int.mul_assoc]
    generalize z * 128 ^ r.length = y
    omega
theorem sfrom_snoc (z d : Int) : ∀ l : List Int, sfrom z (l ++ [d]) = sfrom (d % 128 + 128 * z) l
  | [] => rfl
  | x :: r => by rw [List.cons_append, sfrom, sfrom, sfrom_snoc z d r]

/-- A sign above nine bytes at most is within 64 bits. -/
theorem sfrom_nine (z : Int) (hz : z = 0 ∨ z = -1) (l : List Int) (hl : l.length ≤ 9) : -9223372036854775808 ≤ sfrom z l ∧ sfrom z l ≤ 9223372036854775807 := by
  rw [sfrom_val]
  have h1 := val_lt l
  have h2 : (128 : Nat) ^ l.length ≤ 128 ^ 9 := Nat.pow_le_pow_right (by decide) hl
  have h3 : (128 : Nat) ^ 9 = 9223372036854775808 := by decide
  have h4 : ((128 ^ l.length : Nat) : Int) = (128 : Int) ^ l.length := by simp
  generalize (128 : Nat) ^ l.length = p at *
  rw [← h4]
  rcases hz with rfl | rfl <;> omega

theorem sgn_cases (l : List Int) : sgn l = 0 ∨ sgn l = -1 := by unfold sgn; split <;> simp

theorem sval_i64 {l : List Int} (hl : l.length ≤ 10) (h : l.length = 10 → l.getLastD 0 = 0 ∨ l.getLastD 0 = 127) : -9223372036854775808 ≤ sval l ∧ sval l ≤ 9223372036854775807 := by
  by_cases h9 : l.length ≤ 9
  · exact sfrom_nine _ (sgn_cases l) l h9
  · have hne : l ≠ [] := by intro h; subst h; simp at h9
    have hc := List.dropLast_concat_getLast hne
    have hld : l.getLastD 0 = l.getLast hne := by
      cases l with
      | nil => exact absurd rfl hne
      | cons a r => rfl
    have hlen : l.dropLast.length ≤ 9 := by simp; omega
    have h10 := h (by omega)
    have e : sval l = sfrom (l.getLast hne % 128 + 128 * sgn l) l.dropLast := by
      unfold sval
      conv => lhs; rw [← hc]
      rw [sfrom_snoc, hc]
    rw [e]
    refine sfrom_nine _ ?_ _ hlen
    unfold sgn
    rw [hld] at h10 ⊢
    rcases h10 with h0 | h0 <;> rw [h0] <;> simp

theorem sfrom_drop (z : Int) : ∀ (l : List Int) (j : Nat), -9223372036854775808 ≤ z ∧ z ≤ 9223372036854775807 → -9223372036854775808 ≤ sfrom z l ∧ sfrom z l ≤ 9223372036854775807 → -9223372036854775808 ≤ sfrom z (l.drop j) ∧ sfrom z (l.drop j) ≤ 9223372036854775807
  | [], j, hz, h => by simpa [sfrom] using hz
  | d :: r, 0, hz, h => by simpa using h
  | d :: r, j + 1, hz, h => by
    rw [List.drop_succ_cons]
    refine sfrom_drop z r j hz ?_
    rw [sfrom] at h
    omega

/-- Why bytes are not a signed number's: they need more than 64 bits, or one fewer would do. -/
def faultS (l : List Int) : Int := if l.getLastD 0 ≠ 0 ∧ l.getLastD 0 ≠ 127 then (if l.length = 10 then 3 else 0) else if 1 < l.length ∧ prevD l / 64 % 2 = l.getLastD 0 / 64 % 2 then 4 else 0

theorem faultS_cases (l : List Int) : (faultS l = 3 ∧ l.length = 10 ∧ l.getLastD 0 ≠ 0 ∧ l.getLastD 0 ≠ 127) ∨ ((l.length = 10 → l.getLastD 0 = 0 ∨ l.getLastD 0 = 127) ∧ faultS l = 4 ∧ PadS l) ∨ ((l.length = 10 → l.getLastD 0 = 0 ∨ l.getLastD 0 = 127) ∧ faultS l = 0 ∧ ¬ PadS l) := by
  unfold faultS PadS
  by_cases h1 : l.getLastD 0 ≠ 0 ∧ l.getLastD 0 ≠ 127
  · rw [if_pos h1]
    by_cases h2 : l.length = 10
    · left; exact ⟨if_pos h2, h2, h1⟩
    · right; right; exact ⟨fun h => absurd h h2, if_neg h2, fun h => by omega⟩
  · right
    rw [if_neg h1]
    have h1' : l.getLastD 0 = 0 ∨ l.getLastD 0 = 127 := by omega
    by_cases h2 : 1 < l.length ∧ prevD l / 64 % 2 = l.getLastD 0 / 64 % 2
    · left; exact ⟨fun _ => h1', if_pos h2, h1', h2⟩
    · right; exact ⟨fun _ => h1', if_neg h2, fun h => h2 h.2⟩

theorem and64_all : ∀ x : Fin 256, bits .and .u8 (x.val : Int) 64 = ((x.val / 64 % 2 * 64 : Nat) : Int) := by decide +kernel
theorem and64_byte (b : UInt8) : bits .and .u8 (b.toNat : Int) 64 = (b.toNat : Int) / 64 % 2 * 64 := by
  have := and64_all ⟨b.toNat, b.toNat_lt⟩
  rw [this]
  simp only
  omega

theorem prevD_nums (d : ByteArray) (h : 1 < d.size) : prevD (nums d) = ((d[d.size - 2]'(by omega)).toNat : Int) := by
  have h1 := nums_get d (d.size - 2) (by omega)
  rw [prevD, nums_length, List.getD, h1]
  rfl

/-- A number wraps to the one within bounds from which it differs by whole wraps. -/
theorem wrap_i64_of {x y : Int} (h : (x - y) % 18446744073709551616 = 0) (h1 : -9223372036854775808 ≤ y) (h2 : y ≤ 9223372036854775807) : IntKind.i64.wrap x = y := by
  rw [IntKind.wrap_i64]; omega

end Go.Proofs.Ytkfdehmmhgcapaa.Leb

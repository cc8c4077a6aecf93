/-
  Plain mathematics on LEB128 bytes: what the walks over the Go text come to. No program is imported here.
-/
import Derived.Laws.BytesArg
import Derived.Laws.BitsAllLaws
import Derived.Laws.Small
import Derived.IntWalk
namespace Go.Proofs.Ytkfdehmmhgcapaa.Leb

/-- The bytes of a number, seven bits a byte, the lowest ones first. -/
def putU (n : Nat) : List Int := if n < 128 then [(n : Int)] else ((n % 128 + 128 : Nat) : Int) :: putU (n / 128)
termination_by n
decreasing_by omega

theorem putU_last {n : Nat} (h : n < 128) : putU n = [(n : Int)] := by rw [putU, if_pos h]
theorem putU_more {n : Nat} (h : 128 ≤ n) : putU n = ((n % 128 + 128 : Nat) : Int) :: putU (n / 128) := by rw [putU, if_neg (by omega)]

theorem putU_length_pos (n : Nat) : 1 ≤ (putU n).length := by
  rw [putU]; split <;> simp

theorem putU_length_le : ∀ (k n : Nat), n < 128 ^ (k + 1) → (putU n).length ≤ k + 1
  | 0, n, h => by rw [putU_last (by simpa using h)]; simp
  | k + 1, n, h => by
    by_cases hn : n < 128
    · rw [putU_last hn]; simp
    · rw [putU_more (by omega)]
      have := putU_length_le k (n / 128) (by
        rw [Nat.pow_succ] at h
        exact (Nat.div_lt_iff_lt_mul (by omega)).2 h)
      simp; omega

theorem putU_length_u64 {n : Nat} (h : n < 18446744073709551616) : (putU n).length ≤ 10 :=
  putU_length_le 9 n (Nat.lt_of_lt_of_le h (by decide))

theorem putU_range (n : Nat) : ∀ x ∈ putU n, 0 ≤ x ∧ x ≤ 255 := by
  induction n using Nat.strongRecOn with
  | _ n ih =>
    intro x hx
    by_cases hn : n < 128
    · rw [putU_last hn] at hx; simp at hx; omega
    · rw [putU_more (by omega)] at hx
      rcases List.mem_cons.1 hx with rfl | hx
      · omega
      · exact ih _ (by omega) x hx

theorem or128_all : ∀ x : Fin 256, bits .or .u8 (x.val : Int) 128 = ((x.val % 128 + 128 : Nat) : Int) := by decide +kernel
/-- 'byte(n) | 128'. -/
theorem or128 (m : Nat) : bits .or .u8 ((m : Int) % 256) 128 = (m : Int) % 128 + 128 := by
  have h := or128_all ⟨m % 256, by omega⟩
  have e : (m : Int) % 256 = ((m % 256 : Nat) : Int) := by omega
  rw [e, h]
  simp only
  omega

/-- The bytes of a signed number, as few as can be. -/
def putS (n : Int) : List Int := if -64 ≤ n ∧ n ≤ 63 then [n % 128] else (n % 128 + 128) :: putS (n / 128)
termination_by n.natAbs
decreasing_by omega

theorem putS_last {n : Int} (h : -64 ≤ n ∧ n ≤ 63) : putS n = [n % 128] := by rw [putS, if_pos h]
theorem putS_more {n : Int} (h : ¬ (-64 ≤ n ∧ n ≤ 63)) : putS n = (n % 128 + 128) :: putS (n / 128) := by rw [putS, if_neg h]
theorem putS_length_pos (n : Int) : 1 ≤ (putS n).length := by
  rw [putS]; split <;> simp
theorem putS_length_le : ∀ (k : Nat) (n : Int), -(64 * 128 ^ k) ≤ n → n < 64 * 128 ^ k → (putS n).length ≤ k + 1
  | 0, n, h1, h2 => by rw [putS_last (by omega)]; simp
  | k + 1, n, h1, h2 => by
    by_cases hn : -64 ≤ n ∧ n ≤ 63
    · rw [putS_last hn]; simp
    · rw [putS_more hn]
      have e : (128 : Int) ^ (k + 1) = 128 ^ k * 128 := Int.pow_succ 128 k
      rw [e] at h1 h2
      generalize (128 : Int) ^ k = y at *
      have := putS_length_le k (n / 128)
      exact Nat.succ_le_succ (this (by omega) (by omega))

theorem putS_length_i64 {n : Int} (h1 : -9223372036854775808 ≤ n) (h2 : n ≤ 9223372036854775807) : (putS n).length ≤ 10 :=
  putS_length_le 9 n (by have : (64 * 128 ^ 9 : Int) = 590295810358705651712 := by decide
                         omega) (by have : (64 * 128 ^ 9 : Int) = 590295810358705651712 := by decide
                                    omega)

/-- 'n & 127' of an int. -/
theorem and127 (m : Int) : bits .and .i64 m 127 = m % 128 := by
  show IntKind.i64.wrap ((BitVec.ofInt 64 m &&& BitVec.ofInt 64 127).toNat : Int) = _
  have e : (BitVec.ofInt 64 127).toNat = 127 := by decide
  rw [BitVec.toNat_and, e, nat_mask7, BitVec.toNat_ofInt]
  have h : ((m % (2 ^ 64 : Nat)).toNat : Int) = m % (2 ^ 64 : Nat) := Int.toNat_of_nonneg (by omega)
  rw [IntKind.wrap_i64]
  omega

theorem and127u_all : ∀ x : Fin 256, bits .and .u8 (x.val : Int) 127 = ((x.val % 128 : Nat) : Int) := by decide +kernel
/-- 'byte(n) & 127'. -/
theorem and127u (m : Int) : bits .and .u8 (m % 256) 127 = m % 128 := by
  have h := and127u_all ⟨(m % 256).toNat, by omega⟩
  have e : m % 256 = (((m % 256).toNat : Nat) : Int) := by omega
  rw [e, h]
  simp only
  omega
/-- 'byte(n) | 128'. -/
theorem or128i (m : Int) : bits .or .u8 (m % 256) 128 = m % 128 + 128 := by
  have h := or128_all ⟨(m % 256).toNat, by omega⟩
  have e : m % 256 = (((m % 256).toNat : Nat) : Int) := by omega
  rw [e, h]
  simp only
  omega

end Go.Proofs.Ytkfdehmmhgcapaa.Leb

/-
  Plain mathematics on LEB128 bytes: what the walks over the Go text come to. No program is imported here.
-/
import Derived.Laws.BytesArg
import Derived.Laws.BitsAllLaws
import Derived.Laws.Small
namespace Go.Proofs.Ytogkpkcpcakakaa.Leb

/-- The bytes of a number, seven bits a byte, the lowest ones first. -/
def putU (n : Nat) : List Int := if n < 128 then [(n : Int)] else ((n % 128 + 128 : Nat) : Int) :: putU (n / 128)
termination_by n
decreasing_by omega

theorem putU_last {n : Nat} (h : n < 128) : putU n = [(n : Int)] := by rw [putU, if_pos h]
theorem putU_more {n : Nat} (h : 128 ≤ n) : putU n = ((n % 128 + 128 : Nat) : Int) :: putU (n / 128) := by rw [putU, if_neg (by omega)]

theorem putU_length_pos (n : Nat) : 1 ≤ (putU n).length := by
  rw [putU]; split <;> simp

theorem putU_length_le : ∀ (k n : Nat), n < 128 ^ (k + 1) → (putU n).length ≤ k + 1
  | 0, n, h => by rw [putU_last (by simpa using h)]; simp
  | k + 1, n, h => by
    by_cases hn : n < 128
    · rw [putU_last hn]; simp
    · rw [putU_more (by omega)]
      have := putU_length_le k (n / 128) (by
        rw [Nat.pow_succ] at h
        exact (Nat.div_lt_iff_lt_mul (by omega)).2 h)
      simp; omega

theorem putU_length_u64 {n : Nat} (h : n < 18446744073709551616) : (putU n).length ≤ 10 :=
  putU_length_le 9 n (Nat.lt_of_lt_of_le h (by decide))

theorem putU_range (n : Nat) : ∀ x ∈ putU n, 0 ≤ x ∧ x ≤ 255 := by
  induction n using Nat.strongRecOn with
  | _ n ih =>
    intro x hx
    by_cases hn : n < 128
    · rw [putU_last hn] at hx; simp at hx; omega
    · rw [putU_more (by omega)] at hx
      rcases List.mem_cons.1 hx with rfl | hx
      · omega
      · exact ih _ (by omega) x hx

theorem or128_all : ∀ x : Fin 256, bits .or .u8 (x.val : Int) 128 = ((x.val % 128 + 128 : Nat) : Int) := by decide +kernel
/-- 'byte(n) | 128'. -/
theorem or128 (m : Nat) : bits .or .u8 ((m : Int) % 256) 128 = (m : Int) % 128 + 128 := by
  have h := or128_all ⟨m % 256, by omega⟩
  have e : (m : Int) % 256 = ((m % 256 : Nat) : Int) := by omega
  rw [e, h]
  simp only
  omega

end Go.Proofs.Ytogkpkcpcakakaa.Leb

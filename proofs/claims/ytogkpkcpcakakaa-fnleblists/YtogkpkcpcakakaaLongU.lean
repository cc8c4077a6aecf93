/-
  Contracts of LongU, the program's (by way of bits.Len64) and the reference's.
-/
import Derived.Test.YtogkpkcpcakakaaPutU
import Derived.Lib.BitFns
namespace Go.Proofs.Ytogkpkcpcakakaa
open Go.RowKit Leb

theorem tab_size : Lib.len8tab.size = 256 := by decide +kernel
theorem tab_all : ∀ i : Fin 256, (Lib.len8tab[i.val]'(by rw [tab_size]; exact i.isLt)).toNat = Lib.bitLen i.val := by decide +kernel
theorem tab_at (n : Nat) (h : n < Lib.len8tab.size) : (Lib.len8tab[n]'h).toNat = Lib.bitLen n := tab_all ⟨n, by rw [tab_size] at h; exact h⟩

/-- What the table tells of the highest byte, and the bits below it, are the bits of all. -/
theorem len_close (x q : Int) (k : Nat) (h : q.toNat < Lib.len8tab.size) (e : q.toNat = x.toNat / 2 ^ k) (hk : k ≤ 56) (hx : 2 ^ k ≤ x.toNat) (hlt : x.toNat < 2 ^ 64) :
    wrap64 ((k : Int) + wrap64 ((Lib.len8tab[q.toNat]'h).toNat : Int)) = (Lib.bitLen x.toNat : Int) := by
  rw [tab_at, Lib.bitLen_shift k x.toNat hx hlt, ← e]
  have h8 := Lib.bitLen_le8 ⟨q.toNat, by rw [tab_size] at h; exact h⟩
  simp only at h8
  have e1 : wrap64 (Lib.bitLen q.toNat : Int) = (Lib.bitLen q.toNat : Int) := IntWalk.wrap64_in _ (by omega)
  rw [e1, IntWalk.wrap64_in _ (by omega)]
  omega
theorem len_close0 (x : Int) (h : x.toNat < Lib.len8tab.size) : wrap64 (wrap64 ((Lib.len8tab[x.toNat]'h).toNat : Int)) = (Lib.bitLen x.toNat : Int) := by
  rw [tab_at]
  have h8 := Lib.bitLen_le8 ⟨x.toNat, by rw [tab_size] at h; exact h⟩
  simp only at h8
  have e1 : wrap64 (Lib.bitLen x.toNat : Int) = (Lib.bitLen x.toNat : Int) := IntWalk.wrap64_in _ (by omega)
  rw [e1, e1]

set_option maxHeartbeats 4000000 in
set_option maxRecDepth 100000 in
theorem len64_any (x : Int) (w : World) (h0 : 0 ≤ x) (h1 : x ≤ 18446744073709551615) :
    Calls Try.prog 44 #[.int .u64 x] w fun e w' => e = .returned (.int .i64 (Lib.bitLen x.toNat)) ∧ w = w' := by
  go_enter Try.func44, Try.ntmps44
  have hs : ((Lib.len8tab.size : Nat) : Int) = 256 := by decide +kernel
  go_wp2
  all_goals (go_ret; refine ⟨ret_int ?_, rfl⟩)
  · exact len_close x _ 56 _ (by omega) (by omega) (by omega) (by omega)
  · exact len_close x _ 48 _ (by omega) (by omega) (by omega) (by omega)
  · exact len_close x _ 40 _ (by omega) (by omega) (by omega) (by omega)
  · exact len_close x _ 32 _ (by omega) (by omega) (by omega) (by omega)
  · exact len_close x _ 24 _ (by omega) (by omega) (by omega) (by omega)
  · exact len_close x _ 16 _ (by omega) (by omega) (by omega) (by omega)
  · exact len_close x _ 8 _ (by omega) (by omega) (by omega) (by omega)
  · exact len_close0 x _

theorem small_len : ∀ i : Fin 128, i.val = 0 ∨ (Lib.bitLen i.val + 6) / 7 = 1 := by decide +kernel

/-- As many bytes as there are sevens of bits, begun ones counted. -/
theorem putU_len (n : Nat) (h0 : n ≠ 0) (hn : n < 2 ^ 64) : (putU n).length = (Lib.bitLen n + 6) / 7 := by
  induction n using Nat.strongRecOn with
  | _ n ih =>
    by_cases hs : n < 128
    · rw [putU_last hs]
      have := small_len ⟨n, hs⟩
      simp only at this
      simp; omega
    · rw [putU_more (by omega), Lib.bitLen_shift 7 n (by omega) hn, List.length_cons, ih (n / 128) (by omega) (by omega) (by omega)]
      show _ = (7 + Lib.bitLen (n / 128) + 6) / 7
      omega
theorem or_one_len (n : Nat) (h0 : n ≠ 0) (hn : n < 2 ^ 64) : Lib.bitLen (n ||| 1) = Lib.bitLen n := by
  have h1 : n ||| 1 ≠ 0 := by
    intro h
    have := Nat.or_eq_zero_iff.1 h
    omega
  have h2 : n ||| 1 < 2 ^ 64 := Nat.or_lt_two_pow hn (by decide)
  rw [Lib.bitLen_half _ h1 h2, Lib.bitLen_half n h0 hn, Nat.or_div_two]
  simp
theorem long_eq (n : Nat) (hn : n < 2 ^ 64) : (Lib.bitLen (n ||| 1) + 6) / 7 = (putU n).length := by
  by_cases h0 : n = 0
  · subst h0; rw [putU_last (by decide)]; decide +kernel
  · rw [or_one_len n h0 hn, putU_len n h0 hn]
theorem bitLen_64 (n : Nat) (hn : n < 2 ^ 64) : Lib.bitLen n ≤ 64 := Lib.bitLen_le n 64 (by decide) hn

set_option maxHeartbeats 400000 in
set_option maxRecDepth 100000 in
theorem longU_any (n : Nat) (w : World) (hn : (n : Int) ≤ 18446744073709551615) :
    Calls Try.prog 18 #[.int .u64 n] w fun e w' => e = .returned (.int .i64 (putU n).length) ∧ w = w' := by
  have hlt : n < 2 ^ 64 := by omega
  have hor := u64_or_nat n 1 (by omega) (by omega)
  have h2 : n ||| 1 < 2 ^ 64 := Nat.or_lt_two_pow hlt (by decide)
  have hl := long_eq n hlt
  have hb := bitLen_64 _ h2
  generalize hm : n ||| 1 = m at *
  have HM := put hm; clear hm
  have HL := put hl; clear hl
  have H2 := put h2; clear h2
  have HT := put hlt; clear hlt
  have hor' : bits .or .u64 (n : Int) 1 = (m : Int) := hor
  clear hor
  go_enter Try.func18, Try.ntmps18
  go_wp2_with fail
  refine (len64_any m _ (by omega) (by have := H2.out; omega)).mono ?_
  rintro e w1 ⟨rfl, rfl⟩
  rw [Int.toNat_natCast]
  go_wp2
  go_ret
  exact ⟨ret_int (by have := HL.out; omega), rfl⟩

set_option maxHeartbeats 400000 in
set_option maxRecDepth 100000 in
theorem specLongU_any (n : Nat) (w : World) (hn : (n : Int) ≤ 18446744073709551615) :
    Calls Try.prog 19 #[.int .u64 n] w fun e w' => e = .returned (.int .i64 (putU n).length) ∧ Below w.heap.size w w' := by
  go_enter Try.func19, Try.ntmps19
  go_wp2_with fail
  refine (l1PutU_any n _ hn).mono ?_
  rintro e w1 ⟨rfl, hb⟩
  go_wp2
  go_ret
  exact ⟨ret_int (by simp [strOfNums_size]), hb⟩

end Go.Proofs.Ytogkpkcpcakakaa

/-
  Plain mathematics: what a list of LEB128 bytes comes to, and which lists are those of their numbers. No program is imported here.
-/
import Derived.Test.YtkfdehmmhgcapaaLeb
import Derived.Laws.Bits64
namespace Go.Proofs.Ytkfdehmmhgcapaa.Leb

/-- The bytes of a text as numbers. -/
def nums (d : ByteArray) : List Int := d.data.toList.map fun b => (b.toNat : Int)
/-- The bytes of a text from one place up to another. -/
def seg (s : ByteArray) (i e : Nat) : List Int := ((s.data.toList.drop i).take (e - i)).map fun b => (b.toNat : Int)

theorem data_length (s : ByteArray) : s.data.toList.length = s.size := Array.length_toList
theorem nums_length (d : ByteArray) : (nums d).length = d.size := by rw [nums, List.length_map]; exact data_length d
theorem nums_get (d : ByteArray) (k : Nat) (h : k < d.size) : (nums d)[k]? = some ((d[k].toNat : Nat) : Int) := by
  have h' : k < d.data.toList.length := by rw [data_length]; exact h
  rw [nums, List.getElem?_map, List.getElem?_eq_getElem h']
  rfl
theorem strOfNums_nums (d : ByteArray) : strOfNums (nums d) = d := by
  simp [strOfNums, nums, Function.comp_def]
theorem nums_strOfNums (xs : List Int) (h : ∀ x ∈ xs, 0 ≤ x ∧ x ≤ 255) : nums (strOfNums xs) = xs := by
  simp only [nums, strOfNums, List.map_map]
  conv => rhs; rw [← List.map_id xs]
  apply List.map_congr_left
  intro x hx
  have := h x hx
  simp
  omega
theorem nums_extract (s : ByteArray) (a e : Nat) : nums (s.extract a e) = seg s a e := by
  simp [nums, seg, ByteArray.data_extract, List.extract_eq_take_drop]
theorem seg_self (s : ByteArray) (i : Nat) : seg s i i = [] := by simp [seg]
theorem seg_cons (s : ByteArray) (i e : Nat) (h : i < e) (he : e ≤ s.size) : seg s i e = ((s[i]'(by omega)).toNat : Int) :: seg s (i + 1) e := by
  have h' : i < s.data.toList.length := by rw [data_length]; omega
  unfold seg
  rw [List.drop_eq_getElem_cons h', show e - i = (e - (i + 1)) + 1 by omega, List.take_succ_cons, List.map_cons]
  rfl
theorem seg_length (s : ByteArray) (i e : Nat) (h : i ≤ e) (he : e ≤ s.size) : (seg s i e).length = e - i := by
  have := data_length s
  simp only [seg, List.length_map, List.length_take, List.length_drop]
  omega

/-- What bytes come to, the lowest seven bits first. -/
def val : List Int → Nat
  | [] => 0
  | d :: r => (d % 128).toNat + 128 * val r

theorem val_lt : ∀ l : List Int, val l < 128 ^ l.length
  | [] => by simp [val]
  | d :: r => by
    have h := val_lt r
    rw [val, List.length_cons, Nat.pow_succ]
    omega
theorem val_snoc : ∀ (l : List Int) (d : Int), val (l ++ [d]) = val l + (d % 128).toNat * 128 ^ l.length
  | [], d => by simp [val]
  | x :: r, d => by
    rw [List.cons_append, val, val, val_snoc r d, List.length_cons, Nat.pow_succ, Nat.mul_add, Nat.add_assoc, Nat.mul_comm (128 ^ r.length) 128, Nat.mul_left_comm]

/-- Bytes that end as a number's do: all but the last one have 128 or more. -/
def Shape : List Int → Prop
  | [] => False
  | [d] => 0 ≤ d ∧ d < 128
  | d :: r => (128 ≤ d ∧ d < 256) ∧ Shape r

theorem Shape.cons {d x : Int} {r : List Int} (h : Shape (d :: x :: r)) : (128 ≤ d ∧ d < 256) ∧ Shape (x :: r) := h
theorem Shape.range : ∀ {l : List Int}, Shape l → ∀ x ∈ l, 0 ≤ x ∧ x ≤ 255
  | [], h, _, _ => h.elim
  | [d], h, x, hx => by
    have : 0 ≤ d ∧ d < 128 := h
    simp at hx
    omega
  | d :: y :: r, h, x, hx => by
    rcases List.mem_cons.1 hx with rfl | hx
    · have := h.cons.1; omega
    · exact h.cons.2.range x hx
theorem Shape.last : ∀ {l : List Int}, Shape l → 0 ≤ l.getLastD 0 ∧ l.getLastD 0 < 128
  | [], h => h.elim
  | [d], h => h
  | d :: y :: r, h => by
    have := h.cons.2.last
    simpa [List.getLastD] using this

/-- Why bytes are not an unsigned number's: they need more than 64 bits, or one fewer would do. -/
def faultU (l : List Int) : Int := if l.length = 10 ∧ 1 < l.getLastD 0 then 3 else if 1 < l.length ∧ l.getLastD 0 = 0 then 4 else 0

theorem putU_lastD (n : Nat) : 1 < (putU n).length → (putU n).getLastD 0 ≠ 0 := by
  induction n using Nat.strongRecOn with
  | _ n ih =>
    intro hl
    by_cases hn : n < 128
    · rw [putU_last hn] at hl; simp at hl
    · rw [putU_more (by omega)]
      have hp := putU_length_pos (n / 128)
      by_cases h1 : n / 128 < 128
      · rw [putU_last h1]
        simp [List.getLastD]
        omega
      · have := ih (n / 128) (by omega) (by rw [putU_more (by omega)]; have := putU_length_pos (n / 128 / 128); simp; omega)
        match hq : putU (n / 128), hp with
        | x :: r, _ =>
          rw [hq] at this
          simpa [List.getLastD] using this

/-- The bytes of their own number: just those that end in no 0, or are alone. -/
theorem putU_val : ∀ {l : List Int}, Shape l → (putU (val l) = l ↔ ¬ (1 < l.length ∧ l.getLastD 0 = 0))
  | [], h => h.elim
  | [d], h => by
    have h : 0 ≤ d ∧ d < 128 := h
    have e : val [d] = d.toNat := by simp [val]; omega
    rw [e, putU_last (by omega)]
    simp
    omega
  | d :: y :: r, h => by
    have hd := h.cons.1
    have ih := putU_val h.cons.2
    have hlast : (d :: y :: r).getLastD 0 = (y :: r).getLastD 0 := by simp [List.getLastD]
    constructor
    · intro he hc
      have := putU_lastD (val (d :: y :: r))
      rw [he] at this
      exact this hc.1 hc.2
    · intro hc
      have hne : (y :: r).getLastD 0 ≠ 0 := fun h0 => hc ⟨by simp, by rw [hlast]; exact h0⟩
      have hr : putU (val (y :: r)) = y :: r := ih.2 (fun hh => hne hh.2)
      have hpos : 1 ≤ val (y :: r) := by
        rcases Nat.eq_zero_or_pos (val (y :: r)) with h0 | h0
        · rw [h0, putU_last (by decide)] at hr
          have hr' : r = [] := by simp at hr; exact hr.2
          subst hr'
          simp at hr
          exact absurd (by simp [← hr]) hne
        · exact h0
      have e : val (d :: y :: r) = (d % 128).toNat + 128 * val (y :: r) := rfl
      rw [putU_more (by omega), show val (d :: y :: r) / 128 = val (y :: r) by omega, hr]
      congr 1
      omega

theorem val_u64 {l : List Int} (h : Shape l) (hl : l.length ≤ 10) (h10 : ¬ (l.length = 10 ∧ 1 < l.getLastD 0)) : val l ≤ 18446744073709551615 := by
  by_cases h9 : l.length ≤ 9
  · have h1 := val_lt l
    have h2 : 128 ^ l.length ≤ 128 ^ 9 := Nat.pow_le_pow_right (by decide) h9
    have h3 : (128 : Nat) ^ 9 = 9223372036854775808 := by decide
    omega
  · have hne : l ≠ [] := by intro h; subst h; simp at h9
    have hc := List.dropLast_concat_getLast hne
    have hld : l.getLastD 0 = l.getLast hne := by
      cases l with
      | nil => exact absurd rfl hne
      | cons a r => rfl
    have hlen : l.dropLast.length = 9 := by simp; omega
    have h1 := val_lt l.dropLast
    have h2 := val_snoc l.dropLast (l.getLast hne)
    have h3 : (128 : Nat) ^ 9 = 9223372036854775808 := by decide
    have h4 := h.last
    rw [hc, hlen] at h2
    rw [hlen] at h1
    have h5 : ((l.getLast hne) % 128).toNat ≤ 1 := by rw [← hld]; omega
    have h6 : ((l.getLast hne) % 128).toNat * 128 ^ 9 ≤ 1 * 128 ^ 9 := Nat.mul_le_mul_right _ h5
    omega

theorem val_drop_le : ∀ (l : List Int) (j : Nat), val (l.drop j) ≤ val l
  | [], j => by simp
  | d :: r, 0 => by simp
  | d :: r, j + 1 => by
    have := val_drop_le r j
    simp only [List.drop_succ_cons, val]
    omega

theorem pow7 (k : Nat) : (128 : Nat) ^ k = 2 ^ (7 * k) := by rw [Nat.pow_mul]

/-- Bits above and bits below: 'or' is a sum, and the wrap of the whole is the sum of the wraps. -/
theorem or_high (m y k : Nat) (hm : m < 128 ^ k) (hk : k ≤ 9) : m ||| (y * 2 ^ (7 * k) % 18446744073709551616) = (m + y * 128 ^ k) % 18446744073709551616 := by
  have hR : (18446744073709551616 : Nat) = 2 ^ (7 * k) * 2 ^ (64 - 7 * k) := by
    rw [← Nat.pow_add, show 7 * k + (64 - 7 * k) = 64 by omega]
  rw [pow7] at hm ⊢
  rw [hR]
  generalize 2 ^ (64 - 7 * k) = R at *
  generalize hP : 2 ^ (7 * k) = P at *
  have h1 : y * P % (P * R) = P * (y % R) := by rw [Nat.mul_comm y P, Nat.mul_mod_mul_left]
  rw [h1]
  have h2 : m ||| P * (y % R) = m + P * (y % R) := by
    rw [← hP] at hm ⊢
    rw [Nat.or_comm, nat_join (7 * k) _ m (by simp) hm, Nat.add_comm]
  rw [h2]
  have hRpos : 0 < R := by
    rcases Nat.eq_zero_or_pos R with h0 | h0
    · subst h0; simp at hR
    · exact h0
  have h3 : m + y * P = (m + P * (y % R)) + P * R * (y / R) := by
    have := Nat.mod_add_div y R
    calc m + y * P = m + P * (y % R + R * (y / R)) := by rw [this, Nat.mul_comm]
      _ = (m + P * (y % R)) + P * R * (y / R) := by rw [Nat.mul_add, Nat.mul_assoc, Nat.add_assoc]
  rw [h3, Nat.add_mul_mod_self_left]
  have h4 : y % R + 1 ≤ R := Nat.mod_lt y hRpos
  have h5 : P * (y % R + 1) ≤ P * R := Nat.mul_le_mul_left P h4
  rw [Nat.mul_add, Nat.mul_one] at h5
  exact (Nat.mod_eq_of_lt (by omega)).symm

theorem take_step (d : ByteArray) (k : Nat) (h : k < d.size) : (nums d).take (k + 1) = (nums d).take k ++ [((d[k].toNat : Nat) : Int)] := by
  rw [List.take_add_one, nums_get d k h]; rfl

/-- The lowest 64 bits of what bytes come to. -/
def val64 (l : List Int) : Nat := val l % 18446744073709551616

theorem val64_of {l : List Int} (h : val l ≤ 18446744073709551615) : val64 l = val l := Nat.mod_eq_of_lt (by omega)

/-- One round of gathering bits. -/
theorem or_round (d : ByteArray) (m k : Nat) (hk : k < d.size) (hs : d.size ≤ 10) (hm : m = val64 ((nums d).take k)) :
    bits .or .u64 (m : Int) (IntKind.u64.wrap (IntKind.u64.wrap (bits .and .u8 ((d[k].toNat : Nat) : Int) 127) * 2 ^ (7 * k))) = ((val64 ((nums d).take (k + 1)) : Nat) : Int) := by
  unfold val64 at *
  have hb : d[k].toNat < 256 := d[k].toNat_lt
  have hlen : ((nums d).take k).length = k := by rw [List.length_take, nums_length]; omega
  have hv := val_lt ((nums d).take k)
  rw [hlen] at hv
  have h9 : (128 : Nat) ^ k ≤ 128 ^ 9 := Nat.pow_le_pow_right (by decide) (by omega)
  have h9' : (128 : Nat) ^ 9 = 9223372036854775808 := by decide
  have hm' : m = val ((nums d).take k) := by rw [hm]; exact Nat.mod_eq_of_lt (by omega)
  have e1 : bits .and .u8 ((d[k].toNat : Nat) : Int) 127 = ((d[k].toNat % 128 : Nat) : Int) := by
    have := and127u_all ⟨d[k].toNat, hb⟩
    exact this
  have e2 : IntKind.u64.wrap ((d[k].toNat % 128 : Nat) : Int) = ((d[k].toNat % 128 : Nat) : Int) := IntWalk.u64_in _ (by omega)
  have e3 : IntKind.u64.wrap (((d[k].toNat % 128 : Nat) : Int) * 2 ^ (7 * k)) = ((d[k].toNat % 128 * 2 ^ (7 * k) % 18446744073709551616 : Nat) : Int) := by
    rw [IntKind.wrap_u64]
    simp
  rw [e1, e2, e3, u64_or_nat _ _ (by omega) (Nat.mod_lt _ (by decide)), take_step d k hk, val_snoc, hlen, hm', or_high _ _ k hv (by omega)]
  congr 4

end Go.Proofs.Ytkfdehmmhgcapaa.Leb

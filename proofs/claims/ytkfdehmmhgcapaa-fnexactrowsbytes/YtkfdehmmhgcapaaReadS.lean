/-
  Contracts of the functions that read a signed number: the program's lebFaultS and ReadS.
-/
import Derived.Test.YtkfdehmmhgcapaaReadU
import Derived.Test.YtkfdehmmhgcapaaValS
namespace Go.Proofs.Ytkfdehmmhgcapaa
open Go.RowKit Leb

set_option maxHeartbeats 400000 in
set_option maxRecDepth 100000 in
theorem lebFaultS_any (d : ByteArray) (w : World) (h1 : 1 ≤ d.size) (h2 : d.size ≤ 10) :
    Calls Try.prog 90 #[.string d] w fun e w' => e = .returned (.int .i64 (faultS (nums d))) ∧ w = w' := by
  have hl := lastD_nums d (by omega)
  have hf := put (show faultS (nums d) = if ((d[d.size - 1]'(by omega)).toNat : Int) ≠ 0 ∧ ((d[d.size - 1]'(by omega)).toNat : Int) ≠ 127 then (if d.size = 10 then 3 else 0) else if 1 < d.size ∧ prevD (nums d) / 64 % 2 = ((d[d.size - 1]'(by omega)).toNat : Int) / 64 % 2 then 4 else 0 by unfold faultS; rw [hl, nums_length])
  clear hl
  have ha1 := and64_byte (d[d.size - 1]'(by omega))
  have ha0 : bits .and .u8 (0 : Int) 64 = 0 := by decide
  by_cases hbig : 1 < d.size
  · have hp := put (prevD_nums d hbig)
    have ha2 := and64_byte (d[d.size - 2]'(by omega))
    go_enter Try.func90, Try.ntmps90
    go_wp2
    all_goals (go_ret; refine ⟨ret_int ?_, rfl⟩; rw [hf.out, hp.out])
    all_goals (clear hf hp ha1 ha2)
    all_goals (try simp only [beq_iff_eq, beq_eq_false_iff_ne, bne_iff_ne, bne_eq_false_iff_eq, ne_eq] at *)
    all_goals (split <;> first | omega | (split <;> omega))
  · go_enter Try.func90, Try.ntmps90
    go_wp2
    all_goals (go_ret; refine ⟨ret_int ?_, rfl⟩; rw [hf.out])
    all_goals (clear hf ha1)
    all_goals (try simp only [beq_eq_false_iff_ne, bne_iff_ne, bne_eq_false_iff_eq, ne_eq] at *)
    all_goals (split <;> first | omega | (split <;> omega))

theorem lebFaultS_is {d : ByteArray} {x : Int} (hx : faultS (nums d) = x) (w : World) (h1 : 1 ≤ d.size) (h2 : d.size ≤ 10) :
    Calls Try.prog 90 #[.string d] w fun e w' => e = .returned (.int .i64 x) ∧ w = w' := by
  have h := lebFaultS_any d w h1 h2
  rw [hx] at h
  exact h

def readS (s : ByteArray) (a : Nat) : Read :=
  if (endsAt s a).2 = 0 then
    (if faultS (seg s a (endsAt s a).1.toNat) = 0 then ⟨sval (seg s a (endsAt s a).1.toNat), (endsAt s a).1, 0, true⟩ else ⟨0, 0, faultS (seg s a (endsAt s a).1.toNat), false⟩)
  else ⟨0, 0, (endsAt s a).2, false⟩

theorem readS_fine {s : ByteArray} {a L : Nat} (hE : endsAt s a = (((a + L : Nat) : Int), 0)) (hf : faultS (seg s a (a + L)) = 0) : readS s a = ⟨sval (seg s a (a + L)), ((a + L : Nat) : Int), 0, true⟩ := by
  unfold readS
  rw [hE]
  simp only [Int.toNat_natCast]
  simp [hf]
theorem readS_fault {s : ByteArray} {a L : Nat} {c : Int} (hE : endsAt s a = (((a + L : Nat) : Int), 0)) (hf : faultS (seg s a (a + L)) = c) (hc : c ≠ 0) : readS s a = ⟨0, 0, c, false⟩ := by
  unfold readS
  rw [hE]
  simp only [Int.toNat_natCast]
  simp [hf, hc]
theorem readS_none {s : ByteArray} {a : Nat} {c : Int} (hE : endsAt s a = (0, c)) (hc : c ≠ 0) : readS s a = ⟨0, 0, c, false⟩ := by
  unfold readS
  rw [hE]
  simp [hc]

set_option maxHeartbeats 400000 in
set_option maxRecDepth 100000 in
/-- The program's ReadS, where a number's bytes end: a fault. -/
theorem readS_faulty (s : ByteArray) (a L : Nat) (w : World) (hs : s.size ≤ 2000) (ha : a ≤ s.size) (hL1 : 1 ≤ L) (hL2 : L ≤ 10) (hL3 : a + L ≤ s.size)
    (HE : Hid (endsAt s a = (((a + L : Nat) : Int), 0))) (c : Int) (hc : c = 3 ∨ c = 4) (hf : Hid (faultS (seg s a (a + L)) = c)) :
    Calls Try.prog 85 #[.string s, .int .i64 a] w fun e w' => e = .returned ((readS s a).told .i64) ∧ w = w' := by
  have HZ := put (extract_size hL3)
  have hd1 : 1 ≤ (s.extract a (a + L)).size := by rw [HZ.out]; exact hL1
  have hd2 : (s.extract a (a + L)).size ≤ 10 := by rw [HZ.out]; exact hL2
  have HD1 := put hd1; clear hd1
  have HD2 := put hd2; clear hd2
  have HF := put (show faultS (nums (s.extract a (a + L))) = c by rw [nums_extract]; exact hf)
  rcases hc with rfl | rfl
  all_goals
    have hR := put (readS_fault HE.out hf (by decide))
    go_enter Try.func85, Try.ntmps85
    go_wp2_with fail
    refine (lebEnd_is HE.out _ hs ha).mono ?_
    rintro e w1 ⟨rfl, rfl⟩
    go_wp2_with fail
    refine (lebFaultS_is HF.out _ HD1.out HD2.out).mono ?_
    rintro e w1 ⟨rfl, rfl⟩
    go_wp2
    refine bodyPost_ret (results4 rfl _ _ _) rfl ?_
    exact ⟨by rw [hR.out]; rfl, rfl⟩

/-- A shift by 70 leaves nothing of 64 bits. -/
theorem shl70 {P : Program} (x : Int) (hx : x = 70) (w : World) : (Op.shift .shl .u64 18446744073709551615 .i64 x).run P w = .ok (.int .u64 0) w := by
  subst hx
  rfl

/-- The sign laid above the bits, and the whole as an int. -/
theorem sign_laid {l : List Int} {m : Nat} (hl : l.length ≤ 9) (hm : val64 l = m) (hneg : 64 ≤ l.getLastD 0) (L : Nat) (hL : l.length = L) :
    wrap64 (bits .or .u64 (m : Int) (IntKind.u64.wrap (18446744073709551615 * 2 ^ (7 * L)))) = sval l := by
  subst hL
  have hb := sval_i64 (l := l) (by omega) (fun h => by omega)
  have h1 := val_lt l
  have h2 : (128 : Nat) ^ l.length ≤ 128 ^ 9 := Nat.pow_le_pow_right (by decide) hl
  have h3 : (128 : Nat) ^ 9 = 9223372036854775808 := by decide
  have hv : m = val l := by rw [← hm]; exact val64_of (by omega)
  have e1 : IntKind.u64.wrap (18446744073709551615 * 2 ^ (7 * l.length)) = ((18446744073709551615 * 2 ^ (7 * l.length) % 18446744073709551616 : Nat) : Int) := by
    rw [IntKind.wrap_u64]
    simp
  have es : sval l = (val l : Int) - ((128 ^ l.length : Nat) : Int) := by
    unfold sval sgn
    rw [if_pos hneg, sfrom_val]
    simp
    omega
  rw [e1, u64_or_nat _ _ (by omega) (Nat.mod_lt _ (by decide)), hv, or_high _ _ l.length h1 hl, ← IntWalk.i64_left]
  refine wrap_i64_of ?_ hb.1 hb.2
  rw [es]
  generalize (128 : Nat) ^ l.length = P at *
  omega

/-- The bits as an int, where there is no sign, or it stands among the bits. -/
theorem sign_in {l : List Int} {m : Nat} (hl : l.length ≤ 10) (h10 : l.length = 10 → l.getLastD 0 = 0 ∨ l.getLastD 0 = 127) (hm : val64 l = m) (hs : l.getLastD 0 < 64 ∨ l.length = 10) : wrap64 (m : Int) = sval l := by
  have hb := sval_i64 hl h10
  rw [← IntWalk.i64_left]
  refine wrap_i64_of ?_ hb.1 hb.2
  unfold val64 at hm
  have es : sval l = (val l : Int) + sgn l * ((128 ^ l.length : Nat) : Int) := by
    unfold sval
    rw [sfrom_val]
    simp
  rw [es]
  rcases hs with hs | hs
  · have : sgn l = 0 := by unfold sgn; rw [if_neg (by omega)]
    rw [this]
    omega
  · have h70 : (128 : Nat) ^ l.length = 1180591620717411303424 := by rw [hs]
    rw [h70]
    rcases sgn_cases l with h0 | h0 <;> rw [h0] <;> omega

set_option maxHeartbeats 400000 in
set_option maxRecDepth 100000 in
/-- The program's ReadS, where a number's bytes end: it is fine. -/
theorem readS_ends (s : ByteArray) (a L : Nat) (w : World) (hs : s.size ≤ 2000) (ha : a ≤ s.size) (hL1 : 1 ≤ L) (hL2 : L ≤ 10) (hL3 : a + L ≤ s.size)
    (HE : Hid (endsAt s a = (((a + L : Nat) : Int), 0))) (hf : Hid (faultS (seg s a (a + L)) = 0))
    (HL : Hid ((seg s a (a + L)).length = L)) (HT : Hid ((seg s a (a + L)).getLastD 0 = ((s[a + L - 1]'(by omega)).toNat : Int))) (hl7 : ((s[a + L - 1]'(by omega)).toNat : Int) < 128)
    (H10 : Hid ((seg s a (a + L)).length = 10 → (seg s a (a + L)).getLastD 0 = 0 ∨ (seg s a (a + L)).getLastD 0 = 127)) :
    Calls Try.prog 85 #[.string s, .int .i64 a] w fun e w' => e = .returned ((readS s a).told .i64) ∧ w = w' := by
  have HZ := put (extract_size hL3)
  have hd1 : 1 ≤ (s.extract a (a + L)).size := by rw [HZ.out]; exact hL1
  have hd2 : (s.extract a (a + L)).size ≤ 10 := by rw [HZ.out]; exact hL2
  have HD1 := put hd1; clear hd1
  have HD2 := put hd2; clear hd2
  have HF := put (show faultS (nums (s.extract a (a + L))) = 0 by rw [nums_extract]; exact hf)
  have hR := put (readS_fine HE.out hf.out)
  obtain ⟨m, hm⟩ : ∃ m, val64 (seg s a (a + L)) = m := ⟨_, rfl⟩
  have HV := put (show val64 (nums (s.extract a (a + L))) = m by rw [nums_extract]; exact hm)
  have HM := put hm; clear hm
  have hmb : (m : Int) ≤ 18446744073709551615 := by have h := HM.out; unfold val64 at h; omega
  have h64 := and64_byte (s[a + L - 1]'(by omega))
  have hl10 : (seg s a (a + L)).length ≤ 10 := by rw [HL.out]; exact hL2
  have HL10 := put hl10; clear hl10
  by_cases hneg : 64 ≤ ((s[a + L - 1]'(by omega)).toNat : Int)
  · by_cases h10 : L < 10
    · have hfin := put (sign_laid (l := seg s a (a + L)) (by rw [HL.out]; omega) HM.out (by rw [HT.out]; exact hneg) L HL.out)
      go_enter Try.func85, Try.ntmps85
      go_wp2_with fail
      refine (lebEnd_is HE.out _ hs ha).mono ?_
      rintro e w1 ⟨rfl, rfl⟩
      go_wp2_with fail
      refine (lebFaultS_is HF.out _ HD1.out HD2.out).mono ?_
      rintro e w1 ⟨rfl, rfl⟩
      go_wp2_with fail
      refine (lebBits_is HV.out _ HD2.out).mono ?_
      rintro e w1 ⟨rfl, rfl⟩
      go_wp2
      refine bodyPost_ret (results4 rfl _ _ _) rfl ?_
      exact ⟨by rw [hR.out, Read.told, ← hfin.out]; rfl, rfl⟩
    · obtain rfl : L = 10 := by omega
      have hfin := put (sign_in HL10.out H10.out HM.out (.inr HL.out))
      have h64' : bits .and .u8 ((s[a + 9]'(by omega)).toNat : Int) 64 = ((s[a + 9]'(by omega)).toNat : Int) / 64 % 2 * 64 := h64
      have hneg' : 64 ≤ ((s[a + 9]'(by omega)).toNat : Int) := hneg
      have hl7' : ((s[a + 9]'(by omega)).toNat : Int) < 128 := hl7
      have hor0 : bits .or .u64 (m : Int) 0 = (m : Int) := by
        have := u64_or_nat m 0 (by omega) (by decide)
        simpa using this
      have hshl := fun W => shl70 (P := Try.prog) (7 * ((a : Int) + 10 - a)) (by omega) W
      clear h64 hneg hl7
      go_enter Try.func85, Try.ntmps85
      go_wp2_with fail
      refine (lebEnd_is HE.out _ hs ha).mono ?_
      rintro e w1 ⟨rfl, rfl⟩
      go_wp2_with fail
      refine (lebFaultS_is HF.out _ HD1.out HD2.out).mono ?_
      rintro e w1 ⟨rfl, rfl⟩
      go_wp2_with fail
      refine (lebBits_is HV.out _ HD2.out).mono ?_
      rintro e w1 ⟨rfl, rfl⟩
      go_wp2
      refine bodyPost_ret (results4 rfl _ _ _) rfl ?_
      exact ⟨by rw [hR.out, Read.told, ← hfin.out]; rfl, rfl⟩
  · have hfin := put (sign_in HL10.out H10.out HM.out (.inl (by rw [HT.out]; omega)))
    go_enter Try.func85, Try.ntmps85
    go_wp2_with fail
    refine (lebEnd_is HE.out _ hs ha).mono ?_
    rintro e w1 ⟨rfl, rfl⟩
    go_wp2_with fail
    refine (lebFaultS_is HF.out _ HD1.out HD2.out).mono ?_
    rintro e w1 ⟨rfl, rfl⟩
    go_wp2_with fail
    refine (lebBits_is HV.out _ HD2.out).mono ?_
    rintro e w1 ⟨rfl, rfl⟩
    go_wp2
    refine bodyPost_ret (results4 rfl _ _ _) rfl ?_
    exact ⟨by rw [hR.out, Read.told, ← hfin.out]; rfl, rfl⟩

set_option maxHeartbeats 400000 in
set_option maxRecDepth 100000 in
theorem readS_none_any (s : ByteArray) (a : Nat) (c : Int) (w : World) (hs : s.size ≤ 2000) (ha : a ≤ s.size) (HE : Hid (endsAt s a = (0, c))) (hc : c = 2 ∨ c = 3) :
    Calls Try.prog 85 #[.string s, .int .i64 a] w fun e w' => e = .returned ((readS s a).told .i64) ∧ w = w' := by
  rcases hc with rfl | rfl
  all_goals
    have hR := put (readS_none HE.out (by decide))
    go_enter Try.func85, Try.ntmps85
    go_wp2_with fail
    refine (lebEnd_is HE.out _ hs ha).mono ?_
    rintro e w1 ⟨rfl, rfl⟩
    go_wp2
    refine bodyPost_ret (results4 rfl _ _ _) rfl ?_
    exact ⟨by rw [hR.out]; rfl, rfl⟩

set_option maxHeartbeats 400000 in
set_option maxRecDepth 100000 in
/-- The program's ReadS of a text or a place that is not as said. -/
theorem readS_bad (s : ByteArray) (a : Int) (w : World) (hs : s.size ≤ 9223372036854775807) (h : 2000 < s.size ∨ a < 0 ∨ (s.size : Int) < a) :
    Calls Try.prog 85 #[.string s, .int .i64 a] w fun e w' => e = .returned (.tuple #[.int .i64 0, .int .i64 0, .int .i64 1, .bool false]) ∧ w = w' := by
  go_enter Try.func85, Try.ntmps85
  go_wp2_with fail
  refine (lebEnd_bad s a _ hs h).mono ?_
  rintro e w1 ⟨rfl, rfl⟩
  go_wp2
  refine bodyPost_ret (results4 rfl _ _ _) rfl ?_
  exact ⟨rfl, rfl⟩

end Go.Proofs.Ytkfdehmmhgcapaa

/-
  The walk of the law FnLeb.
-/
import Derived.Test.YtogkpkcpcakakaaBack
import Derived.Test.YtogkpkcpcakakaaDrawText
import Derived.Test.YtogkpkcpcakakaaLongU
import Derived.Lib.QuietBelow
import Derived.BigQuiet
namespace Go.Proofs.Ytogkpkcpcakakaa
open Go.RowKit Leb

set_option maxHeartbeats 400000 in
set_option maxRecDepth 100000 in
theorem big_no (A A' : Option Addr) (n n' c c' : Nat) (w : World) (h : n + n' ≤ 1048576) :
    Calls Try.prog 13 #[.slice A n c, .slice A' n' c'] w fun e w' => e = .returned (.bool false) ∧ w = w' := by
  have b1 : decide ((1048576 : Int) < (n : Int)) = false := by simp; omega
  have b2 : decide ((1048576 : Int) - (n : Int) < (n' : Int)) = false := by simp; omega
  go_enter Try.func13, Try.ntmps13
  go_wp2
  go_ret
  exact ⟨rfl, rfl⟩

set_option maxHeartbeats 400000 in
set_option maxRecDepth 100000 in
theorem big_yes (A A' : Option Addr) (n n' c c' : Nat) (w : World) (h : 1048576 < n + n') (hn : n ≤ 9223372036854775807) (_hn' : n' ≤ 9223372036854775807) :
    Calls Try.prog 13 #[.slice A n c, .slice A' n' c'] w fun e w' => e = .returned (.bool true) ∧ w = w' := by
  by_cases h1 : (1048576 : Int) < (n : Int)
  · have b1 : decide ((1048576 : Int) < (n : Int)) = true := by simpa using h1
    go_enter Try.func13, Try.ntmps13
    go_wp2
    go_ret
    exact ⟨rfl, rfl⟩
  · have b1 : decide ((1048576 : Int) < (n : Int)) = false := by simpa using h1
    have b2 : decide ((1048576 : Int) - (n : Int) < (n' : Int)) = true := by simp; omega
    go_enter Try.func13, Try.ntmps13
    go_wp2
    go_ret
    exact ⟨rfl, rfl⟩

/-- ReadU of a number's bytes with a byte behind them. -/
theorem readU_z {n L : Nat} {S : ByteArray} (hn : (n : Int) ≤ 18446744073709551615) (hS : strOfNums (putU n) = S) (hL : (putU n).length = L) (w : World) :
    Calls Try.prog 16 #[.string (S ++ ⟨#[122]⟩), .int .i64 0] w fun e w' => e = .returned (.tuple #[.int .u64 n, .int .i64 L, .int .i64 0, .bool true]) ∧ w = w' := by
  have hsz : (S ++ ⟨#[122]⟩ : ByteArray).size = L + 1 := by rw [ByteArray.size_append, ← hS, strOfNums_size, hL]; rfl
  have hl10 := putU_length_u64 (n := n) (by omega)
  have hb : readU (S ++ ⟨#[122]⟩) 0 = ⟨n, ((0 + (putU n).length : Nat) : Int), 0, true⟩ := by
    refine readU_back (by omega) ?_ (by rw [hsz]; omega)
    have := seg_mid ByteArray.empty ⟨#[122]⟩ (putU n) (putU_range n)
    rw [hS, show ByteArray.empty ++ S = S from ByteArray.empty_append] at this
    exact this
  have h := readU_any (S ++ ⟨#[122]⟩) 0 w (by rw [hsz]; omega) (by omega)
  rw [hb, Nat.zero_add, hL] at h
  exact h

/-- ReadS of a number's bytes with a byte ahead of them. -/
theorem readS_a {n : Int} {L : Nat} {S : ByteArray} (h1 : -9223372036854775808 ≤ n) (h2 : n ≤ 9223372036854775807) (hS : strOfNums (putS n) = S) (hL : (putS n).length = L) (w : World) :
    Calls Try.prog 22 #[.string (⟨#[97]⟩ ++ S), .int .i64 1] w fun e w' => e = .returned (.tuple #[.int .i64 n, .int .i64 ((L : Int) + 1), .int .i64 0, .bool true]) ∧ w = w' := by
  have hsz : (⟨#[97]⟩ ++ S : ByteArray).size = 1 + L := by rw [ByteArray.size_append, ← hS, strOfNums_size, hL]; rfl
  have hl10 := putS_length_i64 h1 h2
  have hb : readS (⟨#[97]⟩ ++ S) 1 = ⟨n, ((1 + (putS n).length : Nat) : Int), 0, true⟩ := by
    refine readS_back h1 h2 ?_ (by rw [hsz]; omega)
    have := seg_mid ⟨#[97]⟩ ByteArray.empty (putS n) (putS_range n)
    rw [hS, show (⟨#[97]⟩ ++ S) ++ ByteArray.empty = ⟨#[97]⟩ ++ S from ByteArray.append_empty] at this
    exact this
  have h := readS_any (⟨#[97]⟩ ++ S) 1 w (by rw [hsz]; omega) (by rw [hsz]; omega)
  rw [hb, hL] at h
  have e : ((1 + L : Nat) : Int) = (L : Int) + 1 := by omega
  rw [e] at h
  exact h

/-- What ReadU answers: a number whose bytes stand there, or none. -/
theorem readU_form {s : ByteArray} {a : Nat} (ha : a ≤ s.size) : (∃ m L : Nat, readU s a = ⟨m, ((a + L : Nat) : Int), 0, true⟩ ∧ a + L ≤ s.size ∧ (m : Int) ≤ 18446744073709551615 ∧ strOfNums (putU m) = s.extract a (a + L)) ∨ ∃ c : Int, readU s a = ⟨0, 0, c, false⟩ := by
  rcases ends_shape s a ha with ⟨L, hL1, hL2, hL3, hE, hsh⟩ | hE | hE
  · have hlen : (seg s a (a + L)).length = L := by rw [seg_length s a (a + L) (by omega) hL3]; omega
    rcases faultU_cases (seg s a (a + L)) with ⟨hf, _⟩ | ⟨_, hf, _⟩ | ⟨h10, hf, hp⟩
    · right; exact ⟨3, readU_fault hE hf (by decide)⟩
    · right; exact ⟨4, readU_fault hE hf (by decide)⟩
    · left
      refine ⟨val (seg s a (a + L)), L, readU_fine hE hf, hL3, by have := val_u64 hsh (by omega) h10; omega, ?_⟩
      rw [(putU_val hsh).2 hp, ← nums_extract, strOfNums_nums]
  · right; exact ⟨2, readU_none hE (by decide)⟩
  · right; exact ⟨3, readU_none hE (by decide)⟩
theorem readS_form {s : ByteArray} {a : Nat} (ha : a ≤ s.size) : (∃ (m : Int) (L : Nat), readS s a = ⟨m, ((a + L : Nat) : Int), 0, true⟩ ∧ a + L ≤ s.size ∧ -9223372036854775808 ≤ m ∧ m ≤ 9223372036854775807 ∧ strOfNums (putS m) = s.extract a (a + L)) ∨ ∃ c : Int, readS s a = ⟨0, 0, c, false⟩ := by
  rcases ends_shape s a ha with ⟨L, hL1, hL2, hL3, hE, hsh⟩ | hE | hE
  · have hlen : (seg s a (a + L)).length = L := by rw [seg_length s a (a + L) (by omega) hL3]; omega
    rcases faultS_cases (seg s a (a + L)) with ⟨hf, _⟩ | ⟨_, hf, _⟩ | ⟨h10, hf, hp⟩
    · right; exact ⟨3, readS_fault hE hf (by decide)⟩
    · right; exact ⟨4, readS_fault hE hf (by decide)⟩
    · left
      have hr := sval_i64 (l := seg s a (a + L)) (by omega) h10
      refine ⟨sval (seg s a (a + L)), L, readS_fine hE hf, hL3, hr.1, hr.2, ?_⟩
      rw [(putS_val hsh).2 hp, ← nums_extract, strOfNums_nums]
  · right; exact ⟨2, readS_none hE (by decide)⟩
  · right; exact ⟨3, readS_none hE (by decide)⟩

theorem putU_is {m : Nat} {E : ByteArray} (hm : (m : Int) ≤ 18446744073709551615) (hE : strOfNums (putU m) = E) (w : World) :
    Calls Try.prog 15 #[.int .u64 m] w fun e w' => e = .returned (.string E) ∧ Below w.heap.size w w' := by
  have h := putU_any m w hm
  rw [hE] at h
  exact h
theorem putS_is {m : Int} {E : ByteArray} (h1 : -9223372036854775808 ≤ m) (h2 : m ≤ 9223372036854775807) (hE : strOfNums (putS m) = E) (w : World) :
    Calls Try.prog 21 #[.int .i64 m] w fun e w' => e = .returned (.string E) ∧ Below w.heap.size w w' := by
  have h := putS_any m w h1 h2 (putS_length_i64 h1 h2)
  rw [hE] at h
  exact h

theorem readU_told {s : ByteArray} {a : Nat} {x p c : Int} {b : Bool} (h : readU s a = ⟨x, p, c, b⟩) (w : World) (hs : s.size ≤ 2000) (ha : a ≤ s.size) :
    Calls Try.prog 16 #[.string s, .int .i64 a] w fun e w' => e = .returned (.tuple #[.int .u64 x, .int .i64 p, .int .i64 c, .bool b]) ∧ w = w' := by
  have k := readU_any s a w hs ha
  rw [h] at k
  exact k
theorem specReadU_told {s : ByteArray} {a : Nat} {x p c : Int} {b : Bool} (h : readU s a = ⟨x, p, c, b⟩) (w : World) (hs : s.size ≤ 2000) (ha : a ≤ s.size) :
    Calls Try.prog 25 #[.string s, .int .i64 a] w fun e w' => e = .returned (.tuple #[.int .u64 x, .int .i64 p, .int .i64 c, .bool b]) ∧ Below w.heap.size w w' := by
  have k := specReadU_any s a w hs ha
  rw [h] at k
  exact k
theorem readS_told {s : ByteArray} {a : Nat} {x p c : Int} {b : Bool} (h : readS s a = ⟨x, p, c, b⟩) (w : World) (hs : s.size ≤ 2000) (ha : a ≤ s.size) :
    Calls Try.prog 22 #[.string s, .int .i64 a] w fun e w' => e = .returned (.tuple #[.int .i64 x, .int .i64 p, .int .i64 c, .bool b]) ∧ w = w' := by
  have k := readS_any s a w hs ha
  rw [h] at k
  exact k
theorem specReadS_told {s : ByteArray} {a : Nat} {x p c : Int} {b : Bool} (h : readS s a = ⟨x, p, c, b⟩) (w : World) (hs : s.size ≤ 2000) (ha : a ≤ s.size) :
    Calls Try.prog 26 #[.string s, .int .i64 a] w fun e w' => e = .returned (.tuple #[.int .i64 x, .int .i64 p, .int .i64 c, .bool b]) ∧ Below w.heap.size w w' := by
  have k := specReadS_any s a w hs ha
  rw [h] at k
  exact k

set_option maxHeartbeats 2000000 in
set_option maxRecDepth 100000 in
theorem leb_walk (A A' : Option Addr) (n n' c c' : Nat) (bs bs' : List Int) (w : World) (hr : Reads w w.heap.size .u8 A n bs) (hr' : Reads w w.heap.size .u8 A' n' bs') (hbs : Hid (∀ x ∈ bs, 0 ≤ x ∧ x ≤ 255)) (hbs' : Hid (∀ x ∈ bs', 0 ≤ x ∧ x ≤ 255)) (hn : n + n' ≤ 1048576) :
    Calls Try.prog 3 #[.slice A n c, .slice A' n' c'] w fun e w' => e = .returned (.bool true) ∧ Below w.heap.size w w' := by
  go_enter Try.func3, Try.ntmps3
  go_wp2_with fail
  refine (big_no A A' n n' c c' _ hn).mono ?_
  rintro e w1 ⟨rfl, rfl⟩
  go_wp2_with fail
  refine (drawPutU_any A n c bs _ hr hbs (by omega)).mono ?_
  rintro e w1 ⟨x, hx0, hx1, rfl, hb1⟩
  obtain ⟨x, rfl⟩ := Int.eq_ofNat_of_zero_le hx0
  obtain ⟨S, hS⟩ : ∃ S, strOfNums (putU x) = S := ⟨_, rfl⟩
  obtain ⟨L, hL⟩ : ∃ L, (putU x).length = L := ⟨_, rfl⟩
  have hSz : S.size = L := by rw [← hS, strOfNums_size, hL]
  have hL10 : L ≤ 10 := by rw [← hL]; exact putU_length_u64 (by omega)
  have HS := put hS
  have HL := put hL
  clear hS hL hx0
  go_wp2_with fail
  refine (putU_any x _ hx1).mono ?_
  rintro e w2 ⟨rfl, hb2⟩
  rw [HS.out]
  have hb12 : Below w.heap.size w w2 := hb1.trans (hb2.mono hb1.size)
  clear hb1 hb2
  go_wp2_with fail
  refine (readU_z hx1 HS.out HL.out _).mono ?_
  rintro e w3 ⟨rfl, rfl⟩
  go_wp2_with fail
  refine (specPutU_any x _ hx1).mono ?_
  rintro e w4 ⟨rfl, hb4⟩
  rw [HS.out]
  have hb14 : Below w.heap.size w w4 := hb12.trans (hb4.mono hb12.size)
  clear hb12 hb4
  go_wp2_with fail
  refine (longU_any x _ hx1).mono ?_
  rintro e w5 ⟨rfl, rfl⟩
  rw [HL.out]
  go_wp2_with fail
  refine (longU_any x _ hx1).mono ?_
  rintro e w5 ⟨rfl, rfl⟩
  rw [HL.out]
  go_wp2_with fail
  refine (specLongU_any x _ hx1).mono ?_
  rintro e w6 ⟨rfl, hb6⟩
  rw [HL.out]
  have hb16 : Below w.heap.size w w6 := hb14.trans (hb6.mono hb14.size)
  clear hb14 hb6
  go_wp2_with fail
  refine (drawPutS_any A n c bs _ ((hr.below hb16).more hb16.size) hbs (by omega)).mono ?_
  rintro e w7 ⟨y, hy0, hy1, rfl, hb7⟩
  have hb17 : Below w.heap.size w w7 := hb16.trans (hb7.mono hb16.size)
  obtain ⟨S2, hS2⟩ : ∃ S, strOfNums (putS y) = S := ⟨_, rfl⟩
  obtain ⟨L2, hL2⟩ : ∃ L, (putS y).length = L := ⟨_, rfl⟩
  have hSz2 : S2.size = L2 := by rw [← hS2, strOfNums_size, hL2]
  have hlen10 := put (putS_length_i64 hy0 hy1)
  have hL210 : L2 ≤ 10 := by rw [← hL2]; exact hlen10.out
  have HS2 := put hS2
  have HL2 := put hL2
  clear hS2 hL2 hb16 hb7
  go_wp2_with fail
  refine (putS_any y _ hy0 hy1 hlen10).mono ?_
  rintro e w8 ⟨rfl, hb8⟩
  rw [HS2.out]
  have hb18 : Below w.heap.size w w8 := hb17.trans (hb8.mono hb17.size)
  clear hb17 hb8
  go_wp2_with fail
  refine (readS_a hy0 hy1 HS2.out HL2.out _).mono ?_
  rintro e w9 ⟨rfl, rfl⟩
  go_wp2_with fail
  refine (specPutS_any y _ hy0 hy1 hlen10).mono ?_
  rintro e w9 ⟨rfl, hb9⟩
  rw [HS2.out]
  have hb19 : Below w.heap.size w w9 := hb18.trans (hb9.mono hb18.size)
  clear hb18 hb9
  go_wp2_with fail
  refine (drawReadU_any A' n' c' bs' _ ((hr'.below hb19).more hb19.size) hbs' (by omega)).mono ?_
  rintro e v1 ⟨u, a, hu, ha0, ha1, rfl, hc1⟩
  have hd1 : Below w.heap.size w v1 := hb19.trans (hc1.mono hb19.size)
  clear hb19 hc1
  by_cases hp : 0 ≤ a ∧ a ≤ u.size
  · obtain ⟨p1, p2⟩ := hp
    obtain ⟨p, rfl⟩ := Int.eq_ofNat_of_zero_le p1
    have p3 : p ≤ u.size := by omega
    have p4 : u.size ≤ 2000 := by omega
    have hform := readU_form (s := u) (a := p) p3
    have hform2 := readS_form (s := u) (a := p) p3
    rcases hform with ⟨m, M, hru, hM, hm, heq⟩ | ⟨k, hru⟩
    · have HU := put hru
      have HE := put heq
      clear hru heq
      rcases hform2 with ⟨m2, M2, hrs, hM2, hm2, hm3, heq2⟩ | ⟨k2, hrs⟩
      · have HU2 := put hrs
        have HE2 := put heq2
        clear hrs heq2
        go_wp2_with fail
        refine (readU_told HU.out _ p4 p3).mono ?_
        rintro e v2 ⟨rfl, rfl⟩
        go_wp2_with fail
        refine (specReadU_told HU.out _ p4 p3).mono ?_
        rintro e v2 ⟨rfl, hc2⟩
        have hd2 : Below w.heap.size w v2 := hd1.trans (hc2.mono hd1.size)
        clear hd1 hc2
        go_wp2_with fail
        refine (readS_told HU2.out _ p4 p3).mono ?_
        rintro e v3 ⟨rfl, rfl⟩
        go_wp2_with fail
        refine (specReadS_told HU2.out _ p4 p3).mono ?_
        rintro e v3 ⟨rfl, hc3⟩
        have hd3 : Below w.heap.size w v3 := hd2.trans (hc3.mono hd2.size)
        clear hd2 hc3
        go_wp2_with fail
        refine wp_region_quiet_below (by kernel_rfl) (by kernel_rfl) ?_
        repeat (first | go_big_quiet_step (first | (go_at_call 15; exact Calls.regrown_of (putU_is hm HE.out _)) | (go_at_call 21; exact Calls.regrown_of (putS_is hm2 hm3 HE2.out _))) | quiet_step (fail))
        refine wpQuiet_nil ?_
        intro _ hw'
        obtain ⟨⟨dq, osq⟩, hw''⟩ := hw'
        subst hw''
        go_wp2
        go_ret
        exact ⟨rfl, hd3.trans ((below_regrown v3 dq osq).mono hd3.size)⟩
      · have HU2 := put hrs
        clear hrs
        go_wp2_with fail
        refine (readU_told HU.out _ p4 p3).mono ?_
        rintro e v2 ⟨rfl, rfl⟩
        go_wp2_with fail
        refine (specReadU_told HU.out _ p4 p3).mono ?_
        rintro e v2 ⟨rfl, hc2⟩
        have hd2 : Below w.heap.size w v2 := hd1.trans (hc2.mono hd1.size)
        clear hd1 hc2
        go_wp2_with fail
        refine (readS_told HU2.out _ p4 p3).mono ?_
        rintro e v3 ⟨rfl, rfl⟩
        go_wp2_with fail
        refine (specReadS_told HU2.out _ p4 p3).mono ?_
        rintro e v3 ⟨rfl, hc3⟩
        have hd3 : Below w.heap.size w v3 := hd2.trans (hc3.mono hd2.size)
        clear hd2 hc3
        go_wp2_with fail
        refine wp_region_quiet_below (by kernel_rfl) (by kernel_rfl) ?_
        repeat (first | go_big_quiet_step ((go_at_call 15; exact Calls.regrown_of (putU_is hm HE.out _))) | quiet_step (fail))
        refine wpQuiet_nil ?_
        intro _ hw'
        obtain ⟨⟨dq, osq⟩, hw''⟩ := hw'
        subst hw''
        go_wp2
        go_ret
        exact ⟨rfl, hd3.trans ((below_regrown v3 dq osq).mono hd3.size)⟩
    · have HU := put hru
      clear hru
      rcases hform2 with ⟨m2, M2, hrs, hM2, hm2, hm3, heq2⟩ | ⟨k2, hrs⟩
      · have HU2 := put hrs
        have HE2 := put heq2
        clear hrs heq2
        go_wp2_with fail
        refine (readU_told HU.out _ p4 p3).mono ?_
        rintro e v2 ⟨rfl, rfl⟩
        go_wp2_with fail
        refine (specReadU_told HU.out _ p4 p3).mono ?_
        rintro e v2 ⟨rfl, hc2⟩
        have hd2 : Below w.heap.size w v2 := hd1.trans (hc2.mono hd1.size)
        clear hd1 hc2
        go_wp2_with fail
        refine (readS_told HU2.out _ p4 p3).mono ?_
        rintro e v3 ⟨rfl, rfl⟩
        go_wp2_with fail
        refine (specReadS_told HU2.out _ p4 p3).mono ?_
        rintro e v3 ⟨rfl, hc3⟩
        have hd3 : Below w.heap.size w v3 := hd2.trans (hc3.mono hd2.size)
        clear hd2 hc3
        go_wp2_with fail
        refine wp_region_quiet_below (by kernel_rfl) (by kernel_rfl) ?_
        repeat (first | go_big_quiet_step ((go_at_call 21; exact Calls.regrown_of (putS_is hm2 hm3 HE2.out _))) | quiet_step (fail))
        refine wpQuiet_nil ?_
        intro _ hw'
        obtain ⟨⟨dq, osq⟩, hw''⟩ := hw'
        subst hw''
        go_wp2
        go_ret
        exact ⟨rfl, hd3.trans ((below_regrown v3 dq osq).mono hd3.size)⟩
      · have HU2 := put hrs
        clear hrs
        go_wp2_with fail
        refine (readU_told HU.out _ p4 p3).mono ?_
        rintro e v2 ⟨rfl, rfl⟩
        go_wp2_with fail
        refine (specReadU_told HU.out _ p4 p3).mono ?_
        rintro e v2 ⟨rfl, hc2⟩
        have hd2 : Below w.heap.size w v2 := hd1.trans (hc2.mono hd1.size)
        clear hd1 hc2
        go_wp2_with fail
        refine (readS_told HU2.out _ p4 p3).mono ?_
        rintro e v3 ⟨rfl, rfl⟩
        go_wp2_with fail
        refine (specReadS_told HU2.out _ p4 p3).mono ?_
        rintro e v3 ⟨rfl, hc3⟩
        have hd3 : Below w.heap.size w v3 := hd2.trans (hc3.mono hd2.size)
        clear hd2 hc3
        go_wp2_with fail
        refine wp_region_quiet_below (by kernel_rfl) (by kernel_rfl) ?_
        repeat (first | go_big_quiet_step (fail) | quiet_step (fail))
        refine wpQuiet_nil ?_
        intro _ hw'
        obtain ⟨⟨dq, osq⟩, hw''⟩ := hw'
        subst hw''
        go_wp2
        go_ret
        exact ⟨rfl, hd3.trans ((below_regrown v3 dq osq).mono hd3.size)⟩
  · have hp' : 2000 < u.size ∨ a < 0 ∨ (u.size : Int) < a := by omega
    have p5 : u.size ≤ 9223372036854775807 := by omega
    go_wp2_with fail
    refine (readU_bad u a _ p5 hp').mono ?_
    rintro e v2 ⟨rfl, rfl⟩
    go_wp2_with fail
    refine (specReadU_bad u a _ p5 hp').mono ?_
    rintro e v2 ⟨rfl, rfl⟩
    go_wp2_with fail
    refine (readS_bad u a _ p5 hp').mono ?_
    rintro e v2 ⟨rfl, rfl⟩
    go_wp2_with fail
    refine (specReadS_bad u a _ p5 hp').mono ?_
    rintro e v2 ⟨rfl, rfl⟩
    go_wp2_with fail
    refine wp_region_quiet_below (by kernel_rfl) (by kernel_rfl) ?_
    repeat (first | go_big_quiet_step (fail) | quiet_step (fail))
    refine wpQuiet_nil ?_
    intro _ hw'
    obtain ⟨⟨dq, osq⟩, hw''⟩ := hw'
    subst hw''
    go_wp2
    go_ret
    exact ⟨rfl, hd1.trans ((below_regrown v1 dq osq).mono hd1.size)⟩

end Go.Proofs.Ytogkpkcpcakakaa

/-
  Contracts of what the law FnExprs draws, and of the laws' own functions.
-/
import Derived.Test.YtpknbdaicmacjaaGreatDoorDrawA
import Derived.Test.YtpknbdaicmacjaaGreatDoorSText2
namespace Go.Proofs.YtpknbdaicmacjaaGreatDoor
open Go.RowKit Exs

set_option maxHeartbeats 400000 in
set_option maxRecDepth 100000 in
theorem big_no (A A' : Option Addr) (n n' c c' : Nat) (w : World) (h : n + n' ≤ 1048576) :
    Calls Tryz.prog 4 #[.slice A n c, .slice A' n' c'] w fun e w' => e = .returned (.bool false) ∧ w = w' := by
  have b1 : decide ((1048576 : Int) < (n : Int)) = false := by simp; omega
  have b2 : decide ((1048576 : Int) - (n : Int) < (n' : Int)) = false := by simp; omega
  go_enter Tryz.func4, Tryz.ntmps4
  go_wp2
  go_ret
  exact ⟨rfl, rfl⟩

set_option maxHeartbeats 400000 in
set_option maxRecDepth 100000 in
theorem big_yes (A A' : Option Addr) (n n' c c' : Nat) (w : World) (h : 1048576 < n + n') (hn : n ≤ 9223372036854775807) (_hn' : n' ≤ 9223372036854775807) :
    Calls Tryz.prog 4 #[.slice A n c, .slice A' n' c'] w fun e w' => e = .returned (.bool true) ∧ w = w' := by
  by_cases h1 : (1048576 : Int) < (n : Int)
  · have b1 : decide ((1048576 : Int) < (n : Int)) = true := by simpa using h1
    go_enter Tryz.func4, Tryz.ntmps4
    go_wp2
    go_ret
    exact ⟨rfl, rfl⟩
  · have b1 : decide ((1048576 : Int) < (n : Int)) = false := by simpa using h1
    have b2 : decide ((1048576 : Int) - (n : Int) < (n' : Int)) = true := by simp; omega
    go_enter Tryz.func4, Tryz.ntmps4
    go_wp2
    go_ret
    exact ⟨rfl, rfl⟩

/-- What 'spoilt' gives: a text that is hardly longer. -/
def Spoilt (g : Nat) (A : Option Addr) (n c T hi : Nat) (w : World) (e : Ending) (w' : World) : Prop :=
  ∃ s : ByteArray, s.size ≤ hi ∧ e = .returned (.string s) ∧ Cur w' g A n c T ∧ w.grownBy w' (some g)

theorem Cur.drewN {w : World} {g : Nat} {A : Option Addr} {n c T : Nat} (h : Cur w g A n c T) (q : Nat) : Cur (w.drewN q) g A n c T := h

/-- 'string([]byte{b})'. -/
theorem one_byte (w : World) (b : UInt8) : (convert 22 9 (.slice (some ⟨w.heap.size, 0, none⟩) 1 1)).run Tryz.prog (w.alloc (.cells #[.int .u8 ((b.toNat : Nat) : Int)] 5)) = .ok (.string (strOfNums [((b.toNat : Nat) : Int)])) (w.alloc (.cells #[.int .u8 ((b.toNat : Nat) : Int)] 5)) := by
  refine run_convert_bytes_arg (P := Tryz.prog) _ 22 5 Tryz.underlying22 Tryz.underlying5 w.heap.size 0 1 1 [((b.toNat : Nat) : Int)] rfl (fun q hq => ?_) 9 Tryz.underlying9
  obtain rfl : q = 0 := by omega
  simp

set_option maxHeartbeats 1000000 in
set_option maxRecDepth 100000 in
theorem spoilt_any (g : Nat) (A : Option Addr) (n c T : Nat) (s0 W : ByteArray) (w : World) (hc : Cur w g A n c T) (hT : T ≤ 500000) (hs0 : s0.size ≤ 2000) (hW1 : 1 ≤ W.size) (hW2 : W.size ≤ 100) :
    Calls Tryz.prog 30 #[.pointer (some ⟨g, 0, none⟩), .string s0, .string W] w (Spoilt g A n c (T + 40) 2010 w) := by
  go_enter Tryz.func30, Tryz.ntmps30
  go_wp2_with fail
  refine (pick_any g A n c T 2 _ hc (by omega) (by omega) (by omega)).mono ?_
  rintro e w1 ⟨x, hx0, hx1, rfl, hc1, hg1⟩
  clear hc
  go_wp2_with fail
  go_loopw [1, 7] (fun v i wr => ∃ (k : Int) (s : ByteArray), 0 ≤ k ∧ k ≤ 2 ∧ i = .int .i64 k ∧ v = .string s ∧ s.size + k.toNat ≤ 2002 ∧ Cur wr g A n c (T + 30 - 10 * k.toNat) ∧ w.grownBy wr (some g)) (fun _ i _ => (intOf i).toNat)
  case atStart => exact ⟨1 + x, s0, by omega, by omega, rfl, rfl, by omega, hc1.more (by omega), hg1⟩
  case round =>
    clear hc1 hg1
    obtain ⟨k, s, hk0, hk1, rfl, rfl, hsz, hcr, hgr⟩ := hrel
    by_cases hk : 0 < k
    · by_cases hs : 0 < s.size
      · have b1 : decide (0 < k) = true := by simpa using hk
        have b2 : decide ((0 : Int) < (s.size : Int)) = true := by simp; omega
        go_wp2_with fail
        refine (pick_any g A n c _ s.size _ hcr (by omega) (by omega) (by omega)).mono ?_
        rintro e w2 ⟨i, hi0, hi1, rfl, hc2, hg2⟩
        obtain ⟨i, rfl⟩ := Int.eq_ofNat_of_zero_le hi0
        have hi : i < s.size := by omega
        have hgr2 := grownBy_trans hgr hg2
        clear hcr hgr hg2
        go_wp2_with fail
        refine (pick_any g A n c _ W.size _ hc2 (by omega) (by omega) (by omega)).mono ?_
        rintro e w3 ⟨j, hj0, hj1, rfl, hc3, hg3⟩
        obtain ⟨j, rfl⟩ := Int.eq_ofNat_of_zero_le hj0
        have hj : j < W.size := by omega
        have hgr3 := grownBy_trans hgr2 hg3
        clear hc2 hgr2 hg3
        have hconv := one_byte w3 W[j]
        obtain ⟨E, hE⟩ : ∃ E, strOfNums [((W[j].toNat : Nat) : Int)] = E := ⟨_, rfl⟩
        have hE1 : E.size ≤ 1 := by rw [← hE, strOfNums_size]; simp
        rw [hE] at hconv
        clear hE
        go_wp2_with fail
        refine (pick_any g A n c _ 3 _ (hc3.alloc _) (by omega) (by omega) (by omega)).mono ?_
        rintro e w4 ⟨y, hy0, hy1, rfl, hc4, hg4⟩
        have hgr4 := grownBy_trans hgr3 (grownBy_trans (World.grownBy_alloc _ _ _) hg4)
        clear hc3 hgr3 hg4 hconv
        have hx1' : (s.extract 0 i).size = i := by simp; omega
        have hx2' : (s.extract i s.size).size = s.size - i := by simp
        have hx3' : (s.extract (i + 1) s.size).size = s.size - (i + 1) := by simp
        have hy : y = 0 ∨ y = 1 ∨ y = 2 := by omega
        rcases hy with rfl | rfl | rfl
        all_goals
          go_wp2_with fail
          go_quiet (fail)
          go_wp2_with fail
          go_roundw
          case rel => exact ⟨k - 1, _, by omega, by omega, rfl, rfl, by simp only [ByteArray.size_append, hx1', hx2', hx3']; omega, (hc4.drewN _).more (by omega), grownBy_drewN hgr4 _⟩
          case measure => simp [intOf]; omega
      · have b1 : decide (0 < k) = true := by simpa using hk
        have b2 : decide ((0 : Int) < (s.size : Int)) = false := decide_eq_false (by omega)
        go_wp2
        go_ret
        exact ⟨s, by omega, rfl, hcr.more (by omega), hgr⟩
    · have b1 : decide (0 < k) = false := by simpa using hk
      go_wp2
      go_ret
      exact ⟨s, by omega, rfl, hcr.more (by omega), hgr⟩

theorem joinL_length : ∀ (ws : List (List UInt8)), (∀ u ∈ ws, u.length ≤ 11) → (joinL ws).length ≤ 12 * ws.length
  | [], _ => by simp [joinL]
  | [w], h => by have := h w (by simp); simp [joinL]; omega
  | w :: v :: ws, h => by
    have h1 := h w (by simp)
    have ih := joinL_length (v :: ws) (fun u hu => h u (by simp [hu]))
    simp only [joinL, List.length_append, List.length_cons] at *
    omega
theorem textAns_length (ts : List Token) : (textAns ts).1.length ≤ 144 := by
  unfold textAns
  split
  · rename_i h
    rw [Bool.and_eq_true] at h
    have hw := (within_iff _ _ _).1 h.2
    have := joinL_length (ts.map tokL) (by
      intro u hu
      obtain ⟨t, ht, rfl⟩ := List.mem_map.1 hu
      exact tokL_length (List.all_eq_true.1 h.1 t ht))
    rw [List.length_map] at this
    show (joinL (ts.map tokL)).length ≤ 144
    omega
  · simp

theorem grown_below {a w w' : World} {g : Nat} (h : a.grownBy w (some g)) (hb : Below w.heap.size w w') : a.grownBy w' (some g) :=
  ⟨hb.os.trans h.os, hb.tape.trans h.tape, hb.output.trans h.output, Nat.le_trans h.size hb.size, fun i hi hne => (hb.block i (Nat.lt_of_lt_of_le hi h.size)).trans (h.block i hi hne)⟩

/-- Drawn tokens. -/
def DrawnT (w : World) (e : Ending) (w' : World) : Prop :=
  ∃ (A : Option Addr) (m c : Nat) (ts : List Token), e = .returned (.slice A m c) ∧ ReadsT w' w'.heap.size A m ts ∧ m ≤ 80 ∧ Below w.heap.size w w'
/-- A drawn text. -/
def DrawnS (w : World) (e : Ending) (w' : World) : Prop := ∃ l : List UInt8, e = .returned (.string (strB l)) ∧ l.length ≤ 2010 ∧ Below w.heap.size w w'
/-- Drawn tokens, a number, and params. -/
def DrawnG (w : World) (e : Ending) (w' : World) : Prop :=
  ∃ (A : Option Addr) (m c : Nat) (ts : List Token) (x : Int) (p : Nat), e = .returned (.tuple #[.slice A m c, .int .i64 x, .slice (some ⟨p, 0, none⟩) 3 3]) ∧ ReadsT w' w'.heap.size A m ts ∧ m ≤ 80 ∧ Reads w' w'.heap.size .i64 (some ⟨p, 0, none⟩) 3 [1, 0, 2] ∧ Below w.heap.size w w'
def DrawnH (w : World) (e : Ending) (w' : World) : Prop :=
  ∃ (A : Option Addr) (m c : Nat) (ts : List Token) (p : Nat), e = .returned (.tuple #[.slice A m c, .slice (some ⟨p, 0, none⟩) 3 3]) ∧ ReadsT w' w'.heap.size A m ts ∧ m ≤ 80 ∧ Reads w' w'.heap.size .i64 (some ⟨p, 0, none⟩) 3 [1, 0, 2] ∧ Below w.heap.size w w'

set_option maxHeartbeats 400000 in
set_option maxRecDepth 100000 in
theorem drawExprText_any (A : Option Addr) (n c : Nat) (bs : List Int) (w : World) (hr : Reads w w.heap.size .u8 A n bs) (hbs : Hid (∀ x ∈ bs, 0 ≤ x ∧ x ≤ 255)) (hn : n ≤ 1048576) :
    Calls Tryz.prog 5 #[.slice A n c] w (DrawnT w) := by
  have hcur := put (Cur.new (c := c) hr hbs hn 0)
  go_enter Tryz.func5, Tryz.ntmps5
  go_wp2_with fail
  refine (anyExpr_any w.heap.size A n c 0 _ hcur.out (by omega)).mono ?_
  rintro e w1 ⟨A', m, c', ts, rfl, hr1, hm, hc1, hg1⟩
  go_wp2
  go_ret
  exact ⟨A', m, c', ts, rfl, hr1 _ (World.grownBy.refl _ _), hm, below_of_cur hg1⟩

set_option maxHeartbeats 400000 in
set_option maxRecDepth 100000 in
theorem drawReadExpr_any (A : Option Addr) (n c : Nat) (bs : List Int) (w : World) (hr : Reads w w.heap.size .u8 A n bs) (hbs : Hid (∀ x ∈ bs, 0 ≤ x ∧ x ≤ 255)) (hn : n ≤ 1048576) :
    Calls Tryz.prog 10 #[.slice A n c] w (DrawnS w) := by
  have hcur := put (Cur.new (c := c) hr hbs hn 0)
  go_enter Tryz.func10, Tryz.ntmps10
  go_wp2_with fail
  refine (anyExpr_any w.heap.size A n c 0 _ hcur.out (by omega)).mono ?_
  rintro e w1 ⟨A', m, c', ts, rfl, hr1, hm, hc1, hg1⟩
  go_wp2_with fail
  refine (specExprText_any A' m c' ts _ (hr1 _ (World.grownBy.refl _ _)) (by omega)).mono ?_
  rintro e w2 ⟨rfl, hb2⟩
  have hc2 := hc1.below hb2 hc1.lt
  have hg2 := grown_below hg1 hb2
  have hl := put (textAns_length ts)
  have HB := put (strB_size (textAns ts).1)
  clear hg1 hc1 hb2 hr1
  go_wp2_with fail
  refine (one_any w.heap.size A n c _ 3 _ hc2 (by omega) (by omega) (by omega)).mono ?_
  rintro e w3 ⟨b, rfl, hc3, hg3⟩
  have hg3' := grownBy_trans hg2 hg3
  cases b with
  | false =>
    go_wp2
    go_ret
    exact ⟨_, rfl, by have := hl.out; omega, below_of_cur hg3'⟩
  | true =>
    go_wp2_with fail
    refine (spoilt_any w.heap.size A n c _ _ _ _ hc3 (by omega) (by have := hl.out; rw [HB.out]; omega) (by decide) (by decide)).mono ?_
    rintro e w4 ⟨s, hs, rfl, hc4, hg4⟩
    go_wp2
    go_ret
    exact ⟨s.data.toList, rfl, hs, below_of_cur (grownBy_trans hg3' hg4)⟩

set_option maxHeartbeats 400000 in
set_option maxRecDepth 100000 in
theorem drawGoodExpr_any (A : Option Addr) (n c : Nat) (bs : List Int) (w : World) (hr : Reads w w.heap.size .u8 A n bs) (hbs : Hid (∀ x ∈ bs, 0 ≤ x ∧ x ≤ 255)) (hn : n ≤ 1048576) :
    Calls Tryz.prog 15 #[.slice A n c] w (DrawnG w) := by
  have hcur := put (Cur.new (c := c) hr hbs hn 0)
  go_enter Tryz.func15, Tryz.ntmps15
  go_wp2_with fail
  refine (anyExpr_any w.heap.size A n c 0 _ hcur.out (by omega)).mono ?_
  rintro e w1 ⟨A', m, c', ts, rfl, hr1, hm, hc1, hg1⟩
  go_wp2_with fail
  refine (among_any w.heap.size A n c _ _ (hc1.alloc _) (by omega) w1.heap.size 6 [3, 3, 3, 0, 6, 7] 0 7 (by refine Room.lit ?_ ?_ <;> rfl) rfl hc1.lt (by decide) (by decide) (by show ∀ x ∈ _, _; decide)).mono ?_
  rintro e w2 ⟨x, hx0, hx1, rfl, hc2, hg2⟩
  have hg2' := grownBy_trans (grownBy_alloc' hg1 _) hg2
  go_wp2
  go_ret3
  have HW := World.grownBy_alloc w2 (.cells #[.int .i64 1, .int .i64 0, .int .i64 2] 3) (some w.heap.size)
  exact ⟨A', m, c', ts, x, w2.heap.size, rfl, hr1 _ (grownBy_trans (grownBy_trans (World.grownBy_alloc _ _ _) hg2) HW), hm, (Room.lit (xs := [1, 0, 2]) (by rfl) (by rfl)).reads (by rfl), below_of_cur (grownBy_trans hg2' HW)⟩

set_option maxHeartbeats 400000 in
set_option maxRecDepth 100000 in
theorem drawHighOf_any (A : Option Addr) (n c : Nat) (bs : List Int) (w : World) (hr : Reads w w.heap.size .u8 A n bs) (hbs : Hid (∀ x ∈ bs, 0 ≤ x ∧ x ≤ 255)) (hn : n ≤ 1048576) :
    Calls Tryz.prog 12 #[.slice A n c] w (DrawnH w) := by
  go_enter Tryz.func12, Tryz.ntmps12
  go_wp2_with fail
  refine (drawGoodExpr_any A n c bs _ hr hbs hn).mono ?_
  rintro e w1 ⟨A', m, c', ts, x, p, rfl, h1, h2, h3, h4⟩
  go_wp2
  go_ret2
  exact ⟨A', m, c', ts, p, rfl, h1, h2, h3, h4⟩

set_option maxHeartbeats 400000 in
set_option maxRecDepth 100000 in
theorem sameToks_same (A A' : Option Addr) (n c c' : Nat) (ts : List Token) (w : World) (hr : ReadsT w w.heap.size A n ts) (hr' : ReadsT w w.heap.size A' n ts) (hn : n ≤ 1048576) :
    Calls Tryz.prog 9 #[.slice A n c, .slice A' n c'] w fun e w' => e = .returned (.bool true) ∧ ∃ q, w' = w.drewN q := by
  go_enter Tryz.func9, Tryz.ntmps9
  go_wp2
  go_loopw [13] (fun i wr => ∃ k q : Nat, k ≤ n ∧ i = .int .i64 k ∧ wr = w.drewN q) (fun i _ => n - (intOf i).toNat)
  case atStart => exact ⟨0, 0, Nat.zero_le _, rfl, rfl⟩
  case round =>
    obtain ⟨k, q, hk, rfl, rfl⟩ := hrel
    by_cases hlt : k < n
    · obtain ⟨b, off, op, x, rfl, hb, hc0, hc1, hx⟩ := hr.at_ hlt
      obtain ⟨b', off', op', x', rfl, hb', hc0', hc1', hx'⟩ := hr'.at_ hlt
      obtain ⟨rfl, rfl⟩ : op = op' ∧ x = x' := by have := hx.out; rw [hx'.out] at this; injection this with this; injection this with h1 h2; exact ⟨h1.symm, h2.symm⟩
      go_wp2
      go_quiet (fail)
      go_wp2
      go_roundw
      case rel => exact ⟨k + 1, _, by omega, by go_num, rfl⟩
      case measure => simp [intOf]; omega
    · go_wp2
      go_ret
      exact ⟨rfl, _, rfl⟩

end Go.Proofs.YtpknbdaicmacjaaGreatDoor

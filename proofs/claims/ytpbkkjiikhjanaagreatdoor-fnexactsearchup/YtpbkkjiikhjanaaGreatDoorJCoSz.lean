/-
  Texts joined: CoSz VzD FrM VzN McM.
-/
import Derived.Test.YtpbkkjiikhjanaaGreatDoorJCod
import Derived.Test.YtpbkkjiikhjanaaGreatDoorJCda4
/-
  The laws' counting of an image's values.
-/
namespace Go.Proofs.YtpbkkjiikhjanaaGreatDoor
open Go.RowKit Exs

def szA (m : Nat) (left : Int) : Int := if (m : Int) ≤ left then left - m else -1
theorem szA_fit {m : Nat} {left : Int} (h : (m : Int) ≤ left) : szA m left = left - m := by simp [szA, h]
theorem szA_no {m : Nat} {left : Int} (h : left < (m : Int)) : szA m left = -1 := by simp [szA]; omega

set_option maxHeartbeats 400000 in
theorem szInts_any (A : Option Addr) (n c : Nat) (left : Int) (w : World) (hn : n ≤ maxLen) (h0 : 0 ≤ left) (h1 : left ≤ 1048576) : Calls Tryz.prog 25 #[.slice A n c, .int .i64 left] w fun e w' => e = .returned (.int .i64 (szA n left)) ∧ w = w' := by
  unfold maxLen at hn
  by_cases h : (n : Int) ≤ left
  · rw [szA_fit h]
    go_enter Tryz.func25, Tryz.ntmps25
    go_wp2
    go_ret
    exact ⟨rfl, rfl⟩
  · have h := Int.not_le.1 h
    rw [szA_no h]
    go_enter Tryz.func25, Tryz.ntmps25
    go_wp2
    go_ret
    exact ⟨rfl, rfl⟩
set_option maxHeartbeats 400000 in
theorem szToks_any (A : Option Addr) (n c : Nat) (left : Int) (w : World) (hn : n ≤ maxLen) (h0 : 0 ≤ left) (h1 : left ≤ 1048576) : Calls Tryz.prog 73 #[.slice A n c, .int .i64 left] w fun e w' => e = .returned (.int .i64 (szA n left)) ∧ w = w' := by
  unfold maxLen at hn
  by_cases h : (n : Int) ≤ left
  · rw [szA_fit h]
    go_enter Tryz.func73, Tryz.ntmps73
    go_wp2
    go_ret
    exact ⟨rfl, rfl⟩
  · have h := Int.not_le.1 h
    rw [szA_no h]
    go_enter Tryz.func73, Tryz.ntmps73
    go_wp2
    go_ret
    exact ⟨rfl, rfl⟩

set_option maxHeartbeats 400000 in
theorem szRows_any (A : Option Addr) (n c : Nat) (left : Int) (w : World) (hn : n ≤ maxLen) (h0 : 0 ≤ left) (h1 : left ≤ 1048576) : Calls Tryz.prog 74 #[.slice A n c, .int .i64 left] w fun e w' => e = .returned (.int .i64 (szA n left)) ∧ w = w' := by
  unfold maxLen at hn
  by_cases h : (n : Int) ≤ left
  · rw [szA_fit h]
    go_enter Tryz.func74, Tryz.ntmps74
    go_wp2
    go_ret
    exact ⟨rfl, rfl⟩
  · have h := Int.not_le.1 h
    rw [szA_no h]
    go_enter Tryz.func74, Tryz.ntmps74
    go_wp2
    go_ret
    exact ⟨rfl, rfl⟩

/-- Slices no longer than memory lets them be. -/
def LongC (s : Cd) : Prop := s.sites.length ≤ maxLen ∧ s.ins.length ≤ maxLen ∧ s.rows.length ≤ maxLen
set_option maxHeartbeats 400000 in
theorem szCode_any (s : Cd) (A1 : Option Addr) (n1 c1 : Nat) (A2 : Option Addr) (n2 c2 : Nat) (A3 : Option Addr) (n3 c3 : Nat) (left : Int) (w : World) (e1 : s.sites.length = n1) (e2 : s.ins.length = n2) (e3 : s.rows.length = n3) (hl : LongC s) (h0 : 0 ≤ left) (h1 : left ≤ 1048576) :
    Calls Tryz.prog 49 #[cdV s A1 n1 c1 A2 n2 c2 A3 n3 c3, .int .i64 left] w fun e w' => e = .returned (.int .i64 (szA (manyC s) left)) ∧ Below w.heap.size w w' := by
  obtain ⟨l1, l2, l3⟩ := hl
  have hm := put (show manyC s = n1 + n2 + n3 by simp [manyC, e1, e2, e3])
  rw [e1] at l1; rw [e2] at l2; rw [e3] at l3
  clear e1 e2 e3
  unfold cdV
  by_cases k1 : (n1 : Int) ≤ left
  · by_cases k2 : (n2 : Int) ≤ left - n1
    · by_cases k3 : (n3 : Int) ≤ left - n1 - n2
      · rw [szA_fit (by rw [hm.out]; omega)]
        go_enter Tryz.func49, Tryz.ntmps49
        go_wp2_with fail
        refine (szInts_any _ _ _ _ _ l1 h0 h1).mono ?_
        rintro e w1 ⟨rfl, rfl⟩
        rw [szA_fit k1]
        go_wp2_with fail
        refine (szToks_any _ _ _ _ _ l2 (by omega) (by omega)).mono ?_
        rintro e w1 ⟨rfl, rfl⟩
        rw [szA_fit k2]
        go_wp2_with fail
        refine (szRows_any _ _ _ _ _ l3 (by omega) (by omega)).mono ?_
        rintro e w1 ⟨rfl, rfl⟩
        rw [szA_fit k3]
        go_wp2
        go_ret
        exact ⟨ret_int (by rw [hm.out]; omega), (Below.refl _ _).alloc (Nat.le_refl _) _⟩
      · have k3 := Int.not_le.1 k3
        rw [szA_no (by rw [hm.out]; omega)]
        go_enter Tryz.func49, Tryz.ntmps49
        go_wp2_with fail
        refine (szInts_any _ _ _ _ _ l1 h0 h1).mono ?_
        rintro e w1 ⟨rfl, rfl⟩
        rw [szA_fit k1]
        go_wp2_with fail
        refine (szToks_any _ _ _ _ _ l2 (by omega) (by omega)).mono ?_
        rintro e w1 ⟨rfl, rfl⟩
        rw [szA_fit k2]
        go_wp2_with fail
        refine (szRows_any _ _ _ _ _ l3 (by omega) (by omega)).mono ?_
        rintro e w1 ⟨rfl, rfl⟩
        rw [szA_no k3]
        go_wp2
        go_ret
        exact ⟨rfl, (Below.refl _ _).alloc (Nat.le_refl _) _⟩
    · have k2 := Int.not_le.1 k2
      rw [szA_no (by rw [hm.out]; omega)]
      go_enter Tryz.func49, Tryz.ntmps49
      go_wp2_with fail
      refine (szInts_any _ _ _ _ _ l1 h0 h1).mono ?_
      rintro e w1 ⟨rfl, rfl⟩
      rw [szA_fit k1]
      go_wp2_with fail
      refine (szToks_any _ _ _ _ _ l2 (by omega) (by omega)).mono ?_
      rintro e w1 ⟨rfl, rfl⟩
      rw [szA_no k2]
      go_wp2
      go_ret
      exact ⟨rfl, (Below.refl _ _).alloc (Nat.le_refl _) _⟩
  · have k1 := Int.not_le.1 k1
    rw [szA_no (by rw [hm.out]; omega)]
    go_enter Tryz.func49, Tryz.ntmps49
    go_wp2_with fail
    refine (szInts_any _ _ _ _ _ l1 h0 h1).mono ?_
    rintro e w1 ⟨rfl, rfl⟩
    rw [szA_no k1]
    go_wp2
    go_ret
    exact ⟨rfl, (Below.refl _ _).alloc (Nat.le_refl _) _⟩

set_option maxHeartbeats 400000 in
set_option maxRecDepth 100000 in
theorem szCodes_any (A : Option Addr) (n c : Nat) (ss : List Cd) (left : Int) (w : World) (hr : ReadsC w w.heap.size A n ss) (hn : n ≤ maxLen) (hl : ∀ s ∈ ss, LongC s) (h0 : 0 ≤ left) (h1 : left ≤ 1048576) :
    Calls Tryz.prog 23 #[.slice A n c, .int .i64 left] w fun e w' => e = .returned (.int .i64 (szA (n + manyCs ss) left)) ∧ Below w.heap.size w w' := by
  unfold maxLen at hn
  by_cases h : (n : Int) ≤ left
  · go_enter Tryz.func23, Tryz.ntmps23
    go_wp2
    go_loopw [1, 5] (fun l i wr => ∃ k : Nat, k ≤ n ∧ i = .int .i64 k ∧ Hid (((n + manyCs (ss.take k) : Nat) : Int) ≤ left) ∧ l = .int .i64 (left - n - manyCs (ss.take k)) ∧ Below w.heap.size w wr) (fun _ i _ => n - (intOf i).toNat)
    case atStart => exact ⟨0, Nat.zero_le _, rfl, put (by simp [manyCs]; exact h), by simp [manyCs], Below.refl _ _⟩
    case round =>
      obtain ⟨k, hk, rfl, hfit, rfl, hbel⟩ := hrel
      obtain ⟨m, hm⟩ : ∃ m : Nat, manyCs (ss.take k) = m := ⟨_, rfl⟩
      rw [hm] at hfit ⊢
      have hfit := hfit.out
      by_cases hlt : k < n
      · obtain ⟨b, off, s, A1, n1, c1, A2, n2, c2, A3, n3, c3, rfl, hb, g0, g1, g2, g3, g4, r1, r2, r3, hx⟩ := (hr.below hbel).at_ hlt
        have hmore := put (show manyCs (ss.take (k + 1)) = m + manyC s by rw [takeA_more hx.out, manyCs_append, hm]; simp [manyCs])
        have hall := put (show m + manyC s ≤ manyCs ss by
          have e : ss = ss.take (k + 1) ++ ss.drop (k + 1) := (List.take_append_drop _ _).symm
          rw [← hmore.out]; conv => rhs; rw [e, manyCs_append]
          omega)
        clear hm
        by_cases hf : ((manyC s : Nat) : Int) ≤ left - n - m
        · have hsz := szA_fit hf
          go_wp2_with fail
          refine (szCode_any s _ _ _ _ _ _ _ _ _ _ _ r1.1 r2.1 r3.1 (hl _ (mem_of_at hx.out)) (by omega) (by omega)).mono ?_
          rintro e w1 ⟨rfl, hb1⟩
          rw [hsz]
          clear hsz r1 r2 r3 g0 g1 g2 g3 g4
          go_wp2
          go_roundw
          case rel => exact ⟨k + 1, by omega, by go_num, put (by rw [hmore.out]; omega), by rw [hmore.out]; exact congrArg _ (by omega), hbel.trans (hb1.mono hbel.size)⟩
          case measure => simp [intOf]; omega
        · have hf := Int.not_le.1 hf
          have hsz := szA_no hf
          go_wp2_with fail
          refine (szCode_any s _ _ _ _ _ _ _ _ _ _ _ r1.1 r2.1 r3.1 (hl _ (mem_of_at hx.out)) (by omega) (by omega)).mono ?_
          rintro e w1 ⟨rfl, hb1⟩
          rw [hsz]
          clear hsz r1 r2 r3 g0 g1 g2 g3 g4
          go_wp2
          go_ret
          exact ⟨ret_int (szA_no (by have := hall.out; omega)).symm, hbel.trans (hb1.mono hbel.size)⟩
      · have hfin := put (show manyCs ss = m by rw [← hm, List.take_of_length_le (by rw [hr.1]; omega)])
        clear hm
        go_wp2
        go_ret
        exact ⟨ret_int (by rw [hfin.out, szA_fit hfit]; omega), hbel⟩
  · have h := Int.not_le.1 h
    rw [szA_no (by omega)]
    go_enter Tryz.func23, Tryz.ntmps23
    go_wp2
    go_ret
    exact ⟨rfl, Below.refl _ _⟩

def LongI (cs : List Cd) : Prop := cs.length ≤ maxLen ∧ ∀ c ∈ cs, LongC c

set_option maxHeartbeats 400000 in
theorem szImage_any (A : Option Addr) (n c : Nat) (cs : List Cd) (left : Int) (w : World) (hr : ReadsC w w.heap.size A n cs) (hl : LongI cs) (h0 : 0 ≤ left) (h1 : left ≤ 1048576) :
    Calls Tryz.prog 6 #[.agg #[.slice A n c], .int .i64 left] w fun e w' => e = .returned (.int .i64 (szA (n + manyCs cs) left)) ∧ Below w.heap.size w w' := by
  have hb := (Below.refl w.heap.size w).alloc (Nat.le_refl _) (Obj.cells #[Value.slice A n c] 24)
  have hst := szCodes_any A n c cs left _ (hr.now hb) (by rw [← hr.1]; exact hl.1) hl.2 h0 h1
  clear hr hl
  obtain ⟨m, hm⟩ : ∃ m : Nat, n + manyCs cs = m := ⟨_, rfl⟩
  rw [hm] at hst ⊢
  clear hm
  by_cases h : (m : Int) ≤ left
  · rw [szA_fit h] at hst ⊢
    go_enter Tryz.func6, Tryz.ntmps6
    go_wp2_with fail
    refine hst.mono ?_
    rintro e w1 ⟨rfl, hb1⟩
    go_wp2
    go_ret
    exact ⟨rfl, hb.trans (hb1.mono hb.size)⟩
  · have h := Int.not_le.1 h
    rw [szA_no h] at hst ⊢
    go_enter Tryz.func6, Tryz.ntmps6
    go_wp2_with fail
    refine hst.mono ?_
    rintro e w1 ⟨rfl, hb1⟩
    go_wp2
    go_ret
    exact ⟨rfl, hb.trans (hb1.mono hb.size)⟩

end Go.Proofs.YtpbkkjiikhjanaaGreatDoor

/-
  Rows of values in memory; lists of truths: how the laws copy, compare and count them.
-/
namespace Go.Proofs.YtpbkkjiikhjanaaGreatDoor
open Go.RowKit Exs

/-- The slice value '.slice A n c' reads as the values vs, and lies below block B. -/
def ReadsV (w : World) (B : Nat) (A : Option Addr) (n : Nat) (vs : List Value) : Prop :=
  vs.length = n ∧ (0 < n → ∃ b off, A = some ⟨b, off, none⟩ ∧ b < B ∧ ∀ (j : Nat) (x : Value), vs[j]? = some x → w.cell? ⟨b, off + j, none⟩ = some x)
section
variable {w w' : World} {B B' : Nat} {A : Option Addr} {n : Nat} {vs : List Value}
theorem ReadsV.below (h : ReadsV w B A n vs) (hb : Below B w w') : ReadsV w' B A n vs :=
  ⟨h.1, fun hn => by
    obtain ⟨b, off, rfl, hB, hc⟩ := h.2 hn
    exact ⟨b, off, rfl, hB, fun j x hx => (hb.cell (p := ⟨b, off + j, none⟩) hB).trans (hc j x hx)⟩⟩
theorem ReadsV.more (h : ReadsV w B A n vs) (hB : B ≤ B') : ReadsV w B' A n vs :=
  ⟨h.1, fun hn => by
    obtain ⟨b, off, rfl, hb, hc⟩ := h.2 hn
    exact ⟨b, off, rfl, by omega, hc⟩⟩
end
def ReadsB (w : World) (B : Nat) (A : Option Addr) (n : Nat) (bs : List Bool) : Prop := bs.length = n ∧ ReadsV w B A n (bs.map Value.bool)
section
variable {w w' : World} {B B' : Nat} {A : Option Addr} {n : Nat} {bs : List Bool}
theorem ReadsB.below (h : ReadsB w B A n bs) (hb : Below B w w') : ReadsB w' B A n bs := ⟨h.1, h.2.below hb⟩
theorem ReadsB.more (h : ReadsB w B A n bs) (hB : B ≤ B') : ReadsB w B' A n bs := ⟨h.1, h.2.more hB⟩
theorem ReadsB.now (h : ReadsB w w.heap.size A n bs) (hb : Below w.heap.size w w') : ReadsB w' w'.heap.size A n bs := (h.below hb).more hb.size
theorem ReadsB.at_ (h : ReadsB w B A n bs) {j : Nat} (hj : j < n) : ∃ b off x, A = some ⟨b, off, none⟩ ∧ b < B ∧ w.cell? ⟨b, off + j, none⟩ = some (.bool x) ∧ Hid (bs[j]? = some x) := by
  obtain ⟨b, off, rfl, hb, hc⟩ := h.2.2 (by omega)
  have hl : j < bs.length := by rw [h.1]; exact hj
  exact ⟨b, off, bs[j], rfl, hb, hc j _ (by simp [List.getElem?_eq_getElem hl]), List.getElem?_eq_getElem hl⟩
end
/-- Block g is a row of c cells of which the first ones are vs. -/
def RoomV (w : World) (g : Nat) (t : TypeId) (c : Nat) (vs : List Value) : Prop :=
  ∃ cs : Array Value, w.heap[g]? = some (.cells cs t (0, 0)) ∧ cs.size = c ∧ ∀ (j : Nat) (v : Value), vs[j]? = some v → cs[j]? = some v
section
variable {w w' : World} {g : Nat} {t : TypeId} {c : Nat} {vs : List Value}
theorem RoomV.lt (h : RoomV w g t c vs) : g < w.heap.size := by obtain ⟨cs, h1, _⟩ := h; exact (Array.getElem?_eq_some_iff.1 h1).1
theorem RoomV.same (h : RoomV w g t c vs) (hs : SameFrom g w w') : RoomV w' g t c vs := by
  have hl := h.lt
  obtain ⟨cs, h1, h2, h3⟩ := h
  exact ⟨cs, (hs g (Nat.le_refl _) hl).trans h1, h2, h3⟩
theorem RoomV.below {B : Nat} (h : RoomV w g t c vs) (hb : Below B w w') (hg : g < B) : RoomV w' g t c vs := by
  obtain ⟨cs, h1, h2, h3⟩ := h
  exact ⟨cs, (hb.block g hg).trans h1, h2, h3⟩
theorem RoomV.at_ (h : RoomV w g t c vs) (j : Nat) (hj : j < c) : ∃ v, w.cell? ⟨g, j, none⟩ = some v := by
  obtain ⟨cs, h1, h2, _⟩ := h
  exact ⟨cs[j], by rw [cell_of_row w g j cs t (0, 0) h1]; exact Array.getElem?_eq_getElem (by omega)⟩
theorem RoomV.frozen (h : RoomV w g t c vs) (j : Nat) : w.frozen? ⟨g, j, none⟩ = false := by
  obtain ⟨cs, h1, _⟩ := h
  simp [World.frozen?, h1]
theorem RoomV.cell (h : RoomV w g t c vs) {j : Nat} {v : Value} (hj : vs[j]? = some v) : w.cell? ⟨g, j, none⟩ = some v := by
  obtain ⟨cs, h1, _, h3⟩ := h
  rw [cell_of_row w g j cs t (0, 0) h1]; exact h3 j v hj
theorem RoomV.cellz (h : RoomV w g t c vs) : ∃ cs : Array Value, w.heap[g]? = some (.cells cs t (0, 0)) ∧ ∀ (j : Nat) (v : Value), vs[j]? = some v → cs[j]? = some v := by
  obtain ⟨cs, h1, _, h3⟩ := h; exact ⟨cs, h1, h3⟩
theorem RoomV.push (h : RoomV w g t c vs) (hc : vs.length < c) (u : Value) : RoomV (w.setCell ⟨g, vs.length, none⟩ u) g t c (vs ++ [u]) := by
  obtain ⟨cs, h1, h2, h3⟩ := h
  refine ⟨cs.setIfInBounds vs.length u, heap_set h1, by simpa using h2, fun j v hj => ?_⟩
  rw [Array.getElem?_setIfInBounds]
  by_cases hlt : j < vs.length
  · rw [List.getElem?_append_left hlt] at hj
    rw [if_neg (by omega)]
    exact h3 j v hj
  · have : j = vs.length := by have := (List.getElem?_eq_some_iff.1 hj).1; simp at this; omega
    subst this
    rw [List.getElem?_append_right (Nat.le_refl _)] at hj
    simp at hj
    rw [if_pos rfl, if_pos (by omega), hj]
theorem RoomV.reads (h : RoomV w g t c vs) (hn : vs.length = c) : ReadsV w w.heap.size (some ⟨g, 0, none⟩) c vs :=
  ⟨hn, fun _ => ⟨g, 0, rfl, h.lt, fun j x hx => by rw [Nat.zero_add]; exact h.cell hx⟩⟩
end
def MBools (w : World) (L : Nat) (A : Option Addr) (n : Nat) (bs : List Bool) : Prop := ∃ g, A = some ⟨g, 0, none⟩ ∧ L ≤ g ∧ RoomV w g 4 n (bs.map Value.bool) ∧ bs.length = n
theorem MBools.same {w w' : World} {L : Nat} {A : Option Addr} {n : Nat} {xs : List Bool} (h : MBools w L A n xs) (hs : SameFrom L w w') : MBools w' L A n xs := by
  obtain ⟨g, e, hg, r, hl⟩ := h; exact ⟨g, e, hg, r.same (hs.mono hg), hl⟩
theorem MBools.from {w : World} {L L' : Nat} {A : Option Addr} {n : Nat} {xs : List Bool} (h : MBools w L A n xs) (hL : L' ≤ L) : MBools w L' A n xs := by
  obtain ⟨g, e, hg, r, hl⟩ := h; exact ⟨g, e, by omega, r, hl⟩
theorem MBools.reads {w : World} {L : Nat} {A : Option Addr} {n : Nat} {xs : List Bool} (h : MBools w L A n xs) : ReadsB w w.heap.size A n xs := by
  obtain ⟨g, rfl, _, r, hl⟩ := h; exact ⟨hl, r.reads (by simp [hl])⟩
set_option maxHeartbeats 400000 in
set_option maxRecDepth 100000 in
theorem eqBools_same (A A' : Option Addr) (n c c' : Nat) (bs : List Bool) (w : World) (hr : ReadsB w w.heap.size A n bs) (hr' : ReadsB w w.heap.size A' n bs) (hn : n ≤ 1048576) :
    Calls Tryz.prog 98 #[.slice A n c, .slice A' n c'] w fun e w' => e = .returned (.bool true) ∧ Below w.heap.size w w' := by
  go_enter Tryz.func98, Tryz.ntmps98
  go_wp2
  go_loopw [5] (fun i wr => ∃ k q : Nat, k ≤ n ∧ i = .int .i64 k ∧ wr = w.drewN q) (fun i _ => n - (intOf i).toNat)
  case atStart => exact ⟨0, 0, Nat.zero_le _, rfl, rfl⟩
  case round =>
    obtain ⟨k, q, hk, rfl, rfl⟩ := hrel
    by_cases hlt : k < n
    · obtain ⟨b, off, x, rfl, hb, hc, hx⟩ := hr.at_ hlt
      obtain ⟨b', off', x', rfl, hb', hc', hx'⟩ := hr'.at_ hlt
      obtain rfl : x = x' := by have := hx.out; rw [hx'.out] at this; injection this with this; exact this.symm
      go_wp2
      go_quiet (fail)
      go_wp2
      go_roundw
      case rel => exact ⟨k + 1, _, by omega, by go_num, rfl⟩
      case measure => simp [intOf]; omega
    · go_wp2
      go_ret
      exact ⟨rfl, below_drewN (Below.refl _ _) _⟩


set_option maxHeartbeats 400000 in
theorem eqNote_same (x y z : Int) (w : World) : Calls Tryz.prog 66 #[.agg #[.int .i64 x, .int .i64 y, .int .i64 z], .agg #[.int .i64 x, .int .i64 y, .int .i64 z]] w fun e w' => e = .returned (.bool true) ∧ Below w.heap.size w w' := by
  go_enter Tryz.func66, Tryz.ntmps66
  go_wp2
  go_ret
  exact ⟨rfl, ((Below.refl _ _).alloc (Nat.le_refl _) _).alloc (by simp) _⟩

set_option maxHeartbeats 400000 in
set_option maxRecDepth 100000 in
theorem eqNotes_same (A A' : Option Addr) (n c c' : Nat) (ts : List Row3) (w : World) (hr : ReadsR w w.heap.size A n ts) (hr' : ReadsR w w.heap.size A' n ts) (hn : n ≤ 1048576) :
    Calls Tryz.prog 40 #[.slice A n c, .slice A' n c'] w fun e w' => e = .returned (.bool true) ∧ Below w.heap.size w w' := by
  go_enter Tryz.func40, Tryz.ntmps40
  go_wp2
  go_loopw [5] (fun i wr => ∃ k : Nat, k ≤ n ∧ i = .int .i64 k ∧ Below w.heap.size w wr) (fun i _ => n - (intOf i).toNat)
  case atStart => exact ⟨0, Nat.zero_le _, rfl, Below.refl _ _⟩
  case round =>
    obtain ⟨k, hk, rfl, hbel⟩ := hrel
    by_cases hlt : k < n
    · obtain ⟨b, off, x, y, z, rfl, hb, hc1, hc2, hc3, hx⟩ := (hr.below hbel).at_ hlt
      obtain ⟨b', off', x', y', z', rfl, hb', hc1', hc2', hc3', hx'⟩ := (hr'.below hbel).at_ hlt
      obtain ⟨rfl, rfl, rfl⟩ : x = x' ∧ y = y' ∧ z = z' := by have := hx.out; rw [hx'.out] at this; injection this with this; injection this with a b; injection b with b c; exact ⟨a.symm, b.symm, c.symm⟩
      have g1 := cell_regrown hc1
      have g2 := cell_regrown hc2
      have g3 := cell_regrown hc3
      have g4 := cell_regrown hc1'
      have g5 := cell_regrown hc2'
      have g6 := cell_regrown hc3'
      go_wp2
      refine wp_region_quiet_below (by kernel_rfl) (by kernel_rfl) ?_
      repeat (first | go_big_quiet_step ((go_at_call 66; exact Calls.regrown_of (eqNote_same x y z _))) | quiet_step (fail))
      refine wpQuiet_nil ?_
      intro _ hw'
      obtain ⟨⟨dq, osq⟩, hw''⟩ := hw'
      subst hw''
      go_wp2
      go_roundw
      case rel => exact ⟨k + 1, by omega, by go_num, hbel.trans ((below_regrown wr dq osq).mono hbel.size)⟩
      case measure => simp [intOf]; omega
    · go_wp2
      go_ret
      exact ⟨rfl, hbel⟩


end Go.Proofs.YtpbkkjiikhjanaaGreatDoor

/-
  Frames in memory.
-/
namespace Go.Proofs.YtpbkkjiikhjanaaGreatDoor
open Go.RowKit Exs

structure Fr where
  ide : Int
  fn : Int
  pla : Int
  pile : List Int
  vars : List Int
  flags : List Bool
  result : Int
  mode : Int
  value : Int
  base : Int
  off : Bool
/-- Its cells. -/
def frL (s : Fr) (A1 : Option Addr) (n1 c1 : Nat) (A2 : Option Addr) (n2 c2 : Nat) (A3 : Option Addr) (n3 c3 : Nat) : List Value := [.int .i64 s.ide, .int .i64 s.fn, .int .i64 s.pla, .slice A1 n1 c1, .slice A2 n2 c2, .slice A3 n3 c3, .int .i64 s.result, .int .i64 s.mode, .int .i64 s.value, .int .i64 s.base, .bool s.off]
def frV (s : Fr) (A1 : Option Addr) (n1 c1 : Nat) (A2 : Option Addr) (n2 c2 : Nat) (A3 : Option Addr) (n3 c3 : Nat) : Value := .agg #[.int .i64 s.ide, .int .i64 s.fn, .int .i64 s.pla, .slice A1 n1 c1, .slice A2 n2 c2, .slice A3 n3 c3, .int .i64 s.result, .int .i64 s.mode, .int .i64 s.value, .int .i64 s.base, .bool s.off]
structure IsFr (w : World) (B : Nat) (s : Fr) (A1 : Option Addr) (n1 : Nat) (A2 : Option Addr) (n2 : Nat) (A3 : Option Addr) (n3 : Nat) : Prop where
  pile : Reads w B .i64 A1 n1 s.pile
  vars : Reads w B .i64 A2 n2 s.vars
  flags : ReadsB w B A3 n3 s.flags
theorem IsFr.below {w w' : World} {B : Nat} {s : Fr} {A1 : Option Addr} {n1 : Nat} {A2 : Option Addr} {n2 : Nat} {A3 : Option Addr} {n3 : Nat} (h : IsFr w B s A1 n1 A2 n2 A3 n3) (hb : Below B w w') : IsFr w' B s A1 n1 A2 n2 A3 n3 := ⟨h.pile.below hb, h.vars.below hb, h.flags.below hb⟩
theorem IsFr.more {w : World} {B B' : Nat} {s : Fr} {A1 : Option Addr} {n1 : Nat} {A2 : Option Addr} {n2 : Nat} {A3 : Option Addr} {n3 : Nat} (h : IsFr w B s A1 n1 A2 n2 A3 n3) (hB : B ≤ B') : IsFr w B' s A1 n1 A2 n2 A3 n3 := ⟨h.pile.more hB, h.vars.more hB, h.flags.more hB⟩
theorem IsFr.now {w w' : World} {s : Fr} {A1 : Option Addr} {n1 : Nat} {A2 : Option Addr} {n2 : Nat} {A3 : Option Addr} {n3 : Nat} (h : IsFr w w.heap.size s A1 n1 A2 n2 A3 n3) (hb : Below w.heap.size w w') : IsFr w' w'.heap.size s A1 n1 A2 n2 A3 n3 := (h.below hb).more hb.size
/-- Sizes within what the laws let through; within what memory lets be; how many values the laws count. -/
def SmallFr (s : Fr) : Prop := s.pile.length ≤ 1048576 ∧ s.vars.length ≤ 1048576 ∧ s.flags.length ≤ 1048576
def LongFr (s : Fr) : Prop := s.pile.length ≤ maxLen ∧ s.vars.length ≤ maxLen ∧ s.flags.length ≤ maxLen
def manyFr (s : Fr) : Nat := s.pile.length + s.vars.length + s.flags.length
structure MFr (w : World) (L : Nat) (s : Fr) (A1 : Option Addr) (n1 : Nat) (A2 : Option Addr) (n2 : Nat) (A3 : Option Addr) (n3 : Nat) : Prop where
  pile : MInts w L A1 n1 s.pile
  vars : MInts w L A2 n2 s.vars
  flags : MBools w L A3 n3 s.flags
theorem MFr.same {w w' : World} {L : Nat} {s : Fr} {A1 : Option Addr} {n1 : Nat} {A2 : Option Addr} {n2 : Nat} {A3 : Option Addr} {n3 : Nat} (h : MFr w L s A1 n1 A2 n2 A3 n3) (hs : SameFrom L w w') : MFr w' L s A1 n1 A2 n2 A3 n3 := ⟨h.pile.same hs, h.vars.same hs, h.flags.same hs⟩
theorem MFr.from {w : World} {L L' : Nat} {s : Fr} {A1 : Option Addr} {n1 : Nat} {A2 : Option Addr} {n2 : Nat} {A3 : Option Addr} {n3 : Nat} (h : MFr w L s A1 n1 A2 n2 A3 n3) (hL : L' ≤ L) : MFr w L' s A1 n1 A2 n2 A3 n3 := ⟨h.pile.from hL, h.vars.from hL, h.flags.from hL⟩
theorem MFr.reads {w : World} {L : Nat} {s : Fr} {A1 : Option Addr} {n1 : Nat} {A2 : Option Addr} {n2 : Nat} {A3 : Option Addr} {n3 : Nat} (h : MFr w L s A1 n1 A2 n2 A3 n3) : IsFr w w.heap.size s A1 n1 A2 n2 A3 n3 := ⟨h.pile.reads, h.vars.reads, h.flags.reads⟩

/-- The slice value '.slice A n c' reads as the list ss, and lies, with all that it leads to, below block B. -/
def ReadsFr (w : World) (B : Nat) (A : Option Addr) (n : Nat) (ss : List Fr) : Prop :=
  ss.length = n ∧ (0 < n → ∃ b off, A = some ⟨b, off, none⟩ ∧ b < B ∧ ∀ (j : Nat) (s : Fr), ss[j]? = some s → ∃ A1 n1 c1 A2 n2 c2 A3 n3 c3, (∀ (i : Nat) (u : Value), (frL s A1 n1 c1 A2 n2 c2 A3 n3 c3)[i]? = some u → w.cell? ⟨b, off + j * 11 + i, none⟩ = some u) ∧ IsFr w B s A1 n1 A2 n2 A3 n3)
theorem ReadsFr.below {w w' : World} {B : Nat} {A : Option Addr} {n : Nat} {ss : List Fr} (h : ReadsFr w B A n ss) (hb : Below B w w') : ReadsFr w' B A n ss :=
  ⟨h.1, fun hn => by
    obtain ⟨b, off, rfl, hB, hc⟩ := h.2 hn
    refine ⟨b, off, rfl, hB, fun j s hs => ?_⟩
    obtain ⟨A1, n1, c1, A2, n2, c2, A3, n3, c3, h0, r⟩ := hc j s hs
    exact ⟨A1, n1, c1, A2, n2, c2, A3, n3, c3, fun i u hu => (hb.cell (p := ⟨b, _, none⟩) hB).trans (h0 i u hu), r.below hb⟩⟩
theorem ReadsFr.more {w : World} {B B' : Nat} {A : Option Addr} {n : Nat} {ss : List Fr} (h : ReadsFr w B A n ss) (hB : B ≤ B') : ReadsFr w B' A n ss :=
  ⟨h.1, fun hn => by
    obtain ⟨b, off, rfl, hb, hc⟩ := h.2 hn
    refine ⟨b, off, rfl, by omega, fun j s hs => ?_⟩
    obtain ⟨A1, n1, c1, A2, n2, c2, A3, n3, c3, h0, r⟩ := hc j s hs
    exact ⟨A1, n1, c1, A2, n2, c2, A3, n3, c3, h0, r.more hB⟩⟩
theorem ReadsFr.now {w w' : World} {A : Option Addr} {n : Nat} {ss : List Fr} (h : ReadsFr w w.heap.size A n ss) (hb : Below w.heap.size w w') : ReadsFr w' w'.heap.size A n ss := (h.below hb).more hb.size
theorem ReadsFr.at_ {w : World} {B : Nat} {A : Option Addr} {n : Nat} {ss : List Fr} (h : ReadsFr w B A n ss) {j : Nat} (hj : j < n) : ∃ b off s A1 n1 c1 A2 n2 c2 A3 n3 c3, A = some ⟨b, off, none⟩ ∧ b < B ∧ w.cell? ⟨b, off + j * 11, none⟩ = some (.int .i64 s.ide) ∧ w.cell? ⟨b, off + j * 11 + 1, none⟩ = some (.int .i64 s.fn) ∧ w.cell? ⟨b, off + j * 11 + 2, none⟩ = some (.int .i64 s.pla) ∧ w.cell? ⟨b, off + j * 11 + 3, none⟩ = some (.slice A1 n1 c1) ∧ w.cell? ⟨b, off + j * 11 + 4, none⟩ = some (.slice A2 n2 c2) ∧ w.cell? ⟨b, off + j * 11 + 5, none⟩ = some (.slice A3 n3 c3) ∧ w.cell? ⟨b, off + j * 11 + 6, none⟩ = some (.int .i64 s.result) ∧ w.cell? ⟨b, off + j * 11 + 7, none⟩ = some (.int .i64 s.mode) ∧ w.cell? ⟨b, off + j * 11 + 8, none⟩ = some (.int .i64 s.value) ∧ w.cell? ⟨b, off + j * 11 + 9, none⟩ = some (.int .i64 s.base) ∧ w.cell? ⟨b, off + j * 11 + 10, none⟩ = some (.bool s.off) ∧ IsFr w B s A1 n1 A2 n2 A3 n3 ∧ Hid (ss[j]? = some s) := by
  obtain ⟨b, off, rfl, hb, hc⟩ := h.2 (by omega)
  have hl : j < ss.length := by rw [h.1]; exact hj
  obtain ⟨A1, n1, c1, A2, n2, c2, A3, n3, c3, h0, r⟩ := hc j _ (List.getElem?_eq_getElem hl)
  exact ⟨b, off, ss[j], A1, n1, c1, A2, n2, c2, A3, n3, c3, rfl, hb, h0 0 _ rfl, h0 1 _ rfl, h0 2 _ rfl, h0 3 _ rfl, h0 4 _ rfl, h0 5 _ rfl, h0 6 _ rfl, h0 7 _ rfl, h0 8 _ rfl, h0 9 _ rfl, h0 10 _ rfl, r, List.getElem?_eq_getElem hl⟩
def manyFrs : List Fr → Nat
  | [] => 0
  | s :: r => manyFr s + manyFrs r
theorem manyFrs_append (a b : List Fr) : manyFrs (a ++ b) = manyFrs a + manyFrs b := by induction a with | nil => simp [manyFrs] | cons s r ih => simp [manyFrs, ih]; omega
theorem manyFrs_mem {ss : List Fr} {s : Fr} (h : s ∈ ss) : manyFr s ≤ manyFrs ss := by
  induction ss with
  | nil => cases h
  | cons a r ih => rcases List.mem_cons.1 h with rfl | h; · simp [manyFrs]
                   · have := ih h; simp [manyFrs]; omega

/-- Block g is a row of n of them of which the first ones are ss, and behind these the cells pre; what they lead to lies in later blocks. -/
def RoomFrp (w : World) (g n : Nat) (ss : List Fr) (pre : List Value) : Prop :=
  ∃ cs : Array Value, w.heap[g]? = some (.cells cs 78 (0, 0)) ∧ cs.size = n * 11 ∧ (∀ (j : Nat) (s : Fr), ss[j]? = some s → ∃ A1 n1 c1 A2 n2 c2 A3 n3 c3,
    (∀ (i : Nat) (u : Value), (frL s A1 n1 c1 A2 n2 c2 A3 n3 c3)[i]? = some u → cs[j * 11 + i]? = some u) ∧ MFr w (g + 1) s A1 n1 A2 n2 A3 n3) ∧ ∀ (i : Nat) (u : Value), pre[i]? = some u → cs[ss.length * 11 + i]? = some u
def RoomFr (w : World) (g n : Nat) (ss : List Fr) : Prop := RoomFrp w g n ss []
theorem RoomFrp.lt {w : World} {g n : Nat} {ss : List Fr} {pre : List Value} (h : RoomFrp w g n ss pre) : g < w.heap.size := by
  obtain ⟨cs, h1, _⟩ := h; exact (Array.getElem?_eq_some_iff.1 h1).1
theorem RoomFrp.same {w w' : World} {g n : Nat} {ss : List Fr} {pre : List Value} (h : RoomFrp w g n ss pre) (hs : SameFrom g w w') : RoomFrp w' g n ss pre := by
  have hl := h.lt
  obtain ⟨cs, h1, h2, h3, h4⟩ := h
  refine ⟨cs, (hs g (Nat.le_refl _) hl).trans h1, h2, fun j s hj => ?_, h4⟩
  obtain ⟨A1, n1, c1, A2, n2, c2, A3, n3, c3, g0, m⟩ := h3 j s hj
  exact ⟨A1, n1, c1, A2, n2, c2, A3, n3, c3, g0, m.same (hs.mono (by omega))⟩
theorem RoomFrp.at_ {w : World} {g n : Nat} {ss : List Fr} {pre : List Value} (h : RoomFrp w g n ss pre) (j : Nat) (hj : j < n * 11) : ∃ v, w.cell? ⟨g, j, none⟩ = some v := by
  obtain ⟨cs, h1, h2, _⟩ := h
  exact ⟨cs[j], by rw [cell_of_row w g j cs 78 (0, 0) h1]; exact Array.getElem?_eq_getElem (by omega)⟩
theorem RoomFrp.frozen {w : World} {g n : Nat} {ss : List Fr} {pre : List Value} (h : RoomFrp w g n ss pre) (j : Nat) : w.frozen? ⟨g, j, none⟩ = false := by
  obtain ⟨cs, h1, _⟩ := h
  simp [World.frozen?, h1]
theorem RoomFrp.push1 {w : World} {g n : Nat} {ss : List Fr} {pre : List Value} (h : RoomFrp w g n ss pre) (hc : ss.length < n) (k : Nat) (hk : k = pre.length) (hp : k < 11) (u : Value) : RoomFrp (w.setCell ⟨g, ss.length * 11 + k, none⟩ u) g n ss (pre ++ [u]) := by
  subst hk
  have hsame := SameFrom.setCell w g (ss.length * 11 + pre.length) u
  obtain ⟨cs, h1, h2, h3, h4⟩ := h
  refine ⟨_, heap_set h1, by simpa using h2, fun j s hj => ?_, fun i x hi => ?_⟩
  · obtain ⟨A1, n1, c1, A2, n2, c2, A3, n3, c3, g0, m⟩ := h3 j s hj
    refine ⟨A1, n1, c1, A2, n2, c2, A3, n3, c3, fun i x hi => ?_, m.same hsame⟩
    have hjl := (List.getElem?_eq_some_iff.1 hj).1
    have hil : i < 11 := (List.getElem?_eq_some_iff.1 hi).1
    rw [Array.getElem?_setIfInBounds, if_neg (by omega)]
    exact g0 i x hi
  · rw [Array.getElem?_setIfInBounds]
    by_cases hlt : i < pre.length
    · rw [List.getElem?_append_left hlt] at hi
      rw [if_neg (by omega)]
      exact h4 i x hi
    · have : i = pre.length := by have := (List.getElem?_eq_some_iff.1 hi).1; simp at this; omega
      subst this
      rw [List.getElem?_append_right (Nat.le_refl _)] at hi
      simp at hi
      rw [if_pos rfl, if_pos (by rw [h2]; omega), hi]
theorem RoomFrp.full {w : World} {g n : Nat} {ss : List Fr} {pre : List Value} (h : RoomFrp w g n ss pre) (s : Fr) (A1 : Option Addr) (n1 c1 : Nat) (A2 : Option Addr) (n2 c2 : Nat) (A3 : Option Addr) (n3 c3 : Nat) (hp : pre = frL s A1 n1 c1 A2 n2 c2 A3 n3 c3) (hm : MFr w (g + 1) s A1 n1 A2 n2 A3 n3) : RoomFr w g n (ss ++ [s]) := by
  subst hp
  obtain ⟨cs, h1, h2, h3, h4⟩ := h
  refine ⟨cs, h1, h2, fun j s' hj => ?_, fun i u hi => by simp at hi⟩
  by_cases hl : j < ss.length
  · rw [List.getElem?_append_left hl] at hj; exact h3 j s' hj
  · have hj2 : j = ss.length := by
      have := (List.getElem?_eq_some_iff.1 hj).1
      simp at this; omega
    subst hj2
    rw [List.getElem?_append_right (Nat.le_refl _)] at hj
    simp at hj
    subst hj
    exact ⟨A1, n1, c1, A2, n2, c2, A3, n3, c3, h4, hm⟩
theorem RoomFr.reads {w : World} {g n : Nat} {ss : List Fr} (h : RoomFr w g n ss) (hn : ss.length = n) : ReadsFr w w.heap.size (some ⟨g, 0, none⟩) n ss := by
  have hl := RoomFrp.lt h
  obtain ⟨cs, h1, h2, h3, _⟩ := h
  refine ⟨hn, fun _ => ⟨g, 0, rfl, hl, fun j s hj => ?_⟩⟩
  obtain ⟨A1, n1, c1, A2, n2, c2, A3, n3, c3, g0, m⟩ := h3 j s hj
  exact ⟨A1, n1, c1, A2, n2, c2, A3, n3, c3, fun i u hu => by rw [Nat.zero_add, cell_of_row w g _ cs 78 (0, 0) h1]; exact g0 i u hu, m.reads⟩
theorem RoomFr.made (w : World) (n : Nat) (z : Array Value) (m : Nat) (hm : m = n * 11) : RoomFr (w.alloc (.cells (madeCells z m) 78)) w.heap.size n [] :=
  ⟨_, heap_alloc_new _ _, by rw [size_madeCells]; omega, fun j s hj => by simp at hj, fun i u hi => by simp at hi⟩
def MFrs (w : World) (L : Nat) (A : Option Addr) (n : Nat) (ss : List Fr) : Prop := ∃ g, A = some ⟨g, 0, none⟩ ∧ L ≤ g ∧ RoomFr w g n ss ∧ ss.length = n
theorem MFrs.same {w w' : World} {L : Nat} {A : Option Addr} {n : Nat} {xs : List Fr} (h : MFrs w L A n xs) (hs : SameFrom L w w') : MFrs w' L A n xs := by
  obtain ⟨g, e, hg, r, hl⟩ := h; exact ⟨g, e, hg, RoomFrp.same r (hs.mono hg), hl⟩
theorem MFrs.from {w : World} {L L' : Nat} {A : Option Addr} {n : Nat} {xs : List Fr} (h : MFrs w L A n xs) (hL : L' ≤ L) : MFrs w L' A n xs := by
  obtain ⟨g, e, hg, r, hl⟩ := h; exact ⟨g, e, by omega, r, hl⟩
theorem MFrs.reads {w : World} {L : Nat} {A : Option Addr} {n : Nat} {xs : List Fr} (h : MFrs w L A n xs) : ReadsFr w w.heap.size A n xs := by
  obtain ⟨g, rfl, _, r, hl⟩ := h; exact r.reads hl

end Go.Proofs.YtpbkkjiikhjanaaGreatDoor

/-
  Lists of truths: how the laws copy and count them; notes likewise.
-/
namespace Go.Proofs.YtpbkkjiikhjanaaGreatDoor
open Go.RowKit Exs

theorem infoBool : (Tryz.prog.info? 4).map (fun i => (i.zero, i.size, i.bytes)) = some (some (.bool false), 1, 1) := by kernel_rfl

set_option maxHeartbeats 400000 in
set_option maxRecDepth 100000 in
theorem toBools_m (A : Option Addr) (n c : Nat) (bs : List Bool) (w : World) (hr : ReadsB w w.heap.size A n bs) (hn : n ≤ 1048576) :
    Calls Tryz.prog 84 #[.slice A n c] w fun e w' => ∃ B, e = .returned (.slice B n n) ∧ MBools w' w.heap.size B n bs ∧ Below w.heap.size w w' := by
  have hmk := fun W => run_make_rows (P := Tryz.prog) 76 4 (.bool false) 1 1 Tryz.underlying76 infoBool n (by omega) (by omega) W
  go_enter Tryz.func84, Tryz.ntmps84
  go_wp2
  go_loopw [4] (fun i wr => ∃ k : Nat, k ≤ n ∧ i = .int .i64 k ∧ RoomV wr w.heap.size 4 n ((bs.take k).map Value.bool) ∧ Below w.heap.size w wr) (fun i _ => n - (intOf i).toNat)
  case atStart => exact ⟨0, Nat.zero_le _, rfl, ⟨_, heap_alloc_new _ _, by rw [size_madeCells], fun j v hj => by simp at hj⟩, (Below.refl _ _).alloc (Nat.le_refl _) _⟩
  case round =>
    obtain ⟨k, hk, rfl, hroom, hbel⟩ := hrel
    clear hmk
    by_cases hlt : k < n
    · obtain ⟨b, off, x, rfl, hb, hc, hx⟩ := (hr.below hbel).at_ hlt
      obtain ⟨c0, hc0⟩ := hroom.at_ k hlt
      have hfr := hroom.frozen k
      have hlen : ((bs.take k).map Value.bool).length = k := by rw [List.length_map, List.length_take, hr.1]; omega
      have hpush := hroom.push (by rw [hlen]; exact hlt) (.bool x)
      rw [hlen, show (bs.take k).map Value.bool ++ [.bool x] = (bs.take (k + 1)).map Value.bool by rw [takeA_more hx.out]; simp] at hpush
      have HP := put hpush; clear hpush hlen
      go_wp2
      go_roundw
      case rel => exact ⟨k + 1, by omega, by go_num, HP.out, hbel.setCell (by simp) _⟩
      case measure => simp [intOf]; omega
    · have hfin := put (show bs.take k = bs from List.take_of_length_le (by rw [hr.1]; omega))
      go_wp2
      go_ret
      exact ⟨_, rfl, ⟨_, rfl, Nat.le_refl _, by rw [hfin.out] at hroom; exact hroom, hr.1⟩, hbel⟩

set_option maxHeartbeats 400000 in
theorem szBools_any (A : Option Addr) (n c : Nat) (left : Int) (w : World) (hn : n ≤ maxLen) (h0 : 0 ≤ left) (h1 : left ≤ 1048576) : Calls Tryz.prog 75 #[.slice A n c, .int .i64 left] w fun e w' => e = .returned (.int .i64 (szA n left)) ∧ w = w' := by
  unfold maxLen at hn
  by_cases h : (n : Int) ≤ left
  · rw [szA_fit h]
    go_enter Tryz.func75, Tryz.ntmps75
    go_wp2
    go_ret
    exact ⟨rfl, rfl⟩
  · have h := Int.not_le.1 h
    rw [szA_no h]
    go_enter Tryz.func75, Tryz.ntmps75
    go_wp2
    go_ret
    exact ⟨rfl, rfl⟩

def MNotes (w : World) (L : Nat) (A : Option Addr) (n : Nat) (ts : List Row3) : Prop := ∃ g, A = some ⟨g, 0, none⟩ ∧ L ≤ g ∧ Room w g 103 (3 * n) .i64 (flat3 ts) ∧ ts.length = n
theorem MNotes.same {w w' : World} {L : Nat} {A : Option Addr} {n : Nat} {xs : List Row3} (h : MNotes w L A n xs) (hs : SameFrom L w w') : MNotes w' L A n xs := by
  obtain ⟨g, e, hg, r, hl⟩ := h; exact ⟨g, e, hg, r.same (hs.mono hg), hl⟩
theorem MNotes.from {w : World} {L L' : Nat} {A : Option Addr} {n : Nat} {xs : List Row3} (h : MNotes w L A n xs) (hL : L' ≤ L) : MNotes w L' A n xs := by
  obtain ⟨g, e, hg, r, hl⟩ := h; exact ⟨g, e, by omega, r, hl⟩
theorem MNotes.reads {w : World} {L : Nat} {A : Option Addr} {n : Nat} {xs : List Row3} (h : MNotes w L A n xs) : ReadsR w w.heap.size A n xs := by
  obtain ⟨g, rfl, _, r, hl⟩ := h; exact r.readsR hl
set_option maxHeartbeats 400000 in
theorem toNote_any (x y z : Int) (w : World) : Calls Tryz.prog 57 #[.agg #[.int .i64 x, .int .i64 y, .int .i64 z]] w fun e w' => e = .returned (.agg #[.int .i64 x, .int .i64 y, .int .i64 z]) ∧ Below w.heap.size w w' := by
  go_enter Tryz.func57, Tryz.ntmps57
  go_wp2
  exact bodyPost_ret (v := .agg #[.int .i64 x, .int .i64 y, .int .i64 z]) (by simp [results, Tryz.results57, go_sem]) rfl ⟨rfl, (((Below.refl _ _).alloc (Nat.le_refl _) _).alloc (by simp) _).alloc (by simp; omega) _⟩

theorem Tryz.info103 : (Tryz.prog.info? 103).map (fun i => (i.zero, i.size, i.bytes)) = some (some (.agg #[.int .i64 0, .int .i64 0, .int .i64 0]), 3, 24) := by kernel_rfl
set_option maxHeartbeats 400000 in
set_option maxRecDepth 100000 in
theorem toNotes_m (A : Option Addr) (n c : Nat) (ts : List Row3) (w : World) (hr : ReadsR w w.heap.size A n ts) (hn : n ≤ 1048576) :
    Calls Tryz.prog 33 #[.slice A n c] w fun e w' => ∃ B, e = .returned (.slice B n n) ∧ MNotes w' w.heap.size B n ts ∧ Below w.heap.size w w' := by
  have hmk := fun W => run_make_rows (P := Tryz.prog) 39 103 (.agg #[.int .i64 0, .int .i64 0, .int .i64 0]) 3 24 Tryz.underlying39 Tryz.info103 n (by omega) (by omega) W
  go_enter Tryz.func33, Tryz.ntmps33
  go_wp2
  go_loopw [4] (fun i wr => ∃ k : Nat, k ≤ n ∧ i = .int .i64 k ∧ Room wr w.heap.size 103 (3 * n) .i64 (flat3 (ts.take k)) ∧ Below w.heap.size w wr) (fun i _ => n - (intOf i).toNat)
  case atStart => exact ⟨0, Nat.zero_le _, rfl, Room.madeR w 103 n _ _ rfl, (Below.refl _ _).alloc (Nat.le_refl _) _⟩
  case round =>
    obtain ⟨k, hk, rfl, hroom, hbel⟩ := hrel
    clear hmk
    by_cases hlt : k < n
    · obtain ⟨b, off, x, y, z, rfl, hb, hc, hc', hc'', hx⟩ := (hr.below hbel).at_ hlt
      go_wp2_with fail
      refine (toNote_any x y z _).mono ?_
      rintro e w1 ⟨rfl, hb1⟩
      have hroom1 := hroom.below hb1 hroom.lt
      have hbel1 : Below w.heap.size w w1 := hbel.trans (hb1.mono hbel.size)
      obtain ⟨c0, hc0⟩ := hroom1.at_ (k * 3) (by omega)
      obtain ⟨c1, hc1⟩ := hroom1.at_ (k * 3 + 1) (by omega)
      obtain ⟨c2, hc2⟩ := hroom1.at_ (k * 3 + 2) (by omega)
      have hf0 := hroom1.frozen (k * 3)
      have hf1 := hroom1.frozen (k * 3 + 1)
      have hf2 := hroom1.frozen (k * 3 + 2)
      have hlen : (ts.take k).length = k := by rw [List.length_take, hr.1]; omega
      have hpush := hroom1.pushR (by rw [hlen]; exact hlt) x y z
      rw [hlen, ← takeA_more hx.out] at hpush
      have HP := put hpush; clear hpush hlen hc hc' hc'' hb1
      go_wp2
      go_roundw
      case rel => exact ⟨k + 1, by omega, by go_num, HP.out, ((hbel1.setCell (by simp) _).setCell (by simp) _).setCell (by simp) _⟩
      case measure => simp [intOf]; omega
    · have hfin := put (show ts.take k = ts from List.take_of_length_le (by rw [hr.1]; omega))
      go_wp2
      go_ret
      exact ⟨_, rfl, ⟨_, rfl, Nat.le_refl _, by rw [hfin.out] at hroom; exact hroom, hr.1⟩, hbel⟩
set_option maxHeartbeats 400000 in
theorem szNotes_any (A : Option Addr) (n c : Nat) (left : Int) (w : World) (hn : n ≤ maxLen) (h0 : 0 ≤ left) (h1 : left ≤ 1048576) : Calls Tryz.prog 26 #[.slice A n c, .int .i64 left] w fun e w' => e = .returned (.int .i64 (szA n left)) ∧ w = w' := by
  unfold maxLen at hn
  by_cases h : (n : Int) ≤ left
  · rw [szA_fit h]
    go_enter Tryz.func26, Tryz.ntmps26
    go_wp2
    go_ret
    exact ⟨rfl, rfl⟩
  · have h := Int.not_le.1 h
    rw [szA_no h]
    go_enter Tryz.func26, Tryz.ntmps26
    go_wp2
    go_ret
    exact ⟨rfl, rfl⟩


end Go.Proofs.YtpbkkjiikhjanaaGreatDoor

/-
  Machines in memory.
-/
namespace Go.Proofs.YtpbkkjiikhjanaaGreatDoor
open Go.RowKit Exs

structure Mc where
  frames : List Fr
  trace : List Int
  used : Int
  code : Int
  value : Int
  made : Int
  notes : List Row3
/-- Its cells. -/
def mcL (s : Mc) (A1 : Option Addr) (n1 c1 : Nat) (A2 : Option Addr) (n2 c2 : Nat) (A3 : Option Addr) (n3 c3 : Nat) : List Value := [.slice A1 n1 c1, .slice A2 n2 c2, .int .i64 s.used, .int .i64 s.code, .int .i64 s.value, .int .i64 s.made, .slice A3 n3 c3]
def mcV (s : Mc) (A1 : Option Addr) (n1 c1 : Nat) (A2 : Option Addr) (n2 c2 : Nat) (A3 : Option Addr) (n3 c3 : Nat) : Value := .agg #[.slice A1 n1 c1, .slice A2 n2 c2, .int .i64 s.used, .int .i64 s.code, .int .i64 s.value, .int .i64 s.made, .slice A3 n3 c3]
structure IsMc (w : World) (B : Nat) (s : Mc) (A1 : Option Addr) (n1 : Nat) (A2 : Option Addr) (n2 : Nat) (A3 : Option Addr) (n3 : Nat) : Prop where
  frames : ReadsFr w B A1 n1 s.frames
  trace : Reads w B .i64 A2 n2 s.trace
  notes : ReadsR w B A3 n3 s.notes
theorem IsMc.below {w w' : World} {B : Nat} {s : Mc} {A1 : Option Addr} {n1 : Nat} {A2 : Option Addr} {n2 : Nat} {A3 : Option Addr} {n3 : Nat} (h : IsMc w B s A1 n1 A2 n2 A3 n3) (hb : Below B w w') : IsMc w' B s A1 n1 A2 n2 A3 n3 := ⟨h.frames.below hb, h.trace.below hb, h.notes.below hb⟩
theorem IsMc.more {w : World} {B B' : Nat} {s : Mc} {A1 : Option Addr} {n1 : Nat} {A2 : Option Addr} {n2 : Nat} {A3 : Option Addr} {n3 : Nat} (h : IsMc w B s A1 n1 A2 n2 A3 n3) (hB : B ≤ B') : IsMc w B' s A1 n1 A2 n2 A3 n3 := ⟨h.frames.more hB, h.trace.more hB, h.notes.more hB⟩
theorem IsMc.now {w w' : World} {s : Mc} {A1 : Option Addr} {n1 : Nat} {A2 : Option Addr} {n2 : Nat} {A3 : Option Addr} {n3 : Nat} (h : IsMc w w.heap.size s A1 n1 A2 n2 A3 n3) (hb : Below w.heap.size w w') : IsMc w' w'.heap.size s A1 n1 A2 n2 A3 n3 := (h.below hb).more hb.size
/-- Sizes within what the laws let through; within what memory lets be; how many values the laws count. -/
def SmallMc (s : Mc) : Prop := s.frames.length ≤ 1048576 ∧ (∀ x ∈ s.frames, SmallFr x) ∧ s.trace.length ≤ 1048576 ∧ s.notes.length ≤ 1048576
def LongMc (s : Mc) : Prop := s.frames.length ≤ maxLen ∧ (∀ x ∈ s.frames, LongFr x) ∧ s.trace.length ≤ maxLen ∧ s.notes.length ≤ maxLen
def manyMc (s : Mc) : Nat := s.frames.length + manyFrs s.frames + s.trace.length + s.notes.length
structure MMc (w : World) (L : Nat) (s : Mc) (A1 : Option Addr) (n1 : Nat) (A2 : Option Addr) (n2 : Nat) (A3 : Option Addr) (n3 : Nat) : Prop where
  frames : MFrs w L A1 n1 s.frames
  trace : MInts w L A2 n2 s.trace
  notes : MNotes w L A3 n3 s.notes
theorem MMc.same {w w' : World} {L : Nat} {s : Mc} {A1 : Option Addr} {n1 : Nat} {A2 : Option Addr} {n2 : Nat} {A3 : Option Addr} {n3 : Nat} (h : MMc w L s A1 n1 A2 n2 A3 n3) (hs : SameFrom L w w') : MMc w' L s A1 n1 A2 n2 A3 n3 := ⟨h.frames.same hs, h.trace.same hs, h.notes.same hs⟩
theorem MMc.from {w : World} {L L' : Nat} {s : Mc} {A1 : Option Addr} {n1 : Nat} {A2 : Option Addr} {n2 : Nat} {A3 : Option Addr} {n3 : Nat} (h : MMc w L s A1 n1 A2 n2 A3 n3) (hL : L' ≤ L) : MMc w L' s A1 n1 A2 n2 A3 n3 := ⟨h.frames.from hL, h.trace.from hL, h.notes.from hL⟩
theorem MMc.reads {w : World} {L : Nat} {s : Mc} {A1 : Option Addr} {n1 : Nat} {A2 : Option Addr} {n2 : Nat} {A3 : Option Addr} {n3 : Nat} (h : MMc w L s A1 n1 A2 n2 A3 n3) : IsMc w w.heap.size s A1 n1 A2 n2 A3 n3 := ⟨h.frames.reads, h.trace.reads, h.notes.reads⟩

end Go.Proofs.YtpbkkjiikhjanaaGreatDoor

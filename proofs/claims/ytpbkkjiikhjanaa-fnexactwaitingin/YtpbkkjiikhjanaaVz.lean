/-
  Rows of values in memory; lists of truths: how the laws copy, compare and count them.
-/
import Derived.Test.YtpbkkjiikhjanaaCoTo2
import Derived.Test.YtpbkkjiikhjanaaCoEq
import Derived.Test.YtpbkkjiikhjanaaCoSz
namespace Go.Proofs.Ytpbkkjiikhjanaa
open Go.RowKit Exs

/-- The slice value '.slice A n c' reads as the values vs, and lies below block B. -/
def ReadsV (w : World) (B : Nat) (A : Option Addr) (n : Nat) (vs : List Value) : Prop :=
  vs.length = n ∧ (0 < n → ∃ b off, A = some ⟨b, off, none⟩ ∧ b < B ∧ ∀ (j : Nat) (x : Value), vs[j]? = some x → w.cell? ⟨b, off + j, none⟩ = some x)
section
variable {w w' : World} {B B' : Nat} {A : Option Addr} {n : Nat} {vs : List Value}
theorem ReadsV.below (h : ReadsV w B A n vs) (hb : Below B w w') : ReadsV w' B A n vs :=
  ⟨h.1, fun hn => by
    obtain ⟨b, off, rfl, hB, hc⟩ := h.2 hn
    exact ⟨b, off, rfl, hB, fun j x hx => (hb.cell (p := ⟨b, off + j, none⟩) hB).trans (hc j x hx)⟩⟩
theorem ReadsV.more (h : ReadsV w B A n vs) (hB : B ≤ B') : ReadsV w B' A n vs :=
  ⟨h.1, fun hn => by
    obtain ⟨b, off, rfl, hb, hc⟩ := h.2 hn
    exact ⟨b, off, rfl, by omega, hc⟩⟩
end
def ReadsB (w : World) (B : Nat) (A : Option Addr) (n : Nat) (bs : List Bool) : Prop := bs.length = n ∧ ReadsV w B A n (bs.map Value.bool)
section
variable {w w' : World} {B B' : Nat} {A : Option Addr} {n : Nat} {bs : List Bool}
theorem ReadsB.below (h : ReadsB w B A n bs) (hb : Below B w w') : ReadsB w' B A n bs := ⟨h.1, h.2.below hb⟩
theorem ReadsB.more (h : ReadsB w B A n bs) (hB : B ≤ B') : ReadsB w B' A n bs := ⟨h.1, h.2.more hB⟩
theorem ReadsB.now (h : ReadsB w w.heap.size A n bs) (hb : Below w.heap.size w w') : ReadsB w' w'.heap.size A n bs := (h.below hb).more hb.size
theorem ReadsB.at_ (h : ReadsB w B A n bs) {j : Nat} (hj : j < n) : ∃ b off x, A = some ⟨b, off, none⟩ ∧ b < B ∧ w.cell? ⟨b, off + j, none⟩ = some (.bool x) ∧ Hid (bs[j]? = some x) := by
  obtain ⟨b, off, rfl, hb, hc⟩ := h.2.2 (by omega)
  have hl : j < bs.length := by rw [h.1]; exact hj
  exact ⟨b, off, bs[j], rfl, hb, hc j _ (by simp [List.getElem?_eq_getElem hl]), List.getElem?_eq_getElem hl⟩
end
/-- Block g is a row of c cells of which the first ones are vs. -/
def RoomV (w : World) (g : Nat) (t : TypeId) (c : Nat) (vs : List Value) : Prop :=
  ∃ cs : Array Value, w.heap[g]? = some (.cells cs t (0, 0)) ∧ cs.size = c ∧ ∀ (j : Nat) (v : Value), vs[j]? = some v → cs[j]? = some v
section
variable {w w' : World} {g : Nat} {t : TypeId} {c : Nat} {vs : List Value}
theorem RoomV.lt (h : RoomV w g t c vs) : g < w.heap.size := by obtain ⟨cs, h1, _⟩ := h; exact (Array.getElem?_eq_some_iff.1 h1).1
theorem RoomV.same (h : RoomV w g t c vs) (hs : SameFrom g w w') : RoomV w' g t c vs := by
  have hl := h.lt
  obtain ⟨cs, h1, h2, h3⟩ := h
  exact ⟨cs, (hs g (Nat.le_refl _) hl).trans h1, h2, h3⟩
theorem RoomV.below {B : Nat} (h : RoomV w g t c vs) (hb : Below B w w') (hg : g < B) : RoomV w' g t c vs := by
  obtain ⟨cs, h1, h2, h3⟩ := h
  exact ⟨cs, (hb.block g hg).trans h1, h2, h3⟩
theorem RoomV.at_ (h : RoomV w g t c vs) (j : Nat) (hj : j < c) : ∃ v, w.cell? ⟨g, j, none⟩ = some v := by
  obtain ⟨cs, h1, h2, _⟩ := h
  exact ⟨cs[j], by rw [cell_of_row w g j cs t (0, 0) h1]; exact Array.getElem?_eq_getElem (by omega)⟩
theorem RoomV.frozen (h : RoomV w g t c vs) (j : Nat) : w.frozen? ⟨g, j, none⟩ = false := by
  obtain ⟨cs, h1, _⟩ := h
  simp [World.frozen?, h1]
theorem RoomV.cell (h : RoomV w g t c vs) {j : Nat} {v : Value} (hj : vs[j]? = some v) : w.cell? ⟨g, j, none⟩ = some v := by
  obtain ⟨cs, h1, _, h3⟩ := h
  rw [cell_of_row w g j cs t (0, 0) h1]; exact h3 j v hj
theorem RoomV.cellz (h : RoomV w g t c vs) : ∃ cs : Array Value, w.heap[g]? = some (.cells cs t (0, 0)) ∧ ∀ (j : Nat) (v : Value), vs[j]? = some v → cs[j]? = some v := by
  obtain ⟨cs, h1, _, h3⟩ := h; exact ⟨cs, h1, h3⟩
theorem RoomV.push (h : RoomV w g t c vs) (hc : vs.length < c) (u : Value) : RoomV (w.setCell ⟨g, vs.length, none⟩ u) g t c (vs ++ [u]) := by
  obtain ⟨cs, h1, h2, h3⟩ := h
  refine ⟨cs.setIfInBounds vs.length u, heap_set h1, by simpa using h2, fun j v hj => ?_⟩
  rw [Array.getElem?_setIfInBounds]
  by_cases hlt : j < vs.length
  · rw [List.getElem?_append_left hlt] at hj
    rw [if_neg (by omega)]
    exact h3 j v hj
  · have : j = vs.length := by have := (List.getElem?_eq_some_iff.1 hj).1; simp at this; omega
    subst this
    rw [List.getElem?_append_right (Nat.le_refl _)] at hj
    simp at hj
    rw [if_pos rfl, if_pos (by omega), hj]
theorem RoomV.reads (h : RoomV w g t c vs) (hn : vs.length = c) : ReadsV w w.heap.size (some ⟨g, 0, none⟩) c vs :=
  ⟨hn, fun _ => ⟨g, 0, rfl, h.lt, fun j x hx => by rw [Nat.zero_add]; exact h.cell hx⟩⟩
end
def MBools (w : World) (L : Nat) (A : Option Addr) (n : Nat) (bs : List Bool) : Prop := ∃ g, A = some ⟨g, 0, none⟩ ∧ L ≤ g ∧ RoomV w g 4 n (bs.map Value.bool) ∧ bs.length = n
theorem MBools.same {w w' : World} {L : Nat} {A : Option Addr} {n : Nat} {xs : List Bool} (h : MBools w L A n xs) (hs : SameFrom L w w') : MBools w' L A n xs := by
  obtain ⟨g, e, hg, r, hl⟩ := h; exact ⟨g, e, hg, r.same (hs.mono hg), hl⟩
theorem MBools.from {w : World} {L L' : Nat} {A : Option Addr} {n : Nat} {xs : List Bool} (h : MBools w L A n xs) (hL : L' ≤ L) : MBools w L' A n xs := by
  obtain ⟨g, e, hg, r, hl⟩ := h; exact ⟨g, e, by omega, r, hl⟩
theorem MBools.reads {w : World} {L : Nat} {A : Option Addr} {n : Nat} {xs : List Bool} (h : MBools w L A n xs) : ReadsB w w.heap.size A n xs := by
  obtain ⟨g, rfl, _, r, hl⟩ := h; exact ⟨hl, r.reads (by simp [hl])⟩
theorem infoBool : (Try.prog.info? 4).map (fun i => (i.zero, i.size, i.bytes)) = some (some (.bool false), 1, 1) := by kernel_rfl

set_option maxHeartbeats 400000 in
set_option maxRecDepth 100000 in
theorem toBools_m (A : Option Addr) (n c : Nat) (bs : List Bool) (w : World) (hr : ReadsB w w.heap.size A n bs) (hn : n ≤ 1048576) :
    Calls Try.prog 35 #[.slice A n c] w fun e w' => ∃ B, e = .returned (.slice B n n) ∧ MBools w' w.heap.size B n bs ∧ Below w.heap.size w w' := by
  have hmk := fun W => run_make_rows (P := Try.prog) 44 4 (.bool false) 1 1 Try.underlying44 infoBool n (by omega) (by omega) W
  go_enter Try.func35, Try.ntmps35
  go_wp2
  go_loopw [4] (fun i wr => ∃ k : Nat, k ≤ n ∧ i = .int .i64 k ∧ RoomV wr w.heap.size 4 n ((bs.take k).map Value.bool) ∧ Below w.heap.size w wr) (fun i _ => n - (intOf i).toNat)
  case atStart => exact ⟨0, Nat.zero_le _, rfl, ⟨_, heap_alloc_new _ _, by rw [size_madeCells], fun j v hj => by simp at hj⟩, (Below.refl _ _).alloc (Nat.le_refl _) _⟩
  case round =>
    obtain ⟨k, hk, rfl, hroom, hbel⟩ := hrel
    clear hmk
    by_cases hlt : k < n
    · obtain ⟨b, off, x, rfl, hb, hc, hx⟩ := (hr.below hbel).at_ hlt
      obtain ⟨c0, hc0⟩ := hroom.at_ k hlt
      have hfr := hroom.frozen k
      have hlen : ((bs.take k).map Value.bool).length = k := by rw [List.length_map, List.length_take, hr.1]; omega
      have hpush := hroom.push (by rw [hlen]; exact hlt) (.bool x)
      rw [hlen, show (bs.take k).map Value.bool ++ [.bool x] = (bs.take (k + 1)).map Value.bool by rw [takeA_more hx.out]; simp] at hpush
      have HP := put hpush; clear hpush hlen
      go_wp2
      go_roundw
      case rel => exact ⟨k + 1, by omega, by go_num, HP.out, hbel.setCell (by simp) _⟩
      case measure => simp [intOf]; omega
    · have hfin := put (show bs.take k = bs from List.take_of_length_le (by rw [hr.1]; omega))
      go_wp2
      go_ret
      exact ⟨_, rfl, ⟨_, rfl, Nat.le_refl _, by rw [hfin.out] at hroom; exact hroom, hr.1⟩, hbel⟩

set_option maxHeartbeats 400000 in
set_option maxRecDepth 100000 in
theorem eqBools_same (A A' : Option Addr) (n c c' : Nat) (bs : List Bool) (w : World) (hr : ReadsB w w.heap.size A n bs) (hr' : ReadsB w w.heap.size A' n bs) (hn : n ≤ 1048576) :
    Calls Try.prog 37 #[.slice A n c, .slice A' n c'] w fun e w' => e = .returned (.bool true) ∧ Below w.heap.size w w' := by
  go_enter Try.func37, Try.ntmps37
  go_wp2
  go_loopw [5] (fun i wr => ∃ k q : Nat, k ≤ n ∧ i = .int .i64 k ∧ wr = w.drewN q) (fun i _ => n - (intOf i).toNat)
  case atStart => exact ⟨0, 0, Nat.zero_le _, rfl, rfl⟩
  case round =>
    obtain ⟨k, q, hk, rfl, rfl⟩ := hrel
    by_cases hlt : k < n
    · obtain ⟨b, off, x, rfl, hb, hc, hx⟩ := hr.at_ hlt
      obtain ⟨b', off', x', rfl, hb', hc', hx'⟩ := hr'.at_ hlt
      obtain rfl : x = x' := by have := hx.out; rw [hx'.out] at this; injection this with this; exact this.symm
      go_wp2
      go_quiet (fail)
      go_wp2
      go_roundw
      case rel => exact ⟨k + 1, _, by omega, by go_num, rfl⟩
      case measure => simp [intOf]; omega
    · go_wp2
      go_ret
      exact ⟨rfl, below_drewN (Below.refl _ _) _⟩

set_option maxHeartbeats 400000 in
theorem szBools_any (A : Option Addr) (n c : Nat) (left : Int) (w : World) (hn : n ≤ maxLen) (h0 : 0 ≤ left) (h1 : left ≤ 1048576) : Calls Try.prog 34 #[.slice A n c, .int .i64 left] w fun e w' => e = .returned (.int .i64 (szA n left)) ∧ w = w' := by
  unfold maxLen at hn
  by_cases h : (n : Int) ≤ left
  · rw [szA_fit h]
    go_enter Try.func34, Try.ntmps34
    go_wp2
    go_ret
    exact ⟨rfl, rfl⟩
  · have h := Int.not_le.1 h
    rw [szA_no h]
    go_enter Try.func34, Try.ntmps34
    go_wp2
    go_ret
    exact ⟨rfl, rfl⟩

end Go.Proofs.Ytpbkkjiikhjanaa

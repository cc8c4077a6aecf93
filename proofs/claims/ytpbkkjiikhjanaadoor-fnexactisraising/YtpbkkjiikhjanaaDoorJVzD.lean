/-
  Texts joined: VzD FrM VzN McM Gv Wt Up Ls Mv.
-/
import Derived.Test.YtpbkkjiikhjanaaDoorJCoTo2
import Derived.Test.YtpbkkjiikhjanaaDoorJCda5
import Derived.Test.YtpbkkjiikhjanaaDoorJKit
import Derived.Laws.Small
/-
  Rows of values in memory; lists of truths: how the laws copy, compare and count them.
-/
namespace Go.Proofs.YtpbkkjiikhjanaaDoor
open Go.RowKit Exs

/-- The slice value '.slice A n c' reads as the values vs, and lies below block B. -/
def ReadsV (w : World) (B : Nat) (A : Option Addr) (n : Nat) (vs : List Value) : Prop :=
  vs.length = n ∧ (0 < n → ∃ b off, A = some ⟨b, off, none⟩ ∧ b < B ∧ ∀ (j : Nat) (x : Value), vs[j]? = some x → w.cell? ⟨b, off + j, none⟩ = some x)
section
variable {w w' : World} {B B' : Nat} {A : Option Addr} {n : Nat} {vs : List Value}
theorem ReadsV.below (h : ReadsV w B A n vs) (hb : Below B w w') : ReadsV w' B A n vs :=
  ⟨h.1, fun hn => by
    obtain ⟨b, off, rfl, hB, hc⟩ := h.2 hn
    exact ⟨b, off, rfl, hB, fun j x hx => (hb.cell (p := ⟨b, off + j, none⟩) hB).trans (hc j x hx)⟩⟩
theorem ReadsV.more (h : ReadsV w B A n vs) (hB : B ≤ B') : ReadsV w B' A n vs :=
  ⟨h.1, fun hn => by
    obtain ⟨b, off, rfl, hb, hc⟩ := h.2 hn
    exact ⟨b, off, rfl, by omega, hc⟩⟩
end
def ReadsB (w : World) (B : Nat) (A : Option Addr) (n : Nat) (bs : List Bool) : Prop := bs.length = n ∧ ReadsV w B A n (bs.map Value.bool)
section
variable {w w' : World} {B B' : Nat} {A : Option Addr} {n : Nat} {bs : List Bool}
theorem ReadsB.below (h : ReadsB w B A n bs) (hb : Below B w w') : ReadsB w' B A n bs := ⟨h.1, h.2.below hb⟩
theorem ReadsB.more (h : ReadsB w B A n bs) (hB : B ≤ B') : ReadsB w B' A n bs := ⟨h.1, h.2.more hB⟩
theorem ReadsB.now (h : ReadsB w w.heap.size A n bs) (hb : Below w.heap.size w w') : ReadsB w' w'.heap.size A n bs := (h.below hb).more hb.size
theorem ReadsB.at_ (h : ReadsB w B A n bs) {j : Nat} (hj : j < n) : ∃ b off x, A = some ⟨b, off, none⟩ ∧ b < B ∧ w.cell? ⟨b, off + j, none⟩ = some (.bool x) ∧ Hid (bs[j]? = some x) := by
  obtain ⟨b, off, rfl, hb, hc⟩ := h.2.2 (by omega)
  have hl : j < bs.length := by rw [h.1]; exact hj
  exact ⟨b, off, bs[j], rfl, hb, hc j _ (by simp [List.getElem?_eq_getElem hl]), List.getElem?_eq_getElem hl⟩
end
/-- Block g is a row of c cells of which the first ones are vs. -/
def RoomV (w : World) (g : Nat) (t : TypeId) (c : Nat) (vs : List Value) : Prop :=
  ∃ cs : Array Value, w.heap[g]? = some (.cells cs t (0, 0)) ∧ cs.size = c ∧ ∀ (j : Nat) (v : Value), vs[j]? = some v → cs[j]? = some v
section
variable {w w' : World} {g : Nat} {t : TypeId} {c : Nat} {vs : List Value}
theorem RoomV.lt (h : RoomV w g t c vs) : g < w.heap.size := by obtain ⟨cs, h1, _⟩ := h; exact (Array.getElem?_eq_some_iff.1 h1).1
theorem RoomV.same (h : RoomV w g t c vs) (hs : SameFrom g w w') : RoomV w' g t c vs := by
  have hl := h.lt
  obtain ⟨cs, h1, h2, h3⟩ := h
  exact ⟨cs, (hs g (Nat.le_refl _) hl).trans h1, h2, h3⟩
theorem RoomV.below {B : Nat} (h : RoomV w g t c vs) (hb : Below B w w') (hg : g < B) : RoomV w' g t c vs := by
  obtain ⟨cs, h1, h2, h3⟩ := h
  exact ⟨cs, (hb.block g hg).trans h1, h2, h3⟩
theorem RoomV.at_ (h : RoomV w g t c vs) (j : Nat) (hj : j < c) : ∃ v, w.cell? ⟨g, j, none⟩ = some v := by
  obtain ⟨cs, h1, h2, _⟩ := h
  exact ⟨cs[j], by rw [cell_of_row w g j cs t (0, 0) h1]; exact Array.getElem?_eq_getElem (by omega)⟩
theorem RoomV.frozen (h : RoomV w g t c vs) (j : Nat) : w.frozen? ⟨g, j, none⟩ = false := by
  obtain ⟨cs, h1, _⟩ := h
  simp [World.frozen?, h1]
theorem RoomV.cell (h : RoomV w g t c vs) {j : Nat} {v : Value} (hj : vs[j]? = some v) : w.cell? ⟨g, j, none⟩ = some v := by
  obtain ⟨cs, h1, _, h3⟩ := h
  rw [cell_of_row w g j cs t (0, 0) h1]; exact h3 j v hj
theorem RoomV.cellz (h : RoomV w g t c vs) : ∃ cs : Array Value, w.heap[g]? = some (.cells cs t (0, 0)) ∧ ∀ (j : Nat) (v : Value), vs[j]? = some v → cs[j]? = some v := by
  obtain ⟨cs, h1, _, h3⟩ := h; exact ⟨cs, h1, h3⟩
theorem RoomV.push (h : RoomV w g t c vs) (hc : vs.length < c) (u : Value) : RoomV (w.setCell ⟨g, vs.length, none⟩ u) g t c (vs ++ [u]) := by
  obtain ⟨cs, h1, h2, h3⟩ := h
  refine ⟨cs.setIfInBounds vs.length u, heap_set h1, by simpa using h2, fun j v hj => ?_⟩
  rw [Array.getElem?_setIfInBounds]
  by_cases hlt : j < vs.length
  · rw [List.getElem?_append_left hlt] at hj
    rw [if_neg (by omega)]
    exact h3 j v hj
  · have : j = vs.length := by have := (List.getElem?_eq_some_iff.1 hj).1; simp at this; omega
    subst this
    rw [List.getElem?_append_right (Nat.le_refl _)] at hj
    simp at hj
    rw [if_pos rfl, if_pos (by omega), hj]
theorem RoomV.reads (h : RoomV w g t c vs) (hn : vs.length = c) : ReadsV w w.heap.size (some ⟨g, 0, none⟩) c vs :=
  ⟨hn, fun _ => ⟨g, 0, rfl, h.lt, fun j x hx => by rw [Nat.zero_add]; exact h.cell hx⟩⟩
end
def MBools (w : World) (L : Nat) (A : Option Addr) (n : Nat) (bs : List Bool) : Prop := ∃ g, A = some ⟨g, 0, none⟩ ∧ L ≤ g ∧ RoomV w g 4 n (bs.map Value.bool) ∧ bs.length = n
theorem MBools.same {w w' : World} {L : Nat} {A : Option Addr} {n : Nat} {xs : List Bool} (h : MBools w L A n xs) (hs : SameFrom L w w') : MBools w' L A n xs := by
  obtain ⟨g, e, hg, r, hl⟩ := h; exact ⟨g, e, hg, r.same (hs.mono hg), hl⟩
theorem MBools.from {w : World} {L L' : Nat} {A : Option Addr} {n : Nat} {xs : List Bool} (h : MBools w L A n xs) (hL : L' ≤ L) : MBools w L' A n xs := by
  obtain ⟨g, e, hg, r, hl⟩ := h; exact ⟨g, e, by omega, r, hl⟩
theorem MBools.reads {w : World} {L : Nat} {A : Option Addr} {n : Nat} {xs : List Bool} (h : MBools w L A n xs) : ReadsB w w.heap.size A n xs := by
  obtain ⟨g, rfl, _, r, hl⟩ := h; exact ⟨hl, r.reads (by simp [hl])⟩
set_option maxHeartbeats 400000 in
set_option maxRecDepth 100000 in
theorem eqBools_same (A A' : Option Addr) (n c c' : Nat) (bs : List Bool) (w : World) (hr : ReadsB w w.heap.size A n bs) (hr' : ReadsB w w.heap.size A' n bs) (hn : n ≤ 1048576) :
    Calls Tryd.prog 65 #[.slice A n c, .slice A' n c'] w fun e w' => e = .returned (.bool true) ∧ Below w.heap.size w w' := by
  go_enter Tryd.func65, Tryd.ntmps65
  go_wp2
  go_loopw [5] (fun i wr => ∃ k q : Nat, k ≤ n ∧ i = .int .i64 k ∧ wr = w.drewN q) (fun i _ => n - (intOf i).toNat)
  case atStart => exact ⟨0, 0, Nat.zero_le _, rfl, rfl⟩
  case round =>
    obtain ⟨k, q, hk, rfl, rfl⟩ := hrel
    by_cases hlt : k < n
    · obtain ⟨b, off, x, rfl, hb, hc, hx⟩ := hr.at_ hlt
      obtain ⟨b', off', x', rfl, hb', hc', hx'⟩ := hr'.at_ hlt
      obtain rfl : x = x' := by have := hx.out; rw [hx'.out] at this; injection this with this; exact this.symm
      go_wp2
      go_quiet (fail)
      go_wp2
      go_roundw
      case rel => exact ⟨k + 1, _, by omega, by go_num, rfl⟩
      case measure => simp [intOf]; omega
    · go_wp2
      go_ret
      exact ⟨rfl, below_drewN (Below.refl _ _) _⟩


set_option maxHeartbeats 400000 in
theorem eqNote_same (x y z : Int) (w : World) : Calls Tryd.prog 41 #[.agg #[.int .i64 x, .int .i64 y, .int .i64 z], .agg #[.int .i64 x, .int .i64 y, .int .i64 z]] w fun e w' => e = .returned (.bool true) ∧ Below w.heap.size w w' := by
  go_enter Tryd.func41, Tryd.ntmps41
  go_wp2
  go_ret
  exact ⟨rfl, ((Below.refl _ _).alloc (Nat.le_refl _) _).alloc (by simp) _⟩

set_option maxHeartbeats 400000 in
set_option maxRecDepth 100000 in
theorem eqNotes_same (A A' : Option Addr) (n c c' : Nat) (ts : List Row3) (w : World) (hr : ReadsR w w.heap.size A n ts) (hr' : ReadsR w w.heap.size A' n ts) (hn : n ≤ 1048576) :
    Calls Tryd.prog 27 #[.slice A n c, .slice A' n c'] w fun e w' => e = .returned (.bool true) ∧ Below w.heap.size w w' := by
  go_enter Tryd.func27, Tryd.ntmps27
  go_wp2
  go_loopw [5] (fun i wr => ∃ k : Nat, k ≤ n ∧ i = .int .i64 k ∧ Below w.heap.size w wr) (fun i _ => n - (intOf i).toNat)
  case atStart => exact ⟨0, Nat.zero_le _, rfl, Below.refl _ _⟩
  case round =>
    obtain ⟨k, hk, rfl, hbel⟩ := hrel
    by_cases hlt : k < n
    · obtain ⟨b, off, x, y, z, rfl, hb, hc1, hc2, hc3, hx⟩ := (hr.below hbel).at_ hlt
      obtain ⟨b', off', x', y', z', rfl, hb', hc1', hc2', hc3', hx'⟩ := (hr'.below hbel).at_ hlt
      obtain ⟨rfl, rfl, rfl⟩ : x = x' ∧ y = y' ∧ z = z' := by have := hx.out; rw [hx'.out] at this; injection this with this; injection this with a b; injection b with b c; exact ⟨a.symm, b.symm, c.symm⟩
      have g1 := cell_regrown hc1
      have g2 := cell_regrown hc2
      have g3 := cell_regrown hc3
      have g4 := cell_regrown hc1'
      have g5 := cell_regrown hc2'
      have g6 := cell_regrown hc3'
      go_wp2
      refine wp_region_quiet_below (by kernel_rfl) (by kernel_rfl) ?_
      repeat (first | go_big_quiet_step ((go_at_call 41; exact Calls.regrown_of (eqNote_same x y z _))) | quiet_step (fail))
      refine wpQuiet_nil ?_
      intro _ hw'
      obtain ⟨⟨dq, osq⟩, hw''⟩ := hw'
      subst hw''
      go_wp2
      go_roundw
      case rel => exact ⟨k + 1, by omega, by go_num, hbel.trans ((below_regrown wr dq osq).mono hbel.size)⟩
      case measure => simp [intOf]; omega
    · go_wp2
      go_ret
      exact ⟨rfl, hbel⟩


end Go.Proofs.YtpbkkjiikhjanaaDoor

/-
  Frames in memory.
-/
namespace Go.Proofs.YtpbkkjiikhjanaaDoor
open Go.RowKit Exs

structure Fr where
  ide : Int
  fn : Int
  pla : Int
  pile : List Int
  vars : List Int
  flags : List Bool
  result : Int
  mode : Int
  value : Int
  base : Int
  off : Bool
/-- Its cells. -/
def frL (s : Fr) (A1 : Option Addr) (n1 c1 : Nat) (A2 : Option Addr) (n2 c2 : Nat) (A3 : Option Addr) (n3 c3 : Nat) : List Value := [.int .i64 s.ide, .int .i64 s.fn, .int .i64 s.pla, .slice A1 n1 c1, .slice A2 n2 c2, .slice A3 n3 c3, .int .i64 s.result, .int .i64 s.mode, .int .i64 s.value, .int .i64 s.base, .bool s.off]
def frV (s : Fr) (A1 : Option Addr) (n1 c1 : Nat) (A2 : Option Addr) (n2 c2 : Nat) (A3 : Option Addr) (n3 c3 : Nat) : Value := .agg #[.int .i64 s.ide, .int .i64 s.fn, .int .i64 s.pla, .slice A1 n1 c1, .slice A2 n2 c2, .slice A3 n3 c3, .int .i64 s.result, .int .i64 s.mode, .int .i64 s.value, .int .i64 s.base, .bool s.off]
structure IsFr (w : World) (B : Nat) (s : Fr) (A1 : Option Addr) (n1 : Nat) (A2 : Option Addr) (n2 : Nat) (A3 : Option Addr) (n3 : Nat) : Prop where
  pile : Reads w B .i64 A1 n1 s.pile
  vars : Reads w B .i64 A2 n2 s.vars
  flags : ReadsB w B A3 n3 s.flags
theorem IsFr.below {w w' : World} {B : Nat} {s : Fr} {A1 : Option Addr} {n1 : Nat} {A2 : Option Addr} {n2 : Nat} {A3 : Option Addr} {n3 : Nat} (h : IsFr w B s A1 n1 A2 n2 A3 n3) (hb : Below B w w') : IsFr w' B s A1 n1 A2 n2 A3 n3 := ⟨h.pile.below hb, h.vars.below hb, h.flags.below hb⟩
theorem IsFr.more {w : World} {B B' : Nat} {s : Fr} {A1 : Option Addr} {n1 : Nat} {A2 : Option Addr} {n2 : Nat} {A3 : Option Addr} {n3 : Nat} (h : IsFr w B s A1 n1 A2 n2 A3 n3) (hB : B ≤ B') : IsFr w B' s A1 n1 A2 n2 A3 n3 := ⟨h.pile.more hB, h.vars.more hB, h.flags.more hB⟩
theorem IsFr.now {w w' : World} {s : Fr} {A1 : Option Addr} {n1 : Nat} {A2 : Option Addr} {n2 : Nat} {A3 : Option Addr} {n3 : Nat} (h : IsFr w w.heap.size s A1 n1 A2 n2 A3 n3) (hb : Below w.heap.size w w') : IsFr w' w'.heap.size s A1 n1 A2 n2 A3 n3 := (h.below hb).more hb.size
/-- Sizes within what the laws let through; within what memory lets be; how many values the laws count. -/
def SmallFr (s : Fr) : Prop := s.pile.length ≤ 1048576 ∧ s.vars.length ≤ 1048576 ∧ s.flags.length ≤ 1048576
def LongFr (s : Fr) : Prop := s.pile.length ≤ maxLen ∧ s.vars.length ≤ maxLen ∧ s.flags.length ≤ maxLen
def manyFr (s : Fr) : Nat := s.pile.length + s.vars.length + s.flags.length
structure MFr (w : World) (L : Nat) (s : Fr) (A1 : Option Addr) (n1 : Nat) (A2 : Option Addr) (n2 : Nat) (A3 : Option Addr) (n3 : Nat) : Prop where
  pile : MInts w L A1 n1 s.pile
  vars : MInts w L A2 n2 s.vars
  flags : MBools w L A3 n3 s.flags
theorem MFr.same {w w' : World} {L : Nat} {s : Fr} {A1 : Option Addr} {n1 : Nat} {A2 : Option Addr} {n2 : Nat} {A3 : Option Addr} {n3 : Nat} (h : MFr w L s A1 n1 A2 n2 A3 n3) (hs : SameFrom L w w') : MFr w' L s A1 n1 A2 n2 A3 n3 := ⟨h.pile.same hs, h.vars.same hs, h.flags.same hs⟩
theorem MFr.from {w : World} {L L' : Nat} {s : Fr} {A1 : Option Addr} {n1 : Nat} {A2 : Option Addr} {n2 : Nat} {A3 : Option Addr} {n3 : Nat} (h : MFr w L s A1 n1 A2 n2 A3 n3) (hL : L' ≤ L) : MFr w L' s A1 n1 A2 n2 A3 n3 := ⟨h.pile.from hL, h.vars.from hL, h.flags.from hL⟩
theorem MFr.reads {w : World} {L : Nat} {s : Fr} {A1 : Option Addr} {n1 : Nat} {A2 : Option Addr} {n2 : Nat} {A3 : Option Addr} {n3 : Nat} (h : MFr w L s A1 n1 A2 n2 A3 n3) : IsFr w w.heap.size s A1 n1 A2 n2 A3 n3 := ⟨h.pile.reads, h.vars.reads, h.flags.reads⟩

/-- The slice value '.slice A n c' reads as the list ss, and lies, with all that it leads to, below block B. -/
def ReadsFr (w : World) (B : Nat) (A : Option Addr) (n : Nat) (ss : List Fr) : Prop :=
  ss.length = n ∧ (0 < n → ∃ b off, A = some ⟨b, off, none⟩ ∧ b < B ∧ ∀ (j : Nat) (s : Fr), ss[j]? = some s → ∃ A1 n1 c1 A2 n2 c2 A3 n3 c3, (∀ (i : Nat) (u : Value), (frL s A1 n1 c1 A2 n2 c2 A3 n3 c3)[i]? = some u → w.cell? ⟨b, off + j * 11 + i, none⟩ = some u) ∧ IsFr w B s A1 n1 A2 n2 A3 n3)
theorem ReadsFr.below {w w' : World} {B : Nat} {A : Option Addr} {n : Nat} {ss : List Fr} (h : ReadsFr w B A n ss) (hb : Below B w w') : ReadsFr w' B A n ss :=
  ⟨h.1, fun hn => by
    obtain ⟨b, off, rfl, hB, hc⟩ := h.2 hn
    refine ⟨b, off, rfl, hB, fun j s hs => ?_⟩
    obtain ⟨A1, n1, c1, A2, n2, c2, A3, n3, c3, h0, r⟩ := hc j s hs
    exact ⟨A1, n1, c1, A2, n2, c2, A3, n3, c3, fun i u hu => (hb.cell (p := ⟨b, _, none⟩) hB).trans (h0 i u hu), r.below hb⟩⟩
theorem ReadsFr.more {w : World} {B B' : Nat} {A : Option Addr} {n : Nat} {ss : List Fr} (h : ReadsFr w B A n ss) (hB : B ≤ B') : ReadsFr w B' A n ss :=
  ⟨h.1, fun hn => by
    obtain ⟨b, off, rfl, hb, hc⟩ := h.2 hn
    refine ⟨b, off, rfl, by omega, fun j s hs => ?_⟩
    obtain ⟨A1, n1, c1, A2, n2, c2, A3, n3, c3, h0, r⟩ := hc j s hs
    exact ⟨A1, n1, c1, A2, n2, c2, A3, n3, c3, h0, r.more hB⟩⟩
theorem ReadsFr.now {w w' : World} {A : Option Addr} {n : Nat} {ss : List Fr} (h : ReadsFr w w.heap.size A n ss) (hb : Below w.heap.size w w') : ReadsFr w' w'.heap.size A n ss := (h.below hb).more hb.size
theorem ReadsFr.at_ {w : World} {B : Nat} {A : Option Addr} {n : Nat} {ss : List Fr} (h : ReadsFr w B A n ss) {j : Nat} (hj : j < n) : ∃ b off s A1 n1 c1 A2 n2 c2 A3 n3 c3, A = some ⟨b, off, none⟩ ∧ b < B ∧ w.cell? ⟨b, off + j * 11, none⟩ = some (.int .i64 s.ide) ∧ w.cell? ⟨b, off + j * 11 + 1, none⟩ = some (.int .i64 s.fn) ∧ w.cell? ⟨b, off + j * 11 + 2, none⟩ = some (.int .i64 s.pla) ∧ w.cell? ⟨b, off + j * 11 + 3, none⟩ = some (.slice A1 n1 c1) ∧ w.cell? ⟨b, off + j * 11 + 4, none⟩ = some (.slice A2 n2 c2) ∧ w.cell? ⟨b, off + j * 11 + 5, none⟩ = some (.slice A3 n3 c3) ∧ w.cell? ⟨b, off + j * 11 + 6, none⟩ = some (.int .i64 s.result) ∧ w.cell? ⟨b, off + j * 11 + 7, none⟩ = some (.int .i64 s.mode) ∧ w.cell? ⟨b, off + j * 11 + 8, none⟩ = some (.int .i64 s.value) ∧ w.cell? ⟨b, off + j * 11 + 9, none⟩ = some (.int .i64 s.base) ∧ w.cell? ⟨b, off + j * 11 + 10, none⟩ = some (.bool s.off) ∧ IsFr w B s A1 n1 A2 n2 A3 n3 ∧ Hid (ss[j]? = some s) := by
  obtain ⟨b, off, rfl, hb, hc⟩ := h.2 (by omega)
  have hl : j < ss.length := by rw [h.1]; exact hj
  obtain ⟨A1, n1, c1, A2, n2, c2, A3, n3, c3, h0, r⟩ := hc j _ (List.getElem?_eq_getElem hl)
  exact ⟨b, off, ss[j], A1, n1, c1, A2, n2, c2, A3, n3, c3, rfl, hb, h0 0 _ rfl, h0 1 _ rfl, h0 2 _ rfl, h0 3 _ rfl, h0 4 _ rfl, h0 5 _ rfl, h0 6 _ rfl, h0 7 _ rfl, h0 8 _ rfl, h0 9 _ rfl, h0 10 _ rfl, r, List.getElem?_eq_getElem hl⟩
def manyFrs : List Fr → Nat
  | [] => 0
  | s :: r => manyFr s + manyFrs r
theorem manyFrs_append (a b : List Fr) : manyFrs (a ++ b) = manyFrs a + manyFrs b := by induction a with | nil => simp [manyFrs] | cons s r ih => simp [manyFrs, ih]; omega
theorem manyFrs_mem {ss : List Fr} {s : Fr} (h : s ∈ ss) : manyFr s ≤ manyFrs ss := by
  induction ss with
  | nil => cases h
  | cons a r ih => rcases List.mem_cons.1 h with rfl | h; · simp [manyFrs]
                   · have := ih h; simp [manyFrs]; omega

/-- Block g is a row of n of them of which the first ones are ss, and behind these the cells pre; what they lead to lies in later blocks. -/
def RoomFrp (w : World) (g n : Nat) (ss : List Fr) (pre : List Value) : Prop :=
  ∃ cs : Array Value, w.heap[g]? = some (.cells cs 58 (0, 0)) ∧ cs.size = n * 11 ∧ (∀ (j : Nat) (s : Fr), ss[j]? = some s → ∃ A1 n1 c1 A2 n2 c2 A3 n3 c3,
    (∀ (i : Nat) (u : Value), (frL s A1 n1 c1 A2 n2 c2 A3 n3 c3)[i]? = some u → cs[j * 11 + i]? = some u) ∧ MFr w (g + 1) s A1 n1 A2 n2 A3 n3) ∧ ∀ (i : Nat) (u : Value), pre[i]? = some u → cs[ss.length * 11 + i]? = some u
def RoomFr (w : World) (g n : Nat) (ss : List Fr) : Prop := RoomFrp w g n ss []
theorem RoomFrp.lt {w : World} {g n : Nat} {ss : List Fr} {pre : List Value} (h : RoomFrp w g n ss pre) : g < w.heap.size := by
  obtain ⟨cs, h1, _⟩ := h; exact (Array.getElem?_eq_some_iff.1 h1).1
theorem RoomFrp.same {w w' : World} {g n : Nat} {ss : List Fr} {pre : List Value} (h : RoomFrp w g n ss pre) (hs : SameFrom g w w') : RoomFrp w' g n ss pre := by
  have hl := h.lt
  obtain ⟨cs, h1, h2, h3, h4⟩ := h
  refine ⟨cs, (hs g (Nat.le_refl _) hl).trans h1, h2, fun j s hj => ?_, h4⟩
  obtain ⟨A1, n1, c1, A2, n2, c2, A3, n3, c3, g0, m⟩ := h3 j s hj
  exact ⟨A1, n1, c1, A2, n2, c2, A3, n3, c3, g0, m.same (hs.mono (by omega))⟩
theorem RoomFrp.at_ {w : World} {g n : Nat} {ss : List Fr} {pre : List Value} (h : RoomFrp w g n ss pre) (j : Nat) (hj : j < n * 11) : ∃ v, w.cell? ⟨g, j, none⟩ = some v := by
  obtain ⟨cs, h1, h2, _⟩ := h
  exact ⟨cs[j], by rw [cell_of_row w g j cs 58 (0, 0) h1]; exact Array.getElem?_eq_getElem (by omega)⟩
theorem RoomFrp.frozen {w : World} {g n : Nat} {ss : List Fr} {pre : List Value} (h : RoomFrp w g n ss pre) (j : Nat) : w.frozen? ⟨g, j, none⟩ = false := by
  obtain ⟨cs, h1, _⟩ := h
  simp [World.frozen?, h1]
theorem RoomFrp.push1 {w : World} {g n : Nat} {ss : List Fr} {pre : List Value} (h : RoomFrp w g n ss pre) (hc : ss.length < n) (k : Nat) (hk : k = pre.length) (hp : k < 11) (u : Value) : RoomFrp (w.setCell ⟨g, ss.length * 11 + k, none⟩ u) g n ss (pre ++ [u]) := by
  subst hk
  have hsame := SameFrom.setCell w g (ss.length * 11 + pre.length) u
  obtain ⟨cs, h1, h2, h3, h4⟩ := h
  refine ⟨_, heap_set h1, by simpa using h2, fun j s hj => ?_, fun i x hi => ?_⟩
  · obtain ⟨A1, n1, c1, A2, n2, c2, A3, n3, c3, g0, m⟩ := h3 j s hj
    refine ⟨A1, n1, c1, A2, n2, c2, A3, n3, c3, fun i x hi => ?_, m.same hsame⟩
    have hjl := (List.getElem?_eq_some_iff.1 hj).1
    have hil : i < 11 := (List.getElem?_eq_some_iff.1 hi).1
    rw [Array.getElem?_setIfInBounds, if_neg (by omega)]
    exact g0 i x hi
  · rw [Array.getElem?_setIfInBounds]
    by_cases hlt : i < pre.length
    · rw [List.getElem?_append_left hlt] at hi
      rw [if_neg (by omega)]
      exact h4 i x hi
    · have : i = pre.length := by have := (List.getElem?_eq_some_iff.1 hi).1; simp at this; omega
      subst this
      rw [List.getElem?_append_right (Nat.le_refl _)] at hi
      simp at hi
      rw [if_pos rfl, if_pos (by rw [h2]; omega), hi]
theorem RoomFrp.full {w : World} {g n : Nat} {ss : List Fr} {pre : List Value} (h : RoomFrp w g n ss pre) (s : Fr) (A1 : Option Addr) (n1 c1 : Nat) (A2 : Option Addr) (n2 c2 : Nat) (A3 : Option Addr) (n3 c3 : Nat) (hp : pre = frL s A1 n1 c1 A2 n2 c2 A3 n3 c3) (hm : MFr w (g + 1) s A1 n1 A2 n2 A3 n3) : RoomFr w g n (ss ++ [s]) := by
  subst hp
  obtain ⟨cs, h1, h2, h3, h4⟩ := h
  refine ⟨cs, h1, h2, fun j s' hj => ?_, fun i u hi => by simp at hi⟩
  by_cases hl : j < ss.length
  · rw [List.getElem?_append_left hl] at hj; exact h3 j s' hj
  · have hj2 : j = ss.length := by
      have := (List.getElem?_eq_some_iff.1 hj).1
      simp at this; omega
    subst hj2
    rw [List.getElem?_append_right (Nat.le_refl _)] at hj
    simp at hj
    subst hj
    exact ⟨A1, n1, c1, A2, n2, c2, A3, n3, c3, h4, hm⟩
theorem RoomFr.reads {w : World} {g n : Nat} {ss : List Fr} (h : RoomFr w g n ss) (hn : ss.length = n) : ReadsFr w w.heap.size (some ⟨g, 0, none⟩) n ss := by
  have hl := RoomFrp.lt h
  obtain ⟨cs, h1, h2, h3, _⟩ := h
  refine ⟨hn, fun _ => ⟨g, 0, rfl, hl, fun j s hj => ?_⟩⟩
  obtain ⟨A1, n1, c1, A2, n2, c2, A3, n3, c3, g0, m⟩ := h3 j s hj
  exact ⟨A1, n1, c1, A2, n2, c2, A3, n3, c3, fun i u hu => by rw [Nat.zero_add, cell_of_row w g _ cs 58 (0, 0) h1]; exact g0 i u hu, m.reads⟩
theorem RoomFr.made (w : World) (n : Nat) (z : Array Value) (m : Nat) (hm : m = n * 11) : RoomFr (w.alloc (.cells (madeCells z m) 58)) w.heap.size n [] :=
  ⟨_, heap_alloc_new _ _, by rw [size_madeCells]; omega, fun j s hj => by simp at hj, fun i u hi => by simp at hi⟩
def MFrs (w : World) (L : Nat) (A : Option Addr) (n : Nat) (ss : List Fr) : Prop := ∃ g, A = some ⟨g, 0, none⟩ ∧ L ≤ g ∧ RoomFr w g n ss ∧ ss.length = n
theorem MFrs.same {w w' : World} {L : Nat} {A : Option Addr} {n : Nat} {xs : List Fr} (h : MFrs w L A n xs) (hs : SameFrom L w w') : MFrs w' L A n xs := by
  obtain ⟨g, e, hg, r, hl⟩ := h; exact ⟨g, e, hg, RoomFrp.same r (hs.mono hg), hl⟩
theorem MFrs.from {w : World} {L L' : Nat} {A : Option Addr} {n : Nat} {xs : List Fr} (h : MFrs w L A n xs) (hL : L' ≤ L) : MFrs w L' A n xs := by
  obtain ⟨g, e, hg, r, hl⟩ := h; exact ⟨g, e, by omega, r, hl⟩
theorem MFrs.reads {w : World} {L : Nat} {A : Option Addr} {n : Nat} {xs : List Fr} (h : MFrs w L A n xs) : ReadsFr w w.heap.size A n xs := by
  obtain ⟨g, rfl, _, r, hl⟩ := h; exact r.reads hl

end Go.Proofs.YtpbkkjiikhjanaaDoor

/-
  Lists of truths: how the laws copy and count them; notes likewise.
-/
namespace Go.Proofs.YtpbkkjiikhjanaaDoor
open Go.RowKit Exs

theorem infoBool : (Tryd.prog.info? 4).map (fun i => (i.zero, i.size, i.bytes)) = some (some (.bool false), 1, 1) := by kernel_rfl

set_option maxHeartbeats 400000 in
set_option maxRecDepth 100000 in
theorem toBools_m (A : Option Addr) (n c : Nat) (bs : List Bool) (w : World) (hr : ReadsB w w.heap.size A n bs) (hn : n ≤ 1048576) :
    Calls Tryd.prog 54 #[.slice A n c] w fun e w' => ∃ B, e = .returned (.slice B n n) ∧ MBools w' w.heap.size B n bs ∧ Below w.heap.size w w' := by
  have hmk := fun W => run_make_rows (P := Tryd.prog) 56 4 (.bool false) 1 1 Tryd.underlying56 infoBool n (by omega) (by omega) W
  go_enter Tryd.func54, Tryd.ntmps54
  go_wp2
  go_loopw [4] (fun i wr => ∃ k : Nat, k ≤ n ∧ i = .int .i64 k ∧ RoomV wr w.heap.size 4 n ((bs.take k).map Value.bool) ∧ Below w.heap.size w wr) (fun i _ => n - (intOf i).toNat)
  case atStart => exact ⟨0, Nat.zero_le _, rfl, ⟨_, heap_alloc_new _ _, by rw [size_madeCells], fun j v hj => by simp at hj⟩, (Below.refl _ _).alloc (Nat.le_refl _) _⟩
  case round =>
    obtain ⟨k, hk, rfl, hroom, hbel⟩ := hrel
    clear hmk
    by_cases hlt : k < n
    · obtain ⟨b, off, x, rfl, hb, hc, hx⟩ := (hr.below hbel).at_ hlt
      obtain ⟨c0, hc0⟩ := hroom.at_ k hlt
      have hfr := hroom.frozen k
      have hlen : ((bs.take k).map Value.bool).length = k := by rw [List.length_map, List.length_take, hr.1]; omega
      have hpush := hroom.push (by rw [hlen]; exact hlt) (.bool x)
      rw [hlen, show (bs.take k).map Value.bool ++ [.bool x] = (bs.take (k + 1)).map Value.bool by rw [takeA_more hx.out]; simp] at hpush
      have HP := put hpush; clear hpush hlen
      go_wp2
      go_roundw
      case rel => exact ⟨k + 1, by omega, by go_num, HP.out, hbel.setCell (by simp) _⟩
      case measure => simp [intOf]; omega
    · have hfin := put (show bs.take k = bs from List.take_of_length_le (by rw [hr.1]; omega))
      go_wp2
      go_ret
      exact ⟨_, rfl, ⟨_, rfl, Nat.le_refl _, by rw [hfin.out] at hroom; exact hroom, hr.1⟩, hbel⟩

set_option maxHeartbeats 400000 in
theorem szBools_any (A : Option Addr) (n c : Nat) (left : Int) (w : World) (hn : n ≤ maxLen) (h0 : 0 ≤ left) (h1 : left ≤ 1048576) : Calls Tryd.prog 44 #[.slice A n c, .int .i64 left] w fun e w' => e = .returned (.int .i64 (szA n left)) ∧ w = w' := by
  unfold maxLen at hn
  by_cases h : (n : Int) ≤ left
  · rw [szA_fit h]
    go_enter Tryd.func44, Tryd.ntmps44
    go_wp2
    go_ret
    exact ⟨rfl, rfl⟩
  · have h := Int.not_le.1 h
    rw [szA_no h]
    go_enter Tryd.func44, Tryd.ntmps44
    go_wp2
    go_ret
    exact ⟨rfl, rfl⟩

def MNotes (w : World) (L : Nat) (A : Option Addr) (n : Nat) (ts : List Row3) : Prop := ∃ g, A = some ⟨g, 0, none⟩ ∧ L ≤ g ∧ Room w g 80 (3 * n) .i64 (flat3 ts) ∧ ts.length = n
theorem MNotes.same {w w' : World} {L : Nat} {A : Option Addr} {n : Nat} {xs : List Row3} (h : MNotes w L A n xs) (hs : SameFrom L w w') : MNotes w' L A n xs := by
  obtain ⟨g, e, hg, r, hl⟩ := h; exact ⟨g, e, hg, r.same (hs.mono hg), hl⟩
theorem MNotes.from {w : World} {L L' : Nat} {A : Option Addr} {n : Nat} {xs : List Row3} (h : MNotes w L A n xs) (hL : L' ≤ L) : MNotes w L' A n xs := by
  obtain ⟨g, e, hg, r, hl⟩ := h; exact ⟨g, e, by omega, r, hl⟩
theorem MNotes.reads {w : World} {L : Nat} {A : Option Addr} {n : Nat} {xs : List Row3} (h : MNotes w L A n xs) : ReadsR w w.heap.size A n xs := by
  obtain ⟨g, rfl, _, r, hl⟩ := h; exact r.readsR hl
set_option maxHeartbeats 400000 in
theorem toNote_any (x y z : Int) (w : World) : Calls Tryd.prog 34 #[.agg #[.int .i64 x, .int .i64 y, .int .i64 z]] w fun e w' => e = .returned (.agg #[.int .i64 x, .int .i64 y, .int .i64 z]) ∧ Below w.heap.size w w' := by
  go_enter Tryd.func34, Tryd.ntmps34
  go_wp2
  exact bodyPost_ret (v := .agg #[.int .i64 x, .int .i64 y, .int .i64 z]) (by simp [results, Tryd.results34, go_sem]) rfl ⟨rfl, (((Below.refl _ _).alloc (Nat.le_refl _) _).alloc (by simp) _).alloc (by simp; omega) _⟩

theorem Tryd.info80 : (Tryd.prog.info? 80).map (fun i => (i.zero, i.size, i.bytes)) = some (some (.agg #[.int .i64 0, .int .i64 0, .int .i64 0]), 3, 24) := by kernel_rfl
set_option maxHeartbeats 400000 in
set_option maxRecDepth 100000 in
theorem toNotes_m (A : Option Addr) (n c : Nat) (ts : List Row3) (w : World) (hr : ReadsR w w.heap.size A n ts) (hn : n ≤ 1048576) :
    Calls Tryd.prog 21 #[.slice A n c] w fun e w' => ∃ B, e = .returned (.slice B n n) ∧ MNotes w' w.heap.size B n ts ∧ Below w.heap.size w w' := by
  have hmk := fun W => run_make_rows (P := Tryd.prog) 39 80 (.agg #[.int .i64 0, .int .i64 0, .int .i64 0]) 3 24 Tryd.underlying39 Tryd.info80 n (by omega) (by omega) W
  go_enter Tryd.func21, Tryd.ntmps21
  go_wp2
  go_loopw [4] (fun i wr => ∃ k : Nat, k ≤ n ∧ i = .int .i64 k ∧ Room wr w.heap.size 80 (3 * n) .i64 (flat3 (ts.take k)) ∧ Below w.heap.size w wr) (fun i _ => n - (intOf i).toNat)
  case atStart => exact ⟨0, Nat.zero_le _, rfl, Room.madeR w 80 n _ _ rfl, (Below.refl _ _).alloc (Nat.le_refl _) _⟩
  case round =>
    obtain ⟨k, hk, rfl, hroom, hbel⟩ := hrel
    clear hmk
    by_cases hlt : k < n
    · obtain ⟨b, off, x, y, z, rfl, hb, hc, hc', hc'', hx⟩ := (hr.below hbel).at_ hlt
      go_wp2_with fail
      refine (toNote_any x y z _).mono ?_
      rintro e w1 ⟨rfl, hb1⟩
      have hroom1 := hroom.below hb1 hroom.lt
      have hbel1 : Below w.heap.size w w1 := hbel.trans (hb1.mono hbel.size)
      obtain ⟨c0, hc0⟩ := hroom1.at_ (k * 3) (by omega)
      obtain ⟨c1, hc1⟩ := hroom1.at_ (k * 3 + 1) (by omega)
      obtain ⟨c2, hc2⟩ := hroom1.at_ (k * 3 + 2) (by omega)
      have hf0 := hroom1.frozen (k * 3)
      have hf1 := hroom1.frozen (k * 3 + 1)
      have hf2 := hroom1.frozen (k * 3 + 2)
      have hlen : (ts.take k).length = k := by rw [List.length_take, hr.1]; omega
      have hpush := hroom1.pushR (by rw [hlen]; exact hlt) x y z
      rw [hlen, ← takeA_more hx.out] at hpush
      have HP := put hpush; clear hpush hlen hc hc' hc'' hb1
      go_wp2
      go_roundw
      case rel => exact ⟨k + 1, by omega, by go_num, HP.out, ((hbel1.setCell (by simp) _).setCell (by simp) _).setCell (by simp) _⟩
      case measure => simp [intOf]; omega
    · have hfin := put (show ts.take k = ts from List.take_of_length_le (by rw [hr.1]; omega))
      go_wp2
      go_ret
      exact ⟨_, rfl, ⟨_, rfl, Nat.le_refl _, by rw [hfin.out] at hroom; exact hroom, hr.1⟩, hbel⟩
set_option maxHeartbeats 400000 in
theorem szNotes_any (A : Option Addr) (n c : Nat) (left : Int) (w : World) (hn : n ≤ maxLen) (h0 : 0 ≤ left) (h1 : left ≤ 1048576) : Calls Tryd.prog 15 #[.slice A n c, .int .i64 left] w fun e w' => e = .returned (.int .i64 (szA n left)) ∧ w = w' := by
  unfold maxLen at hn
  by_cases h : (n : Int) ≤ left
  · rw [szA_fit h]
    go_enter Tryd.func15, Tryd.ntmps15
    go_wp2
    go_ret
    exact ⟨rfl, rfl⟩
  · have h := Int.not_le.1 h
    rw [szA_no h]
    go_enter Tryd.func15, Tryd.ntmps15
    go_wp2
    go_ret
    exact ⟨rfl, rfl⟩


end Go.Proofs.YtpbkkjiikhjanaaDoor

/-
  Machines in memory.
-/
namespace Go.Proofs.YtpbkkjiikhjanaaDoor
open Go.RowKit Exs

structure Mc where
  frames : List Fr
  trace : List Int
  used : Int
  code : Int
  value : Int
  made : Int
  notes : List Row3
/-- Its cells. -/
def mcL (s : Mc) (A1 : Option Addr) (n1 c1 : Nat) (A2 : Option Addr) (n2 c2 : Nat) (A3 : Option Addr) (n3 c3 : Nat) : List Value := [.slice A1 n1 c1, .slice A2 n2 c2, .int .i64 s.used, .int .i64 s.code, .int .i64 s.value, .int .i64 s.made, .slice A3 n3 c3]
def mcV (s : Mc) (A1 : Option Addr) (n1 c1 : Nat) (A2 : Option Addr) (n2 c2 : Nat) (A3 : Option Addr) (n3 c3 : Nat) : Value := .agg #[.slice A1 n1 c1, .slice A2 n2 c2, .int .i64 s.used, .int .i64 s.code, .int .i64 s.value, .int .i64 s.made, .slice A3 n3 c3]
structure IsMc (w : World) (B : Nat) (s : Mc) (A1 : Option Addr) (n1 : Nat) (A2 : Option Addr) (n2 : Nat) (A3 : Option Addr) (n3 : Nat) : Prop where
  frames : ReadsFr w B A1 n1 s.frames
  trace : Reads w B .i64 A2 n2 s.trace
  notes : ReadsR w B A3 n3 s.notes
theorem IsMc.below {w w' : World} {B : Nat} {s : Mc} {A1 : Option Addr} {n1 : Nat} {A2 : Option Addr} {n2 : Nat} {A3 : Option Addr} {n3 : Nat} (h : IsMc w B s A1 n1 A2 n2 A3 n3) (hb : Below B w w') : IsMc w' B s A1 n1 A2 n2 A3 n3 := ⟨h.frames.below hb, h.trace.below hb, h.notes.below hb⟩
theorem IsMc.more {w : World} {B B' : Nat} {s : Mc} {A1 : Option Addr} {n1 : Nat} {A2 : Option Addr} {n2 : Nat} {A3 : Option Addr} {n3 : Nat} (h : IsMc w B s A1 n1 A2 n2 A3 n3) (hB : B ≤ B') : IsMc w B' s A1 n1 A2 n2 A3 n3 := ⟨h.frames.more hB, h.trace.more hB, h.notes.more hB⟩
theorem IsMc.now {w w' : World} {s : Mc} {A1 : Option Addr} {n1 : Nat} {A2 : Option Addr} {n2 : Nat} {A3 : Option Addr} {n3 : Nat} (h : IsMc w w.heap.size s A1 n1 A2 n2 A3 n3) (hb : Below w.heap.size w w') : IsMc w' w'.heap.size s A1 n1 A2 n2 A3 n3 := (h.below hb).more hb.size
/-- Sizes within what the laws let through; within what memory lets be; how many values the laws count. -/
def SmallMc (s : Mc) : Prop := s.frames.length ≤ 1048576 ∧ (∀ x ∈ s.frames, SmallFr x) ∧ s.trace.length ≤ 1048576 ∧ s.notes.length ≤ 1048576
def LongMc (s : Mc) : Prop := s.frames.length ≤ maxLen ∧ (∀ x ∈ s.frames, LongFr x) ∧ s.trace.length ≤ maxLen ∧ s.notes.length ≤ maxLen
def manyMc (s : Mc) : Nat := s.frames.length + manyFrs s.frames + s.trace.length + s.notes.length
structure MMc (w : World) (L : Nat) (s : Mc) (A1 : Option Addr) (n1 : Nat) (A2 : Option Addr) (n2 : Nat) (A3 : Option Addr) (n3 : Nat) : Prop where
  frames : MFrs w L A1 n1 s.frames
  trace : MInts w L A2 n2 s.trace
  notes : MNotes w L A3 n3 s.notes
theorem MMc.same {w w' : World} {L : Nat} {s : Mc} {A1 : Option Addr} {n1 : Nat} {A2 : Option Addr} {n2 : Nat} {A3 : Option Addr} {n3 : Nat} (h : MMc w L s A1 n1 A2 n2 A3 n3) (hs : SameFrom L w w') : MMc w' L s A1 n1 A2 n2 A3 n3 := ⟨h.frames.same hs, h.trace.same hs, h.notes.same hs⟩
theorem MMc.from {w : World} {L L' : Nat} {s : Mc} {A1 : Option Addr} {n1 : Nat} {A2 : Option Addr} {n2 : Nat} {A3 : Option Addr} {n3 : Nat} (h : MMc w L s A1 n1 A2 n2 A3 n3) (hL : L' ≤ L) : MMc w L' s A1 n1 A2 n2 A3 n3 := ⟨h.frames.from hL, h.trace.from hL, h.notes.from hL⟩
theorem MMc.reads {w : World} {L : Nat} {s : Mc} {A1 : Option Addr} {n1 : Nat} {A2 : Option Addr} {n2 : Nat} {A3 : Option Addr} {n3 : Nat} (h : MMc w L s A1 n1 A2 n2 A3 n3) : IsMc w w.heap.size s A1 n1 A2 n2 A3 n3 := ⟨h.frames.reads, h.trace.reads, h.notes.reads⟩

end Go.Proofs.YtpbkkjiikhjanaaDoor

/-
  A good machine, in plain words: what a frame must be, and what it must be to the one above it.
-/
namespace Go.Proofs.YtpbkkjiikhjanaaDoor
open Go.RowKit Exs Ht

def allB (xs : List Int) : Bool := xs.all bound
theorem allB_iff (xs : List Int) : allB xs = true ↔ ∀ x ∈ xs, -2147483648 ≤ x ∧ x ≤ 2147483647 := by
  unfold allB
  rw [List.all_eq_true]
  exact forall_congr' fun x => forall_congr' fun _ => bound_iff x
/-- A frame fits its code, but for its pile's height. -/
structure FrOk (cs : List Cd) (f : Fr) (s : Cd) : Prop where
  at_ : cs[f.fn.toNat]? = some s
  fn0 : 0 ≤ f.fn
  pla0 : 0 ≤ f.pla
  pla1 : f.pla < (s.ins.length : Int)
  vars : (f.vars.length : Int) = s.vars
  flags : f.flags.length = s.sites.length
  mode : 0 ≤ f.mode ∧ f.mode ≤ 3
  base : f.base = 1 ∨ f.base = 3
  ide : bound f.ide = true
  result : bound f.result = true
  value : bound f.value = true
  pile : allB f.pile = true
  vrs : allB f.vars = true
/-- It is at a call of the one above it. -/
def CallOk (s : Cd) (f g : Fr) : Prop := ∃ op x, s.ins[f.pla.toNat]? = some (op, x) ∧ ((op = 7 ∧ g.fn = x ∧ g.off = false) ∨ (op = 17 ∧ s.sites[x.toNat]? = some g.fn ∧ g.off = true))
/-- How high its pile is where its place has height h. -/
def lowH (cs : List Cd) (op x h : Int) : Option Fr → Int
  | none => h
  | some _ => h - tkI cs op x
/-- Its pile is as high as it must be. -/
def HighOk (cs : List Cd) (s : Cd) (f : Fr) (ab : Option Fr) : Prop := ∃ hs h t, hts (gr cs s) = some hs ∧ hs[f.pla.toNat]? = some h ∧ s.ins[f.pla.toNat]? = some t ∧ (f.pile.length : Int) = lowH cs t.1 t.2 h ab
def FrGd (cs : List Cd) (f : Fr) (ab : Option Fr) : Prop := ∃ s, FrOk cs f s ∧ (∀ g, ab = some g → CallOk s f g) ∧ HighOk cs s f ab
structure FrsGd (cs : List Cd) (fs : List Fr) : Prop where
  off : ∀ f, fs[0]? = some f → f.off = false
  all : ∀ j f, fs[j]? = some f → FrGd cs f fs[j + 1]?
structure RestGd (m : Mc) : Prop where
  used : 0 ≤ m.used ∧ m.used ≤ 10
  code : 0 ≤ m.code ∧ m.code ≤ 4
  made : 0 ≤ m.made ∧ m.made ≤ 1000000
  value : bound m.value = true
  trace : allB m.trace = true
def EndGd (m : Mc) : Prop := (m.code = 0 → 0 < m.frames.length) ∧ (m.code ≠ 0 → m.code ≠ 4 → m.frames.length = 0)
open Classical in
noncomputable def frB (cs : List Cd) (f : Fr) : Bool := decide (∃ s, FrOk cs f s)
open Classical in
noncomputable def callB (s : Cd) (f g : Fr) : Bool := decide (CallOk s f g)
open Classical in
noncomputable def frgB (cs : List Cd) (f : Fr) (ab : Option Fr) : Bool := decide (FrGd cs f ab)
open Classical in
noncomputable def frsB (cs : List Cd) (fs : List Fr) : Bool := decide (FrsGd cs fs)
open Classical in
noncomputable def restB (m : Mc) : Bool := decide (RestGd m)
open Classical in
noncomputable def endB (m : Mc) : Bool := decide (EndGd m)
open Classical in
noncomputable def gvB (cs : List Cd) (m : Mc) : Bool := @decide (giB cs = true ∧ RestGd m ∧ EndGd m ∧ FrsGd cs m.frames) (Classical.propDecidable _)
theorem frB_iff (cs : List Cd) (f : Fr) : frB cs f = true ↔ ∃ s, FrOk cs f s := by unfold frB; exact @decide_eq_true_iff _ (Classical.propDecidable _)
theorem callB_iff (s : Cd) (f g : Fr) : callB s f g = true ↔ CallOk s f g := by unfold callB; exact @decide_eq_true_iff _ (Classical.propDecidable _)
theorem frgB_iff (cs : List Cd) (f : Fr) (ab : Option Fr) : frgB cs f ab = true ↔ FrGd cs f ab := by unfold frgB; exact @decide_eq_true_iff _ (Classical.propDecidable _)
theorem frsB_iff (cs : List Cd) (fs : List Fr) : frsB cs fs = true ↔ FrsGd cs fs := by unfold frsB; exact @decide_eq_true_iff _ (Classical.propDecidable _)
theorem restB_iff (m : Mc) : restB m = true ↔ RestGd m := by unfold restB; exact @decide_eq_true_iff _ (Classical.propDecidable _)
theorem endB_iff (m : Mc) : endB m = true ↔ EndGd m := by unfold endB; exact @decide_eq_true_iff _ (Classical.propDecidable _)
theorem gvB_iff (cs : List Cd) (m : Mc) : gvB cs m = true ↔ giB cs = true ∧ RestGd m ∧ EndGd m ∧ FrsGd cs m.frames := by unfold gvB; exact @decide_eq_true_iff _ (Classical.propDecidable _)
/-- The codes of a good image have heights, and more. -/
theorem good_code {cs : List Cd} (h : giB cs = true) {s : Cd} (hs : s ∈ cs) : namedB cs s = true ∧ sitesB cs s = true ∧ goesB s = true ∧ rowsF s.ins.length 0 s.rows = true ∧ ∃ hh, hts (gr cs s) = some hh ∧ raisOk s hh ∧ endOk s hh := by
  have h0 := ((giB_iff cs).1 h).2.2 s hs
  cases h1 : namedB cs s
  · rw [cdAns_1 h1] at h0; omega
  cases h2 : sitesB cs s
  · rw [cdAns_2 h1 h2] at h0; omega
  cases h3 : goesB s
  · rw [cdAns_3 h1 h2 h3] at h0; omega
  cases h4 : rowsF s.ins.length 0 s.rows
  · rw [cdAns_4 h1 h2 h3 h4] at h0; omega
  obtain ⟨a5, a6⟩ := cdAns_on h1 h2 h3 h4
  cases h5 : hts (gr cs s) with
  | none => rw [a5 h5] at h0; omega
  | some hh =>
    obtain ⟨b1, b2, _⟩ := a6 hh h5
    by_cases r : raisOk s hh
    · by_cases q : endOk s hh
      · exact ⟨rfl, rfl, rfl, rfl, hh, rfl, r, q⟩
      · rw [b2 r q] at h0; omega
    · rw [b1 r] at h0; omega

end Go.Proofs.YtpbkkjiikhjanaaDoor

/-
  What a frame waits for: the numbers of its flags that are set, the greatest first.
-/
namespace Go.Proofs.YtpbkkjiikhjanaaDoor
open Go.RowKit

/-- The numbers of the flags that are set from place k on, the greatest first. -/
def wtF (fl : List Bool) (k : Nat) : List Int := ((List.range' k (fl.length - k)).filter fun j => fl[j]? == some true).reverse.map fun j : Nat => (j : Int)
def wtL (fl : List Bool) : List Int := wtF fl 0
theorem wtF_end {fl : List Bool} {k : Nat} (h : fl.length ≤ k) : wtF fl k = [] := by
  unfold wtF
  rw [show fl.length - k = 0 by omega]
  rfl
theorem wtF_set {fl : List Bool} {k : Nat} (h : fl[k]? = some true) : wtF fl k = wtF fl (k + 1) ++ [(k : Int)] := by
  have hl := (List.getElem?_eq_some_iff.1 h).1
  unfold wtF
  rw [show fl.length - k = fl.length - (k + 1) + 1 by omega, List.range'_succ, List.filter_cons_of_pos (by rw [h]; rfl)]
  simp
theorem wtF_not {fl : List Bool} {k : Nat} (h : fl[k]? = some false) : wtF fl k = wtF fl (k + 1) := by
  have hl := (List.getElem?_eq_some_iff.1 h).1
  unfold wtF
  rw [show fl.length - k = fl.length - (k + 1) + 1 by omega, List.range'_succ, List.filter_cons_of_neg (by rw [h]; decide)]
theorem wtF_mem {fl : List Bool} {k : Nat} {x : Int} (h : x ∈ wtF fl k) : ∃ j : Nat, x = (j : Int) ∧ j < fl.length ∧ fl[j]? = some true := by
  unfold wtF at h
  simp only [List.mem_map, List.mem_reverse, List.mem_filter, beq_iff_eq] at h
  obtain ⟨j, ⟨_, h1⟩, rfl⟩ := h
  exact ⟨j, rfl, (List.getElem?_eq_some_iff.1 h1).1, h1⟩
theorem wtF_length (fl : List Bool) (k : Nat) : (wtF fl k).length ≤ fl.length := by
  unfold wtF
  rw [List.length_map, List.length_reverse]
  have := List.length_filter_le (fun j => fl[j]? == some true) (List.range' k (fl.length - k))
  rw [List.length_range'] at this
  omega

end Go.Proofs.YtpbkkjiikhjanaaDoor

/-
  Unwinding, in plain words: what a frame waits for, which frame may stop a panic, the pads of frames, whether one is raised.
-/
namespace Go.Proofs.YtpbkkjiikhjanaaDoor
open Go.RowKit Exs Ht

/-- There is a recover in a code. -/
def recB (c : Cd) : Bool := c.ins.any fun t => t.1 == 6
def recAt (cs : List Cd) (g : Int) : Bool := match cs[g.toNat]? with | some c => recB c | none => false
def siteRec (cs : List Cd) (s : Cd) (q : Int) : Bool := match s.sites[q.toNat]? with | some g => recAt cs g | none => false
/-- The frame above is off, and its code has one. -/
def aboveB (cs : List Cd) : Option Fr → Bool
  | some g => g.off && recAt cs g.fn
  | none => false
def ownB (cs : List Cd) (f : Fr) : Bool := match cs[f.fn.toNat]? with | some s => (wtL f.flags).any (siteRec cs s) | none => false
def mayF (cs : List Cd) (f : Fr) (ab : Option Fr) : Bool := ownB cs f || aboveB cs ab
def mayK (cs : List Cd) (fs : List Fr) (k : Nat) : Bool := match fs[k]? with | some f => mayF cs f fs[k + 1]? | none => false
theorem mayK_at {cs : List Cd} {fs : List Fr} {k : Nat} {f : Fr} (h : fs[k]? = some f) : mayK cs fs k = mayF cs f fs[k + 1]? := by unfold mayK; rw [h]
theorem ownB_at {cs : List Cd} {f : Fr} {s : Cd} (h : cs[f.fn.toNat]? = some s) : ownB cs f = (wtL f.flags).any (siteRec cs s) := by unfold ownB; rw [h]
/-- The last frame of those below k that may stop it. -/
def suK (cs : List Cd) (fs : List Fr) : Nat → Option Nat
  | 0 => none
  | k + 1 => if mayK cs fs k then some k else suK cs fs k
noncomputable def mayAns (cs : List Cd) (m : Mc) (fr : Int) : Bool × Bool := if gvB cs m = true ∧ 0 ≤ fr ∧ fr < (m.frames.length : Int) then (mayK cs m.frames fr.toNat, true) else (false, false)
noncomputable def suAns (cs : List Cd) (m : Mc) : Int × Bool := if gvB cs m = true then (match suK cs m.frames m.frames.length with | some k => ((k : Int), true) | none => (0, false)) else (0, false)
/-- The pad of a place: of the first row that it is in. -/
def InRw (a : Int) (r : Row3) : Bool := decide (r.1 ≤ a ∧ a < r.2.1)
def padR (rs : List Row3) (a : Int) : Option Int := (rs.find? (InRw a)).map fun r => r.2.2
def padFr (cs : List Cd) (f : Fr) : Option Int := match cs[f.fn.toNat]? with | some s => padR s.rows f.pla | none => none
/-- The pads of the frames from k on, the last one first. -/
def puF (cs : List Cd) (fs : List Fr) (k : Nat) : List (List Int) := ((List.range' k (fs.length - k)).reverse).map fun j : Nat => [(j : Int), ((fs[j]?.bind (padFr cs)).getD 0)]
theorem puF_end {cs : List Cd} {fs : List Fr} {k : Nat} (h : fs.length ≤ k) : puF cs fs k = [] := by
  unfold puF
  rw [show fs.length - k = 0 by omega]
  rfl
theorem puF_at {cs : List Cd} {fs : List Fr} {k : Nat} {f : Fr} {p : Int} (h : fs[k]? = some f) (hp : padFr cs f = some p) : puF cs fs k = puF cs fs (k + 1) ++ [[(k : Int), p]] := by
  have hl := (List.getElem?_eq_some_iff.1 h).1
  unfold puF
  rw [show fs.length - k = fs.length - (k + 1) + 1 by omega, List.range'_succ]
  simp [h, hp]
theorem puF_length (cs : List Cd) (fs : List Fr) (k : Nat) : (puF cs fs k).length = fs.length - k := by unfold puF; simp
/-- Each frame has one. -/
def padsB (cs : List Cd) (fs : List Fr) : Bool := fs.all fun f => (padFr cs f).isSome
theorem padsB_no {cs : List Cd} {fs : List Fr} {f : Fr} (h : f ∈ fs) (hp : padFr cs f = none) : padsB cs fs = false := by
  rw [← Bool.not_eq_true]
  intro h'
  have := List.all_eq_true.1 h' f h
  rw [hp] at this
  cases this
/-- The last frame is about to raise a panic. -/
def raiseT (t : Token) (pile : List Int) : Bool := t.1 == 13 || (t.1 == 4 && t.2 == 6 && pile[pile.length - 1]? == some 0)
def raiseF (cs : List Cd) (f : Fr) : Bool := match cs[f.fn.toNat]? with | some s => (match s.ins[f.pla.toNat]? with | some t => raiseT t f.pile | none => false) | none => false
def raiseM (cs : List Cd) (m : Mc) : Bool := m.code == 0 && (match m.frames[m.frames.length - 1]? with | some f => raiseF cs f | none => false)
noncomputable def irAns (cs : List Cd) (m : Mc) : Bool × Bool := if gvB cs m = true then (raiseM cs m, true) else (false, false)
noncomputable def puAns (cs : List Cd) (m : Mc) : List (List Int) × Bool := if gvB cs m = true ∧ padsB cs m.frames = true then (puF cs m.frames 0, true) else ([], false)
/-- A frame of a good machine fits its code, and the code's sites are there. -/
def GdF (cs : List Cd) (f : Fr) : Prop := ∃ s, FrOk cs f s ∧ sitesB cs s = true
theorem gdF_of {cs : List Cd} {m : Mc} (h : gvB cs m = true) : ∀ f ∈ m.frames, GdF cs f := fun f hf => by
  obtain ⟨hg, _, _, hfs⟩ := (gvB_iff cs m).1 h
  obtain ⟨j, hj, rfl⟩ := List.getElem_of_mem hf
  obtain ⟨s, h1, _⟩ := hfs.all j _ (List.getElem?_eq_getElem hj)
  exact ⟨s, h1, (good_code hg (List.mem_of_getElem? h1.at_)).2.1⟩
theorem GdF.code {cs : List Cd} {f : Fr} (h : GdF cs f) : ∃ (j : Nat) (s : Cd), f.fn = (j : Int) ∧ cs[j]? = some s ∧ f.flags.length = s.sites.length ∧ ∀ (q : Nat) (b : Bool), f.flags[q]? = some b → ∃ (g : Nat) (s' : Cd), s.sites[q]? = some (g : Int) ∧ cs[g]? = some s' := by
  obtain ⟨s, h1, h2⟩ := h
  refine ⟨f.fn.toNat, s, (Int.toNat_of_nonneg h1.fn0).symm, h1.at_, h1.flags, fun q b hq => ?_⟩
  have hl := (List.getElem?_eq_some_iff.1 hq).1
  have hs : s.sites[q]? = some (s.sites[q]'(by rw [← h1.flags]; exact hl)) := List.getElem?_eq_getElem _
  have hm := (sitesB_iff cs s).1 h2 _ (List.mem_of_getElem? hs)
  generalize s.sites[q]'(by rw [← h1.flags]; exact hl) = y at hs hm
  have hr : 0 ≤ y ∧ y ≤ (cs.length : Int) - 1 := Classical.byContradiction fun h' => by rw [stB_neg h'] at hm; cases hm
  exact ⟨y.toNat, cs[y.toNat]'(by omega), by rw [Int.toNat_of_nonneg hr.1]; exact hs, List.getElem?_eq_getElem _⟩
theorem ownB_go {cs : List Cd} {f : Fr} {s : Cd} {j : Nat} (h1 : f.fn = (j : Int)) (h2 : cs[j]? = some s) : ownB cs f = (wtL f.flags).any (siteRec cs s) := ownB_at (by rw [h1]; exact h2)
theorem siteRec_go {cs : List Cd} {s s' : Cd} {q g : Nat} (h1 : s.sites[q]? = some (g : Int)) (h2 : cs[g]? = some s') : siteRec cs s (q : Int) = recB s' := by
  unfold siteRec recAt
  simp [h1, h2]
theorem aboveB_go {cs : List Cd} {g : Fr} {s : Cd} {j : Nat} (h1 : g.fn = (j : Int)) (h2 : cs[j]? = some s) : aboveB cs (some g) = (g.off && recB s) := by
  unfold aboveB recAt
  simp [h1, h2]
theorem any_no {α : Type} {p : α → Bool} {l : List α} (h : ∀ x ∈ l, p x = false) : l.any p = false := by
  rw [← Bool.not_eq_true]
  intro h'
  obtain ⟨x, h1, h2⟩ := List.any_eq_true.1 h'
  rw [h x h1] at h2
  cases h2
theorem no_more {α : Type} {p : α → Bool} {l : List α} {k : Nat} {t : α} (h : ∀ x ∈ l.take k, p x = false) (ht : l[k]? = some t) (hp : p t = false) : ∀ x ∈ l.take (k + 1), p x = false := fun x hx => by
  rw [takeA_more ht] at hx
  rcases List.mem_append.1 hx with hx | hx
  · exact h x hx
  · simp at hx; subst hx; exact hp
end Go.Proofs.YtpbkkjiikhjanaaDoor

/-
  The last number of a list.
-/
namespace Go.Proofs.YtpbkkjiikhjanaaDoor

def lastD (l : List Int) : Int := l.getLast?.getD 0

end Go.Proofs.YtpbkkjiikhjanaaDoor

/-
  The machine in plain words: its frames as a pile, the last one first; what one instruction does; a good machine stays good.
-/
namespace Go.Proofs.YtpbkkjiikhjanaaDoor
open Go.RowKit Exs Ht

structure Sk where
  stk : List Fr
  trace : List Int
  used : Int
  code : Int
  value : Int
  made : Int
  notes : List Row3
def Sk.mc (k : Sk) : Mc := ⟨k.stk.reverse, k.trace, k.used, k.code, k.value, k.made, k.notes⟩
def padL (rs : List Row3) (a : Int) : Int := match rs.find? (fun r => decide (r.1 ≤ a ∧ a < r.2.1)) with | some r => r.2.2 | none => 0
def padF (cs : List Cd) (f : Fr) : Int := match cs[f.fn.toNat]? with | some s => padL s.rows f.pla | none => 0
def Fr.raise (cs : List Cd) (f : Fr) (mode value : Int) : Fr := { f with mode := mode, value := value, base := if mode = 3 then 3 else f.base, pile := [], pla := padF cs f }
def Fr.on (f : Fr) (p : List Int) : Fr := { f with pile := p, pla := f.pla + 1 }
def newFr (s : Cd) (fn ide : Int) (off : Bool) (given : List Int) : Fr := ⟨ide, fn, 0, [], given ++ List.replicate (s.vars.toNat - given.length) 0, List.replicate s.sites.length false, 0, 0, 0, 1, off⟩
/-- What was called comes on top, if there is room. -/
def callK (cs : List Cd) (most : Nat) (k : Sk) (f : Fr) (r : List Fr) (fn : Int) (off : Bool) (f' : Fr) (notes : List Row3) : Sk :=
  if most ≤ r.length + 1 then { k with code := 4 } else match cs[fn.toNat]? with
    | none => k
    | some c => { k with stk := newFr c fn k.made off (f.pile.drop (f.pile.length - c.params.toNat)) :: { f' with pile := f.pile.take (f.pile.length - c.params.toNat) } :: r, made := k.made + 1, notes := notes }
def opAt (cs : List Cd) (f : Fr) : Int := match cs[f.fn.toNat]? with | some s => (match s.ins[f.pla.toNat]? with | some t => t.1 | none => 0) | none => 0
def endK (cs : List Cd) (k : Sk) (f : Fr) (r : List Fr) : Sk :=
  let n := k.notes ++ [(3, f.ide, 0)]
  match r with
  | [] => if f.mode = 2 then { k with stk := [], notes := n, code := 2, value := f.value } else if f.mode = 3 then { k with stk := [], notes := n, code := 3, value := 0 } else { k with stk := [], notes := n, code := 1, value := f.result }
  | b :: r' => if f.mode = 2 then { k with stk := b.raise cs 2 f.value :: r', notes := n } else if f.mode = 3 then { k with stk := b.raise cs 3 0 :: r', notes := n }
    else { k with stk := b.on (if opAt cs b = 7 then b.pile ++ [f.result] else b.pile) :: r', notes := n }
def recK (k : Sk) (f : Fr) (r : List Fr) : Sk :=
  match r with
  | [] => { k with stk := f.on (f.pile ++ [0]) :: r }
  | b :: r' => if f.off = true ∧ b.mode = 2 then { k with stk := f.on (f.pile ++ [b.value]) :: { b with mode := b.base } :: r' } else { k with stk := f.on (f.pile ++ [0]) :: r }
def stepI (cs : List Cd) (inp : List Int) (most : Nat) (k : Sk) (f : Fr) (r : List Fr) (s : Cd) (op x : Int) : Sk :=
  let y := lastD f.pile
  let p := f.pile.dropLast
  if op = 1 then { k with stk := f.on (f.pile ++ [x]) :: r }
  else if op = 2 then { k with stk := f.on (f.pile ++ [f.vars.getD x.toNat 0]) :: r }
  else if op = 3 then { k with stk := { f.on p with vars := f.vars.set x.toNat y } :: r }
  else if op = 4 then (match reckon x (lastD p) y with | some z => { k with stk := f.on (p.dropLast ++ [z]) :: r } | none => { k with stk := f.raise cs 2 (-1) :: r })
  else if op = 5 then (if k.used < inp.length then { k with stk := f.on (f.pile ++ [inp.getD k.used.toNat 0]) :: r, used := k.used + 1 } else { k with stk := f.on (f.pile ++ [0]) :: r })
  else if op = 6 then recK k f r
  else if op = 7 then callK cs most k f r x false f k.notes
  else if op = 8 then { k with stk := f.on p :: r, trace := k.trace ++ [y] }
  else if op = 9 then { k with stk := f.on p :: r }
  else if op = 10 then { k with stk := { f with pla := x } :: r }
  else if op = 11 then { k with stk := { f with pile := p, pla := if y = 0 then x else f.pla + 1 } :: r }
  else if op = 12 then { k with stk := { f with flags := f.flags.set x.toNat true, pla := f.pla + 1 } :: r, notes := k.notes ++ [(1, f.ide, x)] }
  else if op = 13 then { k with stk := f.raise cs 2 y :: r }
  else if op = 14 then { k with stk := f.raise cs 3 0 :: r }
  else if op = 15 then { k with stk := { f.on p with result := y } :: r }
  else if op = 16 then { k with stk := { f with mode := 1, pla := padF cs f } :: r }
  else if op = 17 then (if f.flags.getD x.toNat false = false then { k with stk := f.on f.pile :: r } else callK cs most k f r (s.sites.getD x.toNat 0) true { f with flags := f.flags.set x.toNat false } (k.notes ++ [(2, f.ide, x)]))
  else endK cs k f r
def stepK (cs : List Cd) (inp : List Int) (most : Nat) (k : Sk) : Sk :=
  match k.stk with
  | [] => k
  | f :: r => match cs[f.fn.toNat]? with
    | none => k
    | some s => match s.ins[f.pla.toNat]? with
      | none => k
      | some t => stepI cs inp most k f r s t.1 t.2

def Chain (cs : List Cd) : List Fr → Option Fr → Prop
  | [], _ => True
  | f :: r, ab => FrGd cs f ab ∧ Chain cs r (some f)
structure Inv (cs : List Cd) (most : Nat) (k : Sk) : Prop where
  chain : Chain cs k.stk none
  first : ∀ f, k.stk.getLast? = some f → f.off = false
  deep : k.stk.length ≤ most
  live : k.code = 0 → k.stk ≠ []
  code : k.code = 0 ∨ k.code = 4 ∨ (k.stk = [] ∧ 1 ≤ k.code ∧ k.code ≤ 3)
  used : 0 ≤ k.used ∧ k.used ≤ 10
  trace : allB k.trace = true
  value : bound k.value = true
  made : 0 ≤ k.made

theorem bound_of {x : Int} (h : -2147483648 ≤ x ∧ x ≤ 2147483647) : bound x = true := (bound_iff x).2 h
theorem allB_mem {xs : List Int} (h : allB xs = true) {x : Int} (hx : x ∈ xs) : bound x = true := List.all_eq_true.1 h x hx
theorem allB_of {xs : List Int} (h : ∀ x ∈ xs, bound x = true) : allB xs = true := List.all_eq_true.2 h
theorem allB_app {xs : List Int} (h : allB xs = true) {x : Int} (hx : bound x = true) : allB (xs ++ [x]) = true := allB_of fun y hy => by
  rcases List.mem_append.1 hy with hy | hy
  · exact allB_mem h hy
  · rw [List.mem_singleton] at hy; rw [hy]; exact hx
theorem allB_sub {xs ys : List Int} (h : allB xs = true) (hs : ∀ y ∈ ys, y ∈ xs) : allB ys = true := allB_of fun y hy => allB_mem h (hs y hy)
theorem allB_drop {xs : List Int} (h : allB xs = true) : allB xs.dropLast = true := allB_sub h fun _ hy => List.dropLast_subset _ hy
theorem allB_set {xs : List Int} (h : allB xs = true) (i : Nat) {x : Int} (hx : bound x = true) : allB (xs.set i x) = true := allB_of fun y hy => by
  rcases List.mem_or_eq_of_mem_set hy with hy | hy
  · exact allB_mem h hy
  · rw [hy]; exact hx
theorem lastD_bound {xs : List Int} (h : allB xs = true) : bound (lastD xs) = true := by
  unfold lastD
  cases e : xs.getLast? with
  | none => exact bound_of (by simp)
  | some y => exact allB_mem h (List.mem_of_getLast? e)
theorem getD_bound {xs : List Int} (h : allB xs = true) (i : Nat) : bound (xs.getD i 0) = true := by
  rw [List.getD_eq_getElem?_getD]
  cases e : xs[i]? with
  | none => exact bound_of (by simp)
  | some y => exact allB_mem h (List.mem_of_getElem? e)

theorem FrGd.above {cs : List Cd} {x g g' : Fr} (h : FrGd cs x (some g)) (e1 : g'.fn = g.fn) (e2 : g'.off = g.off) : FrGd cs x (some g') := by
  obtain ⟨s, h1, h2, h3⟩ := h
  refine ⟨s, h1, fun q hq => ?_, h3⟩
  injection hq with hq
  subst hq
  obtain ⟨op, x, a, b⟩ := h2 g rfl
  exact ⟨op, x, a, by rw [e1, e2]; exact b⟩
theorem Chain.above {cs : List Cd} {r : List Fr} {f f' : Fr} (h : Chain cs r (some f)) (e1 : f'.fn = f.fn) (e2 : f'.off = f.off) : Chain cs r (some f') := by
  cases r with
  | nil => trivial
  | cons b r => exact ⟨h.1.above e1 e2, h.2⟩
theorem last_top {f f' : Fr} {r : List Fr} (h : ∀ q, (f :: r).getLast? = some q → q.off = false) (e : f'.off = f.off) : ∀ q, (f' :: r).getLast? = some q → q.off = false := by
  intro q hq
  cases r with
  | nil => simp at hq; subst hq; rw [e]; exact h f (by simp)
  | cons b r => rw [List.getLast?_cons_cons] at hq; exact h q (by rw [List.getLast?_cons_cons]; exact hq)
theorem last_pop {f : Fr} {r : List Fr} (h : ∀ q, (f :: r).getLast? = some q → q.off = false) : ∀ q, r.getLast? = some q → q.off = false := by
  intro q hq
  cases r with
  | nil => simp at hq
  | cons b r => exact h q (by rw [List.getLast?_cons_cons]; exact hq)
theorem last_push {f g : Fr} {r : List Fr} (h : ∀ q, (f :: r).getLast? = some q → q.off = false) : ∀ q, (g :: f :: r).getLast? = some q → q.off = false := by
  intro q hq
  rw [List.getLast?_cons_cons] at hq
  exact h q hq

/-- What is known of a frame of a good machine. -/
structure Top (cs : List Cd) (f : Fr) (s : Cd) (hs : List Int) (op x h : Int) : Prop where
  ok : FrOk cs f s
  mem : s ∈ cs
  cd : cdB s = true
  is_ : IsH (gr cs s) hs
  wf : Wf (gr cs s)
  hts : hts (gr cs s) = some hs
  ins : s.ins[f.pla.toNat]? = some (op, x)
  at_ : hs[f.pla.toNat]? = some h
  h0 : 0 ≤ h
  h1 : h ≤ 40
  tk : tkI cs op x ≤ h
  insb : insB op x = true
  nm : nmB cs s (op, x) = true
  st : sitesB cs s = true
  goes : goesB s = true
  rows : rowsF s.ins.length 0 s.rows = true
  rais : raisOk s hs
  endk : endOk s hs
  all : ∀ c ∈ cs, cdB c = true
theorem high_next {G : Gr} {hs : List Int} (hi : IsH G hs) (hw : Wf G) {a t : Nat} {h : Int} (ha : hs[a]? = some h) (h0 : 0 ≤ h) (ht : t ∈ G.nx a) : hs[t]? = some (h - G.tk a + G.pt a) := by
  have r : Rch G a h := by
    rcases hi.at_ a h ha with ⟨_, r⟩ | ⟨r, _⟩
    · exact r
    · omega
  have r2 := Rch.step r ht
  have hlt : t < hs.length := by rw [hi.len]; exact r2.lt hw
  rw [List.getElem?_eq_getElem hlt]
  rcases hi.at_ t _ (List.getElem?_eq_getElem hlt) with ⟨_, r3⟩ | ⟨_, r3⟩
  · rw [hi.ok.2 _ _ _ r3 r2]
  · exact absurd ⟨_, r2⟩ r3
theorem high_zero {G : Gr} {hs : List Int} (hi : IsH G hs) (hw : Wf G) {t : Nat} (r2 : Rch G t 0) : hs[t]? = some 0 := by
  have hlt : t < hs.length := by rw [hi.len]; exact r2.lt hw
  rw [List.getElem?_eq_getElem hlt]
  rcases hi.at_ t _ (List.getElem?_eq_getElem hlt) with ⟨_, r3⟩ | ⟨_, r3⟩
  · rw [hi.ok.2 _ _ _ r3 r2]
  · exact absurd ⟨_, r2⟩ r3
theorem good_cd {cs : List Cd} (hg : giB cs = true) : ∀ c ∈ cs, cdB c = true := ((imB_iff cs).1 ((giB_iff cs).1 hg).1).2
theorem top_of {cs : List Cd} (hg : giB cs = true) {f : Fr} {ab : Option Fr} (hfr : FrGd cs f ab) : ∃ s hs op x h, Top cs f s hs op x h ∧ (f.pile.length : Int) = lowH cs op x h ab := by
  obtain ⟨s, h1, h2, hs, hh, t, a1, a2, a3, a4⟩ := hfr
  have hm : s ∈ cs := List.mem_of_getElem? h1.at_
  obtain ⟨b1, b2, b3, b4, hs', b5, b6, b7⟩ := good_code hg hm
  rw [a1] at b5
  injection b5 with b5
  subst b5
  have hc := good_cd hg
  have hi := hts_is a1
  have hw := gr_wf hc (hc s hm) b3 b4
  obtain ⟨op, x⟩ := t
  have htk : tkI cs op x = (gr cs s).tk f.pla.toNat := (gr_tk a3).symm
  have htk0 := (tkI_is hc op x).1
  have h0 : 0 ≤ hh := by
    cases ab with
    | none => simp only [lowH] at a4; omega
    | some g => simp only [lowH] at a4; omega
  have rr : Rch (gr cs s) f.pla.toNat hh := by
    rcases hi.at_ _ hh a2 with ⟨_, r⟩ | ⟨r, _⟩
    · exact r
    · omega
  have hk := hi.ok.1 _ _ rr
  exact ⟨s, hs, op, x, hh, ⟨h1, hm, hc s hm, hi, hw, a1, a3, a2, h0, hk.2, by rw [htk]; exact hk.1, ((cdB_iff s).1 (hc s hm)).2 _ (List.mem_of_getElem? a3), (namedB_iff cs s).1 b1 _ (List.mem_of_getElem? a3), b2, b3, b4, b6, b7, hc⟩, a4⟩

section
variable {cs : List Cd} {f : Fr} {s : Cd} {hs : List Int} {op x h : Int}
theorem Top.next (T : Top cs f s hs op x h) {t : Int} (ht : t ∈ nxL op x f.pla) : 0 ≤ t ∧ t < (s.ins.length : Int) ∧ hs[t.toNat]? = some (h - tkI cs op x + kP op) := by
  have e : ((f.pla.toNat : Nat) : Int) = f.pla := Int.toNat_of_nonneg T.ok.pla0
  have ht' : t.toNat ∈ (gr cs s).nx f.pla.toNat := by
    rw [gr_nx T.ins, e]
    exact List.mem_map.2 ⟨t, ht, rfl⟩
  have h1 := high_next T.is_ T.wf T.at_ T.h0 ht'
  rw [gr_tk T.ins, gr_pt T.ins] at h1
  have hg : goB s.ins.length f.pla.toNat (op, x) = true := by
    have hw := T.wf.nx f.pla.toNat t.toNat (by show f.pla.toNat < s.ins.length; have := T.ok.pla1; have := T.ok.pla0; omega) ht'
    exact ((goesB_iff s).1 (T.goes) _ _ T.ins)
  have h2 := (within_iff _ _ _).1 (List.all_eq_true.1 hg t (by rw [e]; exact ht))
  exact ⟨h2.1, by omega, h1⟩
theorem FrOk.upd {f' : Fr} (h : FrOk cs f s) (e1 : f'.fn = f.fn) (p0 : 0 ≤ f'.pla) (p1 : f'.pla < (s.ins.length : Int)) (v : f'.vars.length = f.vars.length) (l : f'.flags.length = f.flags.length) (m : 0 ≤ f'.mode ∧ f'.mode ≤ 3) (b : f'.base = 1 ∨ f'.base = 3) (i : f'.ide = f.ide) (r : bound f'.result = true) (vl : bound f'.value = true) (pl : allB f'.pile = true) (vs : allB f'.vars = true) : FrOk cs f' s :=
  ⟨by rw [e1]; exact h.at_, by rw [e1]; exact h.fn0, p0, p1, by rw [v]; exact h.vars, by rw [l]; exact h.flags, m, b, by rw [i]; exact h.ide, r, vl, pl, vs⟩
theorem Top.place (T : Top cs f s hs op x h) {p : Int} {h' : Int} (p0 : 0 ≤ p) (hp : hs[p.toNat]? = some h') : p < (s.ins.length : Int) := by
  have h1 := (List.getElem?_eq_some_iff.1 hp).1
  rw [T.is_.len] at h1
  have h2 : p.toNat < s.ins.length := h1
  omega
theorem Top.gd {f' : Fr} (T : Top cs f s hs op x h) (h' : Int) (e1 : f'.fn = f.fn) (p0 : 0 ≤ f'.pla) (hp : hs[f'.pla.toNat]? = some h') (hl : (f'.pile.length : Int) = h') (v : f'.vars.length = f.vars.length) (l : f'.flags.length = f.flags.length) (m : 0 ≤ f'.mode ∧ f'.mode ≤ 3) (b : f'.base = 1 ∨ f'.base = 3) (i : f'.ide = f.ide) (r : bound f'.result = true) (vl : bound f'.value = true) (pl : allB f'.pile = true) (vs : allB f'.vars = true) : FrGd cs f' none := by
  have p1 := T.place p0 hp
  have hq : f'.pla.toNat < s.ins.length := by omega
  exact ⟨s, T.ok.upd e1 p0 p1 v l m b i r vl pl vs, fun g hg => (by cases hg), hs, h', _, T.hts, hp, List.getElem?_eq_getElem hq, hl⟩
/-- Where an instruction may raise there is a pad, and the pile is empty there. -/
theorem Top.pad (T : Top cs f s hs op x h) (hr : raisB op = true) : 0 ≤ padF cs f ∧ hs[(padF cs f).toNat]? = some 0 := by
  have e : ((f.pla.toNat : Nat) : Int) = f.pla := Int.toNat_of_nonneg T.ok.pla0
  obtain ⟨r, hm, hin, _⟩ := T.rais f.pla.toNat (op, x) h T.ins T.at_ T.h0 hr
  have hf : padF cs f = padL s.rows f.pla := by unfold padF; rw [T.ok.at_]
  rw [hf]
  unfold padL
  cases hfd : s.rows.find? (fun r => decide (r.1 ≤ f.pla ∧ f.pla < r.2.1)) with
  | none =>
    have := List.find?_eq_none.1 hfd r hm
    unfold InR at hin
    rw [e] at hin
    simp at this
    omega
  | some q =>
    have hq := List.mem_of_find?_eq_some hfd
    have h1 := rowsF_mem T.rows q hq
    refine ⟨h1.1, ?_⟩
    exact high_zero T.is_ T.wf (Rch.pad (List.mem_map.2 ⟨q, hq, rfl⟩))
theorem Top.raise (T : Top cs f s hs op x h) (hr : raisB op = true) {m v : Int} (hm : m = 2 ∨ m = 3) (hv : bound v = true) : FrGd cs (f.raise cs m v) none := by
  obtain ⟨a, b⟩ := T.pad hr
  refine T.gd (f' := f.raise cs m v) 0 rfl a b rfl rfl rfl (by show 0 ≤ m ∧ m ≤ 3; omega) ?_ rfl T.ok.result hv rfl T.ok.vrs
  show (if m = 3 then 3 else f.base) = 1 ∨ (if m = 3 then 3 else f.base) = 3
  split
  · exact .inr rfl
  · exact T.ok.base
theorem new_gd (hg : giB cs = true) {c : Cd} {fn : Int} (h0 : 0 ≤ fn) (hc : cs[fn.toNat]? = some c) {ide : Int} (hi : bound ide = true) (off : Bool) {given : List Int} (hl : (given.length : Int) ≤ c.vars) (hb : allB given = true) : FrGd cs (newFr c fn ide off given) none := by
  have hm : c ∈ cs := List.mem_of_getElem? hc
  obtain ⟨_, _, b3, b4, hh, b5, _, _⟩ := good_code hg hm
  have hcd := (cdB_iff c).1 (good_cd hg c hm)
  have hw := gr_wf (good_cd hg) (good_cd hg c hm) b3 b4
  have hz := high_zero (hts_is b5) hw (Rch.zero)
  have hp : 0 < c.ins.length := by omega
  refine ⟨c, ⟨hc, h0, Int.le_refl 0, by show (0 : Int) < c.ins.length; omega, ?_, ?_, ⟨Int.le_refl 0, by show (0 : Int) ≤ 3; omega⟩, .inl rfl, hi, rfl, rfl, rfl, ?_⟩, fun g hg => (by cases hg), hh, 0, _, b5, hz, List.getElem?_eq_getElem hp, rfl⟩
  · show ((given ++ List.replicate (c.vars.toNat - given.length) 0).length : Int) = c.vars
    rw [List.length_append, List.length_replicate]
    omega
  · show (List.replicate c.sites.length false).length = c.sites.length
    rw [List.length_replicate]
  · show allB (given ++ List.replicate (c.vars.toNat - given.length) 0) = true
    refine allB_of fun y hy => ?_
    rcases List.mem_append.1 hy with hy | hy
    · exact allB_mem hb hy
    · rw [(List.mem_replicate.1 hy).2]; rfl
end
theorem Inv.put_top {cs : List Cd} {most : Nat} {k k' : Sk} {f f' : Fr} {r : List Fr} (hk : Inv cs most k) (e : k.stk = f :: r) (e1 : f'.fn = f.fn) (e2 : f'.off = f.off) (g : FrGd cs f' none) (hs : k'.stk = f' :: r) (hc : k'.code = 0) (hu : 0 ≤ k'.used ∧ k'.used ≤ 10) (ht : allB k'.trace = true) (hv : k'.value = k.value) (hm : k'.made = k.made) : Inv cs most k' := by
  have hch := hk.chain
  have hf := hk.first
  have hd := hk.deep
  rw [e] at hch hf hd
  refine ⟨?_, ?_, ?_, ?_, .inl hc, hu, ht, by rw [hv]; exact hk.value, by rw [hm]; exact hk.made⟩
  · rw [hs]; exact ⟨g, hch.2.above e1 e2⟩
  · rw [hs]; exact last_top hf e2
  · rw [hs]; exact hd
  · intro _; rw [hs]; exact List.cons_ne_nil _ _

end Go.Proofs.YtpbkkjiikhjanaaDoor

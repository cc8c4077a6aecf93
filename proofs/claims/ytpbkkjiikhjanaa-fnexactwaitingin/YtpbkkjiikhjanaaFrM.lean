/-
  Frames in memory.
-/
import Derived.Test.YtpbkkjiikhjanaaVz
namespace Go.Proofs.Ytpbkkjiikhjanaa
open Go.RowKit Exs

structure Fr where
  ide : Int
  fn : Int
  pla : Int
  pile : List Int
  vars : List Int
  flags : List Bool
  result : Int
  mode : Int
  value : Int
  base : Int
  off : Bool
/-- Its cells. -/
def frL (s : Fr) (A1 : Option Addr) (n1 c1 : Nat) (A2 : Option Addr) (n2 c2 : Nat) (A3 : Option Addr) (n3 c3 : Nat) : List Value := [.int .i64 s.ide, .int .i64 s.fn, .int .i64 s.pla, .slice A1 n1 c1, .slice A2 n2 c2, .slice A3 n3 c3, .int .i64 s.result, .int .i64 s.mode, .int .i64 s.value, .int .i64 s.base, .bool s.off]
def frV (s : Fr) (A1 : Option Addr) (n1 c1 : Nat) (A2 : Option Addr) (n2 c2 : Nat) (A3 : Option Addr) (n3 c3 : Nat) : Value := .agg #[.int .i64 s.ide, .int .i64 s.fn, .int .i64 s.pla, .slice A1 n1 c1, .slice A2 n2 c2, .slice A3 n3 c3, .int .i64 s.result, .int .i64 s.mode, .int .i64 s.value, .int .i64 s.base, .bool s.off]
structure IsFr (w : World) (B : Nat) (s : Fr) (A1 : Option Addr) (n1 : Nat) (A2 : Option Addr) (n2 : Nat) (A3 : Option Addr) (n3 : Nat) : Prop where
  pile : Reads w B .i64 A1 n1 s.pile
  vars : Reads w B .i64 A2 n2 s.vars
  flags : ReadsB w B A3 n3 s.flags
theorem IsFr.below {w w' : World} {B : Nat} {s : Fr} {A1 : Option Addr} {n1 : Nat} {A2 : Option Addr} {n2 : Nat} {A3 : Option Addr} {n3 : Nat} (h : IsFr w B s A1 n1 A2 n2 A3 n3) (hb : Below B w w') : IsFr w' B s A1 n1 A2 n2 A3 n3 := ⟨h.pile.below hb, h.vars.below hb, h.flags.below hb⟩
theorem IsFr.more {w : World} {B B' : Nat} {s : Fr} {A1 : Option Addr} {n1 : Nat} {A2 : Option Addr} {n2 : Nat} {A3 : Option Addr} {n3 : Nat} (h : IsFr w B s A1 n1 A2 n2 A3 n3) (hB : B ≤ B') : IsFr w B' s A1 n1 A2 n2 A3 n3 := ⟨h.pile.more hB, h.vars.more hB, h.flags.more hB⟩
theorem IsFr.now {w w' : World} {s : Fr} {A1 : Option Addr} {n1 : Nat} {A2 : Option Addr} {n2 : Nat} {A3 : Option Addr} {n3 : Nat} (h : IsFr w w.heap.size s A1 n1 A2 n2 A3 n3) (hb : Below w.heap.size w w') : IsFr w' w'.heap.size s A1 n1 A2 n2 A3 n3 := (h.below hb).more hb.size
/-- Sizes within what the laws let through; within what memory lets be; how many values the laws count. -/
def SmallFr (s : Fr) : Prop := s.pile.length ≤ 1048576 ∧ s.vars.length ≤ 1048576 ∧ s.flags.length ≤ 1048576
def LongFr (s : Fr) : Prop := s.pile.length ≤ maxLen ∧ s.vars.length ≤ maxLen ∧ s.flags.length ≤ maxLen
def manyFr (s : Fr) : Nat := s.pile.length + s.vars.length + s.flags.length
structure MFr (w : World) (L : Nat) (s : Fr) (A1 : Option Addr) (n1 : Nat) (A2 : Option Addr) (n2 : Nat) (A3 : Option Addr) (n3 : Nat) : Prop where
  pile : MInts w L A1 n1 s.pile
  vars : MInts w L A2 n2 s.vars
  flags : MBools w L A3 n3 s.flags
theorem MFr.same {w w' : World} {L : Nat} {s : Fr} {A1 : Option Addr} {n1 : Nat} {A2 : Option Addr} {n2 : Nat} {A3 : Option Addr} {n3 : Nat} (h : MFr w L s A1 n1 A2 n2 A3 n3) (hs : SameFrom L w w') : MFr w' L s A1 n1 A2 n2 A3 n3 := ⟨h.pile.same hs, h.vars.same hs, h.flags.same hs⟩
theorem MFr.from {w : World} {L L' : Nat} {s : Fr} {A1 : Option Addr} {n1 : Nat} {A2 : Option Addr} {n2 : Nat} {A3 : Option Addr} {n3 : Nat} (h : MFr w L s A1 n1 A2 n2 A3 n3) (hL : L' ≤ L) : MFr w L' s A1 n1 A2 n2 A3 n3 := ⟨h.pile.from hL, h.vars.from hL, h.flags.from hL⟩
theorem MFr.reads {w : World} {L : Nat} {s : Fr} {A1 : Option Addr} {n1 : Nat} {A2 : Option Addr} {n2 : Nat} {A3 : Option Addr} {n3 : Nat} (h : MFr w L s A1 n1 A2 n2 A3 n3) : IsFr w w.heap.size s A1 n1 A2 n2 A3 n3 := ⟨h.pile.reads, h.vars.reads, h.flags.reads⟩

/-- The slice value '.slice A n c' reads as the list ss, and lies, with all that it leads to, below block B. -/
def ReadsFr (w : World) (B : Nat) (A : Option Addr) (n : Nat) (ss : List Fr) : Prop :=
  ss.length = n ∧ (0 < n → ∃ b off, A = some ⟨b, off, none⟩ ∧ b < B ∧ ∀ (j : Nat) (s : Fr), ss[j]? = some s → ∃ A1 n1 c1 A2 n2 c2 A3 n3 c3, (∀ (i : Nat) (u : Value), (frL s A1 n1 c1 A2 n2 c2 A3 n3 c3)[i]? = some u → w.cell? ⟨b, off + j * 11 + i, none⟩ = some u) ∧ IsFr w B s A1 n1 A2 n2 A3 n3)
theorem ReadsFr.below {w w' : World} {B : Nat} {A : Option Addr} {n : Nat} {ss : List Fr} (h : ReadsFr w B A n ss) (hb : Below B w w') : ReadsFr w' B A n ss :=
  ⟨h.1, fun hn => by
    obtain ⟨b, off, rfl, hB, hc⟩ := h.2 hn
    refine ⟨b, off, rfl, hB, fun j s hs => ?_⟩
    obtain ⟨A1, n1, c1, A2, n2, c2, A3, n3, c3, h0, r⟩ := hc j s hs
    exact ⟨A1, n1, c1, A2, n2, c2, A3, n3, c3, fun i u hu => (hb.cell (p := ⟨b, _, none⟩) hB).trans (h0 i u hu), r.below hb⟩⟩
theorem ReadsFr.more {w : World} {B B' : Nat} {A : Option Addr} {n : Nat} {ss : List Fr} (h : ReadsFr w B A n ss) (hB : B ≤ B') : ReadsFr w B' A n ss :=
  ⟨h.1, fun hn => by
    obtain ⟨b, off, rfl, hb, hc⟩ := h.2 hn
    refine ⟨b, off, rfl, by omega, fun j s hs => ?_⟩
    obtain ⟨A1, n1, c1, A2, n2, c2, A3, n3, c3, h0, r⟩ := hc j s hs
    exact ⟨A1, n1, c1, A2, n2, c2, A3, n3, c3, h0, r.more hB⟩⟩
theorem ReadsFr.now {w w' : World} {A : Option Addr} {n : Nat} {ss : List Fr} (h : ReadsFr w w.heap.size A n ss) (hb : Below w.heap.size w w') : ReadsFr w' w'.heap.size A n ss := (h.below hb).more hb.size
theorem ReadsFr.at_ {w : World} {B : Nat} {A : Option Addr} {n : Nat} {ss : List Fr} (h : ReadsFr w B A n ss) {j : Nat} (hj : j < n) : ∃ b off s A1 n1 c1 A2 n2 c2 A3 n3 c3, A = some ⟨b, off, none⟩ ∧ b < B ∧ w.cell? ⟨b, off + j * 11, none⟩ = some (.int .i64 s.ide) ∧ w.cell? ⟨b, off + j * 11 + 1, none⟩ = some (.int .i64 s.fn) ∧ w.cell? ⟨b, off + j * 11 + 2, none⟩ = some (.int .i64 s.pla) ∧ w.cell? ⟨b, off + j * 11 + 3, none⟩ = some (.slice A1 n1 c1) ∧ w.cell? ⟨b, off + j * 11 + 4, none⟩ = some (.slice A2 n2 c2) ∧ w.cell? ⟨b, off + j * 11 + 5, none⟩ = some (.slice A3 n3 c3) ∧ w.cell? ⟨b, off + j * 11 + 6, none⟩ = some (.int .i64 s.result) ∧ w.cell? ⟨b, off + j * 11 + 7, none⟩ = some (.int .i64 s.mode) ∧ w.cell? ⟨b, off + j * 11 + 8, none⟩ = some (.int .i64 s.value) ∧ w.cell? ⟨b, off + j * 11 + 9, none⟩ = some (.int .i64 s.base) ∧ w.cell? ⟨b, off + j * 11 + 10, none⟩ = some (.bool s.off) ∧ IsFr w B s A1 n1 A2 n2 A3 n3 ∧ Hid (ss[j]? = some s) := by
  obtain ⟨b, off, rfl, hb, hc⟩ := h.2 (by omega)
  have hl : j < ss.length := by rw [h.1]; exact hj
  obtain ⟨A1, n1, c1, A2, n2, c2, A3, n3, c3, h0, r⟩ := hc j _ (List.getElem?_eq_getElem hl)
  exact ⟨b, off, ss[j], A1, n1, c1, A2, n2, c2, A3, n3, c3, rfl, hb, h0 0 _ rfl, h0 1 _ rfl, h0 2 _ rfl, h0 3 _ rfl, h0 4 _ rfl, h0 5 _ rfl, h0 6 _ rfl, h0 7 _ rfl, h0 8 _ rfl, h0 9 _ rfl, h0 10 _ rfl, r, List.getElem?_eq_getElem hl⟩
def manyFrs : List Fr → Nat
  | [] => 0
  | s :: r => manyFr s + manyFrs r
theorem manyFrs_append (a b : List Fr) : manyFrs (a ++ b) = manyFrs a + manyFrs b := by induction a with | nil => simp [manyFrs] | cons s r ih => simp [manyFrs, ih]; omega
theorem manyFrs_mem {ss : List Fr} {s : Fr} (h : s ∈ ss) : manyFr s ≤ manyFrs ss := by
  induction ss with
  | nil => cases h
  | cons a r ih => rcases List.mem_cons.1 h with rfl | h; · simp [manyFrs]
                   · have := ih h; simp [manyFrs]; omega

/-- Block g is a row of n of them of which the first ones are ss, and behind these the cells pre; what they lead to lies in later blocks. -/
def RoomFrp (w : World) (g n : Nat) (ss : List Fr) (pre : List Value) : Prop :=
  ∃ cs : Array Value, w.heap[g]? = some (.cells cs 46 (0, 0)) ∧ cs.size = n * 11 ∧ (∀ (j : Nat) (s : Fr), ss[j]? = some s → ∃ A1 n1 c1 A2 n2 c2 A3 n3 c3,
    (∀ (i : Nat) (u : Value), (frL s A1 n1 c1 A2 n2 c2 A3 n3 c3)[i]? = some u → cs[j * 11 + i]? = some u) ∧ MFr w (g + 1) s A1 n1 A2 n2 A3 n3) ∧ ∀ (i : Nat) (u : Value), pre[i]? = some u → cs[ss.length * 11 + i]? = some u
def RoomFr (w : World) (g n : Nat) (ss : List Fr) : Prop := RoomFrp w g n ss []
theorem RoomFrp.lt {w : World} {g n : Nat} {ss : List Fr} {pre : List Value} (h : RoomFrp w g n ss pre) : g < w.heap.size := by
  obtain ⟨cs, h1, _⟩ := h; exact (Array.getElem?_eq_some_iff.1 h1).1
theorem RoomFrp.same {w w' : World} {g n : Nat} {ss : List Fr} {pre : List Value} (h : RoomFrp w g n ss pre) (hs : SameFrom g w w') : RoomFrp w' g n ss pre := by
  have hl := h.lt
  obtain ⟨cs, h1, h2, h3, h4⟩ := h
  refine ⟨cs, (hs g (Nat.le_refl _) hl).trans h1, h2, fun j s hj => ?_, h4⟩
  obtain ⟨A1, n1, c1, A2, n2, c2, A3, n3, c3, g0, m⟩ := h3 j s hj
  exact ⟨A1, n1, c1, A2, n2, c2, A3, n3, c3, g0, m.same (hs.mono (by omega))⟩
theorem RoomFrp.at_ {w : World} {g n : Nat} {ss : List Fr} {pre : List Value} (h : RoomFrp w g n ss pre) (j : Nat) (hj : j < n * 11) : ∃ v, w.cell? ⟨g, j, none⟩ = some v := by
  obtain ⟨cs, h1, h2, _⟩ := h
  exact ⟨cs[j], by rw [cell_of_row w g j cs 46 (0, 0) h1]; exact Array.getElem?_eq_getElem (by omega)⟩
theorem RoomFrp.frozen {w : World} {g n : Nat} {ss : List Fr} {pre : List Value} (h : RoomFrp w g n ss pre) (j : Nat) : w.frozen? ⟨g, j, none⟩ = false := by
  obtain ⟨cs, h1, _⟩ := h
  simp [World.frozen?, h1]
theorem RoomFrp.push1 {w : World} {g n : Nat} {ss : List Fr} {pre : List Value} (h : RoomFrp w g n ss pre) (hc : ss.length < n) (k : Nat) (hk : k = pre.length) (hp : k < 11) (u : Value) : RoomFrp (w.setCell ⟨g, ss.length * 11 + k, none⟩ u) g n ss (pre ++ [u]) := by
  subst hk
  have hsame := SameFrom.setCell w g (ss.length * 11 + pre.length) u
  obtain ⟨cs, h1, h2, h3, h4⟩ := h
  refine ⟨_, heap_set h1, by simpa using h2, fun j s hj => ?_, fun i x hi => ?_⟩
  · obtain ⟨A1, n1, c1, A2, n2, c2, A3, n3, c3, g0, m⟩ := h3 j s hj
    refine ⟨A1, n1, c1, A2, n2, c2, A3, n3, c3, fun i x hi => ?_, m.same hsame⟩
    have hjl := (List.getElem?_eq_some_iff.1 hj).1
    have hil : i < 11 := (List.getElem?_eq_some_iff.1 hi).1
    rw [Array.getElem?_setIfInBounds, if_neg (by omega)]
    exact g0 i x hi
  · rw [Array.getElem?_setIfInBounds]
    by_cases hlt : i < pre.length
    · rw [List.getElem?_append_left hlt] at hi
      rw [if_neg (by omega)]
      exact h4 i x hi
    · have : i = pre.length := by have := (List.getElem?_eq_some_iff.1 hi).1; simp at this; omega
      subst this
      rw [List.getElem?_append_right (Nat.le_refl _)] at hi
      simp at hi
      rw [if_pos rfl, if_pos (by rw [h2]; omega), hi]
theorem RoomFrp.full {w : World} {g n : Nat} {ss : List Fr} {pre : List Value} (h : RoomFrp w g n ss pre) (s : Fr) (A1 : Option Addr) (n1 c1 : Nat) (A2 : Option Addr) (n2 c2 : Nat) (A3 : Option Addr) (n3 c3 : Nat) (hp : pre = frL s A1 n1 c1 A2 n2 c2 A3 n3 c3) (hm : MFr w (g + 1) s A1 n1 A2 n2 A3 n3) : RoomFr w g n (ss ++ [s]) := by
  subst hp
  obtain ⟨cs, h1, h2, h3, h4⟩ := h
  refine ⟨cs, h1, h2, fun j s' hj => ?_, fun i u hi => by simp at hi⟩
  by_cases hl : j < ss.length
  · rw [List.getElem?_append_left hl] at hj; exact h3 j s' hj
  · have hj2 : j = ss.length := by
      have := (List.getElem?_eq_some_iff.1 hj).1
      simp at this; omega
    subst hj2
    rw [List.getElem?_append_right (Nat.le_refl _)] at hj
    simp at hj
    subst hj
    exact ⟨A1, n1, c1, A2, n2, c2, A3, n3, c3, h4, hm⟩
theorem RoomFr.reads {w : World} {g n : Nat} {ss : List Fr} (h : RoomFr w g n ss) (hn : ss.length = n) : ReadsFr w w.heap.size (some ⟨g, 0, none⟩) n ss := by
  have hl := RoomFrp.lt h
  obtain ⟨cs, h1, h2, h3, _⟩ := h
  refine ⟨hn, fun _ => ⟨g, 0, rfl, hl, fun j s hj => ?_⟩⟩
  obtain ⟨A1, n1, c1, A2, n2, c2, A3, n3, c3, g0, m⟩ := h3 j s hj
  exact ⟨A1, n1, c1, A2, n2, c2, A3, n3, c3, fun i u hu => by rw [Nat.zero_add, cell_of_row w g _ cs 46 (0, 0) h1]; exact g0 i u hu, m.reads⟩
theorem RoomFr.made (w : World) (n : Nat) (z : Array Value) (m : Nat) (hm : m = n * 11) : RoomFr (w.alloc (.cells (madeCells z m) 46)) w.heap.size n [] :=
  ⟨_, heap_alloc_new _ _, by rw [size_madeCells]; omega, fun j s hj => by simp at hj, fun i u hi => by simp at hi⟩
def MFrs (w : World) (L : Nat) (A : Option Addr) (n : Nat) (ss : List Fr) : Prop := ∃ g, A = some ⟨g, 0, none⟩ ∧ L ≤ g ∧ RoomFr w g n ss ∧ ss.length = n
theorem MFrs.same {w w' : World} {L : Nat} {A : Option Addr} {n : Nat} {xs : List Fr} (h : MFrs w L A n xs) (hs : SameFrom L w w') : MFrs w' L A n xs := by
  obtain ⟨g, e, hg, r, hl⟩ := h; exact ⟨g, e, hg, RoomFrp.same r (hs.mono hg), hl⟩
theorem MFrs.from {w : World} {L L' : Nat} {A : Option Addr} {n : Nat} {xs : List Fr} (h : MFrs w L A n xs) (hL : L' ≤ L) : MFrs w L' A n xs := by
  obtain ⟨g, e, hg, r, hl⟩ := h; exact ⟨g, e, by omega, r, hl⟩
theorem MFrs.reads {w : World} {L : Nat} {A : Option Addr} {n : Nat} {xs : List Fr} (h : MFrs w L A n xs) : ReadsFr w w.heap.size A n xs := by
  obtain ⟨g, rfl, _, r, hl⟩ := h; exact r.reads hl

end Go.Proofs.Ytpbkkjiikhjanaa

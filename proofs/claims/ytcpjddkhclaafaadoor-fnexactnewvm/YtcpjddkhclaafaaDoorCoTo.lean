/-
  The laws' copying of images: what is copied lies in blocks of its own.
-/
import Derived.Test.YtcpjddkhclaafaaDoorCod
namespace Go.Proofs.YtcpjddkhclaafaaDoor
open Go.RowKit Exs

/-- Blocks from L on are as they were. -/
def SameFrom (L : Nat) (w w' : World) : Prop := ∀ k, L ≤ k → k < w.heap.size → w'.heap[k]? = w.heap[k]?
theorem SameFrom.of_below {L : Nat} {w w' : World} (h : Below w.heap.size w w') : SameFrom L w w' := fun k _ hk => h.block k hk
theorem SameFrom.setCell (w : World) (g i : Nat) (v : Value) : SameFrom (g + 1) w (w.setCell ⟨g, i, none⟩ v) := fun k hk _ => Below.heap_setCell _ _ _ _ (show k ≠ g by omega)
theorem SameFrom.trans {L : Nat} {a b c : World} (h : SameFrom L a b) (k : SameFrom L b c) (hs : a.heap.size ≤ b.heap.size) : SameFrom L a c := fun i hi hs' => (k i hi (by omega)).trans (h i hi hs')
theorem SameFrom.mono {L L' : Nat} {w w' : World} (h : SameFrom L w w') (hL : L ≤ L') : SameFrom L' w w' := fun k hk hs => h k (by omega) hs
theorem Room.same {w w' : World} {g : Nat} {t : TypeId} {n : Nat} {k : IntKind} {xs : List Int} (h : Room w g t n k xs) (hs : SameFrom g w w') : Room w' g t n k xs := by
  have hl := h.lt
  obtain ⟨cs, h1, h2, h3⟩ := h
  exact ⟨cs, (hs g (Nat.le_refl _) hl).trans h1, h2, h3⟩

def MInts (w : World) (L : Nat) (A : Option Addr) (n : Nat) (xs : List Int) : Prop := ∃ g, A = some ⟨g, 0, none⟩ ∧ L ≤ g ∧ Room w g 3 n .i64 xs ∧ xs.length = n
def MToks (w : World) (L : Nat) (A : Option Addr) (n : Nat) (ts : List Token) : Prop := ∃ g, A = some ⟨g, 0, none⟩ ∧ L ≤ g ∧ Room w g 83 (2 * n) .i64 (flat ts) ∧ ts.length = n
theorem MInts.same {w w' : World} {L : Nat} {A : Option Addr} {n : Nat} {xs : List Int} (h : MInts w L A n xs) (hs : SameFrom L w w') : MInts w' L A n xs := by
  obtain ⟨g, e, hg, r, hl⟩ := h; exact ⟨g, e, hg, r.same (hs.mono hg), hl⟩
theorem MToks.same {w w' : World} {L : Nat} {A : Option Addr} {n : Nat} {xs : List Token} (h : MToks w L A n xs) (hs : SameFrom L w w') : MToks w' L A n xs := by
  obtain ⟨g, e, hg, r, hl⟩ := h; exact ⟨g, e, hg, r.same (hs.mono hg), hl⟩
theorem MInts.from {w : World} {L L' : Nat} {A : Option Addr} {n : Nat} {xs : List Int} (h : MInts w L A n xs) (hL : L' ≤ L) : MInts w L' A n xs := by
  obtain ⟨g, e, hg, r, hl⟩ := h; exact ⟨g, e, by omega, r, hl⟩
theorem MToks.from {w : World} {L L' : Nat} {A : Option Addr} {n : Nat} {xs : List Token} (h : MToks w L A n xs) (hL : L' ≤ L) : MToks w L' A n xs := by
  obtain ⟨g, e, hg, r, hl⟩ := h; exact ⟨g, e, by omega, r, hl⟩
theorem MInts.reads {w : World} {L : Nat} {A : Option Addr} {n : Nat} {xs : List Int} (h : MInts w L A n xs) : Reads w w.heap.size .i64 A n xs := by
  obtain ⟨g, rfl, _, r, hl⟩ := h; exact r.reads hl
theorem MToks.reads {w : World} {L : Nat} {A : Option Addr} {n : Nat} {xs : List Token} (h : MToks w L A n xs) : ReadsT w w.heap.size A n xs := by
  obtain ⟨g, rfl, _, r, hl⟩ := h; exact r.readsT hl

def MRows (w : World) (L : Nat) (A : Option Addr) (n : Nat) (ts : List Row3) : Prop := ∃ g, A = some ⟨g, 0, none⟩ ∧ L ≤ g ∧ Room w g 92 (3 * n) .i64 (flat3 ts) ∧ ts.length = n
theorem MRows.same {w w' : World} {L : Nat} {A : Option Addr} {n : Nat} {xs : List Row3} (h : MRows w L A n xs) (hs : SameFrom L w w') : MRows w' L A n xs := by
  obtain ⟨g, e, hg, r, hl⟩ := h; exact ⟨g, e, hg, r.same (hs.mono hg), hl⟩
theorem MRows.from {w : World} {L L' : Nat} {A : Option Addr} {n : Nat} {xs : List Row3} (h : MRows w L A n xs) (hL : L' ≤ L) : MRows w L' A n xs := by
  obtain ⟨g, e, hg, r, hl⟩ := h; exact ⟨g, e, by omega, r, hl⟩
theorem Room.readsR {w : World} {g : Nat} {t : TypeId} {n : Nat} {ts : List Row3} (h : Room w g t (3 * n) .i64 (flat3 ts)) (hn : ts.length = n) : ReadsR w w.heap.size (some ⟨g, 0, none⟩) n ts :=
  ⟨hn, h.reads (by rw [flat3_length, hn])⟩
theorem MRows.reads {w : World} {L : Nat} {A : Option Addr} {n : Nat} {xs : List Row3} (h : MRows w L A n xs) : ReadsR w w.heap.size A n xs := by
  obtain ⟨g, rfl, _, r, hl⟩ := h; exact r.readsR hl
structure MCd (w : World) (L : Nat) (s : Cd) (A1 : Option Addr) (n1 : Nat) (A2 : Option Addr) (n2 : Nat) (A3 : Option Addr) (n3 : Nat) : Prop where
  sites : MInts w L A1 n1 s.sites
  ins : MToks w L A2 n2 s.ins
  rows : MRows w L A3 n3 s.rows
theorem MCd.same {w w' : World} {L : Nat} {s : Cd} {A1 : Option Addr} {n1 : Nat} {A2 : Option Addr} {n2 : Nat} {A3 : Option Addr} {n3 : Nat} (h : MCd w L s A1 n1 A2 n2 A3 n3) (hs : SameFrom L w w') : MCd w' L s A1 n1 A2 n2 A3 n3 := ⟨h.sites.same hs, h.ins.same hs, h.rows.same hs⟩
theorem MCd.from {w : World} {L L' : Nat} {s : Cd} {A1 : Option Addr} {n1 : Nat} {A2 : Option Addr} {n2 : Nat} {A3 : Option Addr} {n3 : Nat} (h : MCd w L s A1 n1 A2 n2 A3 n3) (hL : L' ≤ L) : MCd w L' s A1 n1 A2 n2 A3 n3 := ⟨h.sites.from hL, h.ins.from hL, h.rows.from hL⟩

/-- Block g is a row of n codes of which the first ones are ss; what they lead to lies in later blocks. -/
def RoomC (w : World) (g n : Nat) (ss : List Cd) : Prop :=
  ∃ cs : Array Value, w.heap[g]? = some (.cells cs 67 (0, 0)) ∧ cs.size = n * 5 ∧ ∀ (j : Nat) (s : Cd), ss[j]? = some s → ∃ A1 n1 c1 A2 n2 c2 A3 n3 c3,
    cs[j * 5]? = some (.int .i64 s.params) ∧ cs[j * 5 + 1]? = some (.int .i64 s.vars) ∧ cs[j * 5 + 2]? = some (.slice A1 n1 c1) ∧ cs[j * 5 + 3]? = some (.slice A2 n2 c2) ∧ cs[j * 5 + 4]? = some (.slice A3 n3 c3) ∧ MCd w (g + 1) s A1 n1 A2 n2 A3 n3
theorem RoomC.lt {w : World} {g n : Nat} {ss : List Cd} (h : RoomC w g n ss) : g < w.heap.size := by
  obtain ⟨cs, h1, _⟩ := h; exact (Array.getElem?_eq_some_iff.1 h1).1
theorem RoomC.same {w w' : World} {g n : Nat} {ss : List Cd} (h : RoomC w g n ss) (hs : SameFrom g w w') : RoomC w' g n ss := by
  have hl := h.lt
  obtain ⟨cs, h1, h2, h3⟩ := h
  refine ⟨cs, (hs g (Nat.le_refl _) hl).trans h1, h2, fun j s hj => ?_⟩
  obtain ⟨A1, n1, c1, A2, n2, c2, A3, n3, c3, g0, g1, g2, g3, g4, m⟩ := h3 j s hj
  exact ⟨A1, n1, c1, A2, n2, c2, A3, n3, c3, g0, g1, g2, g3, g4, m.same (hs.mono (by omega))⟩
theorem RoomC.at_ {w : World} {g n : Nat} {ss : List Cd} (h : RoomC w g n ss) (j : Nat) (hj : j < n * 5) : ∃ v, w.cell? ⟨g, j, none⟩ = some v := by
  obtain ⟨cs, h1, h2, _⟩ := h
  exact ⟨cs[j], by rw [cell_of_row w g j cs 67 (0, 0) h1]; exact Array.getElem?_eq_getElem (by omega)⟩
theorem RoomC.frozen {w : World} {g n : Nat} {ss : List Cd} (h : RoomC w g n ss) (j : Nat) : w.frozen? ⟨g, j, none⟩ = false := by
  obtain ⟨cs, h1, _⟩ := h
  simp [World.frozen?, h1]
theorem heap_set {w : World} {g i : Nat} {v : Value} {cs : Array Value} {t : TypeId} (h : w.heap[g]? = some (.cells cs t (0, 0))) : (w.setCell ⟨g, i, none⟩ v).heap[g]? = some (.cells (cs.setIfInBounds i v) t (0, 0)) := by
  simp [World.setCell, Array.getElem?_modify, h]
theorem size_set (w : World) (p : Addr) (v : Value) : (w.setCell p v).heap.size = w.heap.size := by simp [World.setCell]
theorem RoomC.push {w : World} {g n : Nat} {ss : List Cd} (h : RoomC w g n ss) (hc : ss.length < n) (s : Cd) (A1 : Option Addr) (n1 c1 : Nat) (A2 : Option Addr) (n2 c2 : Nat) (A3 : Option Addr) (n3 c3 : Nat) (hm : MCd w (g + 1) s A1 n1 A2 n2 A3 n3) :
    RoomC (((((w.setCell ⟨g, ss.length * 5, none⟩ (.int .i64 s.params)).setCell ⟨g, ss.length * 5 + 1, none⟩ (.int .i64 s.vars)).setCell ⟨g, ss.length * 5 + 2, none⟩ (.slice A1 n1 c1)).setCell ⟨g, ss.length * 5 + 3, none⟩ (.slice A2 n2 c2)).setCell ⟨g, ss.length * 5 + 4, none⟩ (.slice A3 n3 c3)) g n (ss ++ [s]) := by
  have hsame : SameFrom (g + 1) w (((((w.setCell ⟨g, ss.length * 5, none⟩ (.int .i64 s.params)).setCell ⟨g, ss.length * 5 + 1, none⟩ (.int .i64 s.vars)).setCell ⟨g, ss.length * 5 + 2, none⟩ (.slice A1 n1 c1)).setCell ⟨g, ss.length * 5 + 3, none⟩ (.slice A2 n2 c2)).setCell ⟨g, ss.length * 5 + 4, none⟩ (.slice A3 n3 c3)) := by
    intro k hk _
    rw [Below.heap_setCell _ _ _ _ (show k ≠ g by omega), Below.heap_setCell _ _ _ _ (show k ≠ g by omega), Below.heap_setCell _ _ _ _ (show k ≠ g by omega), Below.heap_setCell _ _ _ _ (show k ≠ g by omega), Below.heap_setCell _ _ _ _ (show k ≠ g by omega)]
  obtain ⟨cs, h1, h2, h3⟩ := h
  refine ⟨_, heap_set (heap_set (heap_set (heap_set (heap_set h1)))), by simpa using h2, fun j s' hj => ?_⟩
  by_cases hl : j < ss.length
  · rw [List.getElem?_append_left hl] at hj
    obtain ⟨B1, m1, d1, B2, m2, d2, B3, m3, d3, g0, g1, g2, g3, g4, m⟩ := h3 j s' hj
    refine ⟨B1, m1, d1, B2, m2, d2, B3, m3, d3, ?_, ?_, ?_, ?_, ?_, m.same hsame⟩ <;> (simp only [Array.getElem?_setIfInBounds]; (repeat rw [if_neg (by omega)]); assumption)
  · have hj2 : j = ss.length := by
      have := (List.getElem?_eq_some_iff.1 hj).1
      simp at this; omega
    subst hj2
    rw [List.getElem?_append_right (Nat.le_refl _)] at hj
    simp at hj
    subst hj
    refine ⟨A1, n1, c1, A2, n2, c2, A3, n3, c3, ?_, ?_, ?_, ?_, ?_, hm.same hsame⟩ <;> (simp only [Array.getElem?_setIfInBounds, Array.size_setIfInBounds]; (repeat rw [if_neg (by omega)]); rw [if_pos trivial, if_pos (by omega)])
theorem RoomC.reads {w : World} {g n : Nat} {ss : List Cd} (h : RoomC w g n ss) (hn : ss.length = n) : ReadsC w w.heap.size (some ⟨g, 0, none⟩) n ss := by
  have hl := h.lt
  obtain ⟨cs, h1, h2, h3⟩ := h
  refine ⟨hn, fun _ => ⟨g, 0, rfl, hl, fun j s hj => ?_⟩⟩
  obtain ⟨A1, n1, c1, A2, n2, c2, A3, n3, c3, g0, g1, g2, g3, g4, m⟩ := h3 j s hj
  have hc := fun i => cell_of_row w g i cs 67 (0, 0) h1
  refine ⟨A1, n1, c1, A2, n2, c2, A3, n3, c3, ?_, ?_, ?_, ?_, ?_, m.sites.reads, m.ins.reads, m.rows.reads⟩ <;> (rw [Nat.zero_add, hc]; assumption)

def MCds (w : World) (L : Nat) (A : Option Addr) (n : Nat) (ss : List Cd) : Prop := ∃ g, A = some ⟨g, 0, none⟩ ∧ L ≤ g ∧ RoomC w g n ss ∧ ss.length = n
theorem MCds.same {w w' : World} {L : Nat} {A : Option Addr} {n : Nat} {xs : List Cd} (h : MCds w L A n xs) (hs : SameFrom L w w') : MCds w' L A n xs := by
  obtain ⟨g, e, hg, r, hl⟩ := h; exact ⟨g, e, hg, r.same (hs.mono hg), hl⟩
theorem MCds.from {w : World} {L L' : Nat} {A : Option Addr} {n : Nat} {xs : List Cd} (h : MCds w L A n xs) (hL : L' ≤ L) : MCds w L' A n xs := by
  obtain ⟨g, e, hg, r, hl⟩ := h; exact ⟨g, e, by omega, r, hl⟩
theorem MCds.reads {w : World} {L : Nat} {A : Option Addr} {n : Nat} {xs : List Cd} (h : MCds w L A n xs) : ReadsC w w.heap.size A n xs := by
  obtain ⟨g, rfl, _, r, hl⟩ := h; exact r.reads hl


end Go.Proofs.YtcpjddkhclaafaaDoor

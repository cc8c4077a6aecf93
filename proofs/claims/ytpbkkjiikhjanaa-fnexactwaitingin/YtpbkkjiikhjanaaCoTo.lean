/-
  The laws' copying of images: what is copied lies in blocks of its own.
-/
import Derived.Test.YtpbkkjiikhjanaaCod
namespace Go.Proofs.Ytpbkkjiikhjanaa
open Go.RowKit Exs

/-- Blocks from L on are as they were. -/
def SameFrom (L : Nat) (w w' : World) : Prop := ∀ k, L ≤ k → k < w.heap.size → w'.heap[k]? = w.heap[k]?
theorem SameFrom.of_below {L : Nat} {w w' : World} (h : Below w.heap.size w w') : SameFrom L w w' := fun k _ hk => h.block k hk
theorem SameFrom.setCell (w : World) (g i : Nat) (v : Value) : SameFrom (g + 1) w (w.setCell ⟨g, i, none⟩ v) := fun k hk _ => Below.heap_setCell _ _ _ _ (show k ≠ g by omega)
theorem SameFrom.trans {L : Nat} {a b c : World} (h : SameFrom L a b) (k : SameFrom L b c) (hs : a.heap.size ≤ b.heap.size) : SameFrom L a c := fun i hi hs' => (k i hi (by omega)).trans (h i hi hs')
theorem SameFrom.mono {L L' : Nat} {w w' : World} (h : SameFrom L w w') (hL : L ≤ L') : SameFrom L' w w' := fun k hk hs => h k (by omega) hs
theorem Room.same {w w' : World} {g : Nat} {t : TypeId} {n : Nat} {k : IntKind} {xs : List Int} (h : Room w g t n k xs) (hs : SameFrom g w w') : Room w' g t n k xs := by
  have hl := h.lt
  obtain ⟨cs, h1, h2, h3⟩ := h
  exact ⟨cs, (hs g (Nat.le_refl _) hl).trans h1, h2, h3⟩

def MInts (w : World) (L : Nat) (A : Option Addr) (n : Nat) (xs : List Int) : Prop := ∃ g, A = some ⟨g, 0, none⟩ ∧ L ≤ g ∧ Room w g 3 n .i64 xs ∧ xs.length = n
theorem MInts.same {w w' : World} {L : Nat} {A : Option Addr} {n : Nat} {xs : List Int} (h : MInts w L A n xs) (hs : SameFrom L w w') : MInts w' L A n xs := by
  obtain ⟨g, e, hg, r, hl⟩ := h; exact ⟨g, e, hg, r.same (hs.mono hg), hl⟩
theorem MInts.from {w : World} {L L' : Nat} {A : Option Addr} {n : Nat} {xs : List Int} (h : MInts w L A n xs) (hL : L' ≤ L) : MInts w L' A n xs := by
  obtain ⟨g, e, hg, r, hl⟩ := h; exact ⟨g, e, by omega, r, hl⟩
theorem MInts.reads {w : World} {L : Nat} {A : Option Addr} {n : Nat} {xs : List Int} (h : MInts w L A n xs) : Reads w w.heap.size .i64 A n xs := by
  obtain ⟨g, rfl, _, r, hl⟩ := h; exact r.reads hl
def MRows (w : World) (L : Nat) (A : Option Addr) (n : Nat) (ts : List Row3) : Prop := ∃ g, A = some ⟨g, 0, none⟩ ∧ L ≤ g ∧ Room w g 61 (3 * n) .i64 (flat3 ts) ∧ ts.length = n
theorem MRows.same {w w' : World} {L : Nat} {A : Option Addr} {n : Nat} {xs : List Row3} (h : MRows w L A n xs) (hs : SameFrom L w w') : MRows w' L A n xs := by
  obtain ⟨g, e, hg, r, hl⟩ := h; exact ⟨g, e, hg, r.same (hs.mono hg), hl⟩
theorem MRows.from {w : World} {L L' : Nat} {A : Option Addr} {n : Nat} {xs : List Row3} (h : MRows w L A n xs) (hL : L' ≤ L) : MRows w L' A n xs := by
  obtain ⟨g, e, hg, r, hl⟩ := h; exact ⟨g, e, by omega, r, hl⟩
theorem Room.readsR {w : World} {g : Nat} {t : TypeId} {n : Nat} {ts : List Row3} (h : Room w g t (3 * n) .i64 (flat3 ts)) (hn : ts.length = n) : ReadsR w w.heap.size (some ⟨g, 0, none⟩) n ts :=
  ⟨hn, h.reads (by rw [flat3_length, hn])⟩
theorem MRows.reads {w : World} {L : Nat} {A : Option Addr} {n : Nat} {xs : List Row3} (h : MRows w L A n xs) : ReadsR w w.heap.size A n xs := by
  obtain ⟨g, rfl, _, r, hl⟩ := h; exact r.readsR hl
theorem heap_set {w : World} {g i : Nat} {v : Value} {cs : Array Value} {t : TypeId} (h : w.heap[g]? = some (.cells cs t (0, 0))) : (w.setCell ⟨g, i, none⟩ v).heap[g]? = some (.cells (cs.setIfInBounds i v) t (0, 0)) := by
  simp [World.setCell, Array.getElem?_modify, h]
theorem size_set (w : World) (p : Addr) (v : Value) : (w.setCell p v).heap.size = w.heap.size := by simp [World.setCell]
end Go.Proofs.Ytpbkkjiikhjanaa

/-
  The laws' copying of programs: contracts.
-/
import Derived.Test.YtkfdehmmhgcapaaPrgTo
namespace Go.Proofs.Ytkfdehmmhgcapaa
open Go.RowKit Exs

/-- Block g of the world holds just these cells, none frozen. -/
def Keep (w : World) (g : Nat) (cs : Array Value) (t : TypeId) : Prop := w.heap[g]? = some (.cells cs t (0, 0))
section
variable {w w' : World} {g g' i : Nat} {cs : Array Value} {t : TypeId} {v : Value}
theorem Keep.new (w : World) (cs : Array Value) (t : TypeId) : Keep (w.alloc (.cells cs t)) w.heap.size cs t := heap_alloc_new _ _
theorem Keep.lt (h : Keep w g cs t) : g < w.heap.size := (Array.getElem?_eq_some_iff.1 h).1
theorem Keep.alloc (h : Keep w g cs t) (o : Obj) : Keep (w.alloc o) g cs t := (Below.heap_alloc _ _ _ h.lt).trans h
theorem Keep.below (h : Keep w g cs t) (hb : Below w.heap.size w w') : Keep w' g cs t := (hb.block g h.lt).trans h
theorem Keep.set (h : Keep w g cs t) (i : Nat) (v : Value) : Keep (w.setCell ⟨g, i, none⟩ v) g (cs.setIfInBounds i v) t := heap_set h
theorem Keep.other (h : Keep w g cs t) (hg : g ≠ g') (i : Nat) (v : Value) : Keep (w.setCell ⟨g', i, none⟩ v) g cs t := (Below.heap_setCell _ _ _ _ hg).trans h
theorem Keep.cell (h : Keep w g cs t) (i : Nat) : w.cell? ⟨g, i, none⟩ = cs[i]? := cell_of_row w g i cs t (0, 0) h
theorem Keep.frozen (h : Keep w g cs t) (i : Nat) : w.frozen? ⟨g, i, none⟩ = false := by
  unfold Keep at h
  simp [World.frozen?, h]
end

theorem Try.info133 : (Try.prog.info? 133).map (fun i => (i.zero, i.size, i.bytes)) = some (some (.agg #[.int .i64 0, .int .i64 0, .slice none 0 0, .slice none 0 0, .slice none 0 0]), 5, 88) := by kernel_rfl
theorem Try.info128 : (Try.prog.info? 128).map (fun i => (i.zero, i.size, i.bytes)) = some (some (.agg #[.int .i64 0, .int .i64 0, .slice none 0 0, .slice none 0 0]), 4, 64) := by kernel_rfl
theorem RoomS.made (w : World) (n : Nat) (z : Array Value) (m : Nat) (hm : m = n * 5) : RoomS (w.alloc (.cells (madeCells z m) 133)) w.heap.size n [] :=
  ⟨_, heap_alloc_new _ _, by rw [size_madeCells]; omega, fun j s hj => by simp at hj⟩
theorem RoomF.made (w : World) (n : Nat) (z : Array Value) (m : Nat) (hm : m = n * 4) : RoomF (w.alloc (.cells (madeCells z m) 128)) w.heap.size n [] :=
  ⟨_, heap_alloc_new _ _, by rw [size_madeCells]; omega, fun j s hj => by simp at hj⟩

structure Pg where
  funcs : List Fc
def pgV (_ : Pg) (A : Option Addr) (n c : Nat) : Value := .agg #[.slice A n c]
structure IsPg (w : World) (B : Nat) (p : Pg) (A : Option Addr) (n : Nat) : Prop where
  funcs : ReadsF w B A n p.funcs
structure MPg (w : World) (L : Nat) (p : Pg) (A : Option Addr) (n : Nat) : Prop where
  funcs : MFuncs w L A n p.funcs
theorem MFuncs.from {w : World} {L L' : Nat} {A : Option Addr} {n : Nat} {xs : List Fc} (h : MFuncs w L A n xs) (hL : L' ≤ L) : MFuncs w L' A n xs := by
  obtain ⟨g, e, hg, r, hl⟩ := h; exact ⟨g, e, by omega, r, hl⟩
def SmallPg (p : Pg) : Prop := SmallP p.funcs

end Go.Proofs.Ytkfdehmmhgcapaa

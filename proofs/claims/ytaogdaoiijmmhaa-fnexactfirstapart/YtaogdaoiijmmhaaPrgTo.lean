/-
  The laws' copying of programs: what is copied lies in blocks of its own.
-/
import Derived.Test.YtaogdaoiijmmhaaPrg
namespace Go.Proofs.Ytaogdaoiijmmhaa
open Go.RowKit Exs

/-- Blocks from L on are as they were. -/
def SameFrom (L : Nat) (w w' : World) : Prop := ∀ k, L ≤ k → k < w.heap.size → w'.heap[k]? = w.heap[k]?
theorem SameFrom.of_below {L : Nat} {w w' : World} (h : Below w.heap.size w w') : SameFrom L w w' := fun k _ hk => h.block k hk
theorem SameFrom.setCell (w : World) (g i : Nat) (v : Value) : SameFrom (g + 1) w (w.setCell ⟨g, i, none⟩ v) := fun k hk _ => Below.heap_setCell _ _ _ _ (show k ≠ g by omega)
theorem SameFrom.trans {L : Nat} {a b c : World} (h : SameFrom L a b) (k : SameFrom L b c) (hs : a.heap.size ≤ b.heap.size) : SameFrom L a c := fun i hi hs' => (k i hi (by omega)).trans (h i hi hs')
theorem SameFrom.mono {L L' : Nat} {w w' : World} (h : SameFrom L w w') (hL : L ≤ L') : SameFrom L' w w' := fun k hk hs => h k (by omega) hs
theorem Room.same {w w' : World} {g : Nat} {t : TypeId} {n : Nat} {k : IntKind} {xs : List Int} (h : Room w g t n k xs) (hs : SameFrom g w w') : Room w' g t n k xs := by
  have hl := h.lt
  obtain ⟨cs, h1, h2, h3⟩ := h
  exact ⟨cs, (hs g (Nat.le_refl _) hl).trans h1, h2, h3⟩

def MInts (w : World) (L : Nat) (A : Option Addr) (n : Nat) (xs : List Int) : Prop := ∃ g, A = some ⟨g, 0, none⟩ ∧ L ≤ g ∧ Room w g 3 n .i64 xs ∧ xs.length = n
def MToks (w : World) (L : Nat) (A : Option Addr) (n : Nat) (ts : List Token) : Prop := ∃ g, A = some ⟨g, 0, none⟩ ∧ L ≤ g ∧ Room w g 99 (2 * n) .i64 (flat ts) ∧ ts.length = n
theorem MInts.same {w w' : World} {L : Nat} {A : Option Addr} {n : Nat} {xs : List Int} (h : MInts w L A n xs) (hs : SameFrom L w w') : MInts w' L A n xs := by
  obtain ⟨g, e, hg, r, hl⟩ := h; exact ⟨g, e, hg, r.same (hs.mono hg), hl⟩
theorem MToks.same {w w' : World} {L : Nat} {A : Option Addr} {n : Nat} {xs : List Token} (h : MToks w L A n xs) (hs : SameFrom L w w') : MToks w' L A n xs := by
  obtain ⟨g, e, hg, r, hl⟩ := h; exact ⟨g, e, hg, r.same (hs.mono hg), hl⟩
theorem MInts.from {w : World} {L L' : Nat} {A : Option Addr} {n : Nat} {xs : List Int} (h : MInts w L A n xs) (hL : L' ≤ L) : MInts w L' A n xs := by
  obtain ⟨g, e, hg, r, hl⟩ := h; exact ⟨g, e, by omega, r, hl⟩
theorem MToks.from {w : World} {L L' : Nat} {A : Option Addr} {n : Nat} {xs : List Token} (h : MToks w L A n xs) (hL : L' ≤ L) : MToks w L' A n xs := by
  obtain ⟨g, e, hg, r, hl⟩ := h; exact ⟨g, e, by omega, r, hl⟩
theorem MInts.reads {w : World} {L : Nat} {A : Option Addr} {n : Nat} {xs : List Int} (h : MInts w L A n xs) : Reads w w.heap.size .i64 A n xs := by
  obtain ⟨g, rfl, _, r, hl⟩ := h; exact r.reads hl
theorem MToks.reads {w : World} {L : Nat} {A : Option Addr} {n : Nat} {xs : List Token} (h : MToks w L A n xs) : ReadsT w w.heap.size A n xs := by
  obtain ⟨g, rfl, _, r, hl⟩ := h; exact r.readsT hl

structure MSt (w : World) (L : Nat) (s : St) (A1 : Option Addr) (n1 : Nat) (A2 : Option Addr) (n2 : Nat) (A3 : Option Addr) (n3 : Nat) : Prop where
  ex : MToks w L A1 n1 s.ex
  th : MInts w L A2 n2 s.th
  el : MInts w L A3 n3 s.el
theorem MSt.same {w w' : World} {L : Nat} {s : St} {A1 : Option Addr} {n1 : Nat} {A2 : Option Addr} {n2 : Nat} {A3 : Option Addr} {n3 : Nat} (h : MSt w L s A1 n1 A2 n2 A3 n3) (hs : SameFrom L w w') : MSt w' L s A1 n1 A2 n2 A3 n3 := ⟨h.ex.same hs, h.th.same hs, h.el.same hs⟩
theorem MSt.from {w : World} {L L' : Nat} {s : St} {A1 : Option Addr} {n1 : Nat} {A2 : Option Addr} {n2 : Nat} {A3 : Option Addr} {n3 : Nat} (h : MSt w L s A1 n1 A2 n2 A3 n3) (hL : L' ≤ L) : MSt w L' s A1 n1 A2 n2 A3 n3 := ⟨h.ex.from hL, h.th.from hL, h.el.from hL⟩

/-- Block g is a row of n statements of which the first ones are ss; what they lead to lies in later blocks. -/
def RoomS (w : World) (g n : Nat) (ss : List St) : Prop :=
  ∃ cs : Array Value, w.heap[g]? = some (.cells cs 68 (0, 0)) ∧ cs.size = n * 5 ∧ ∀ (j : Nat) (s : St), ss[j]? = some s → ∃ A1 n1 c1 A2 n2 c2 A3 n3 c3,
    cs[j * 5]? = some (.int .i64 s.kind) ∧ cs[j * 5 + 1]? = some (.int .i64 s.n) ∧ cs[j * 5 + 2]? = some (.slice A1 n1 c1) ∧ cs[j * 5 + 3]? = some (.slice A2 n2 c2) ∧ cs[j * 5 + 4]? = some (.slice A3 n3 c3) ∧ MSt w (g + 1) s A1 n1 A2 n2 A3 n3
theorem RoomS.lt {w : World} {g n : Nat} {ss : List St} (h : RoomS w g n ss) : g < w.heap.size := by
  obtain ⟨cs, h1, _⟩ := h; exact (Array.getElem?_eq_some_iff.1 h1).1
theorem RoomS.same {w w' : World} {g n : Nat} {ss : List St} (h : RoomS w g n ss) (hs : SameFrom g w w') : RoomS w' g n ss := by
  have hl := h.lt
  obtain ⟨cs, h1, h2, h3⟩ := h
  refine ⟨cs, (hs g (Nat.le_refl _) hl).trans h1, h2, fun j s hj => ?_⟩
  obtain ⟨A1, n1, c1, A2, n2, c2, A3, n3, c3, g0, g1, g2, g3, g4, m⟩ := h3 j s hj
  exact ⟨A1, n1, c1, A2, n2, c2, A3, n3, c3, g0, g1, g2, g3, g4, m.same (hs.mono (by omega))⟩
theorem RoomS.at_ {w : World} {g n : Nat} {ss : List St} (h : RoomS w g n ss) (j : Nat) (hj : j < n * 5) : ∃ v, w.cell? ⟨g, j, none⟩ = some v := by
  obtain ⟨cs, h1, h2, _⟩ := h
  exact ⟨cs[j], by rw [cell_of_row w g j cs 68 (0, 0) h1]; exact Array.getElem?_eq_getElem (by omega)⟩
theorem RoomS.frozen {w : World} {g n : Nat} {ss : List St} (h : RoomS w g n ss) (j : Nat) : w.frozen? ⟨g, j, none⟩ = false := by
  obtain ⟨cs, h1, _⟩ := h
  simp [World.frozen?, h1]
theorem heap_set {w : World} {g i : Nat} {v : Value} {cs : Array Value} {t : TypeId} (h : w.heap[g]? = some (.cells cs t (0, 0))) : (w.setCell ⟨g, i, none⟩ v).heap[g]? = some (.cells (cs.setIfInBounds i v) t (0, 0)) := by
  simp [World.setCell, Array.getElem?_modify, h]
theorem size_set (w : World) (p : Addr) (v : Value) : (w.setCell p v).heap.size = w.heap.size := by simp [World.setCell]
theorem RoomS.push {w : World} {g n : Nat} {ss : List St} (h : RoomS w g n ss) (hc : ss.length < n) (s : St) (A1 : Option Addr) (n1 c1 : Nat) (A2 : Option Addr) (n2 c2 : Nat) (A3 : Option Addr) (n3 c3 : Nat) (hm : MSt w (g + 1) s A1 n1 A2 n2 A3 n3) :
    RoomS (((((w.setCell ⟨g, ss.length * 5, none⟩ (.int .i64 s.kind)).setCell ⟨g, ss.length * 5 + 1, none⟩ (.int .i64 s.n)).setCell ⟨g, ss.length * 5 + 2, none⟩ (.slice A1 n1 c1)).setCell ⟨g, ss.length * 5 + 3, none⟩ (.slice A2 n2 c2)).setCell ⟨g, ss.length * 5 + 4, none⟩ (.slice A3 n3 c3)) g n (ss ++ [s]) := by
  have hsame : SameFrom (g + 1) w (((((w.setCell ⟨g, ss.length * 5, none⟩ (.int .i64 s.kind)).setCell ⟨g, ss.length * 5 + 1, none⟩ (.int .i64 s.n)).setCell ⟨g, ss.length * 5 + 2, none⟩ (.slice A1 n1 c1)).setCell ⟨g, ss.length * 5 + 3, none⟩ (.slice A2 n2 c2)).setCell ⟨g, ss.length * 5 + 4, none⟩ (.slice A3 n3 c3)) := by
    intro k hk _
    rw [Below.heap_setCell _ _ _ _ (show k ≠ g by omega), Below.heap_setCell _ _ _ _ (show k ≠ g by omega), Below.heap_setCell _ _ _ _ (show k ≠ g by omega), Below.heap_setCell _ _ _ _ (show k ≠ g by omega), Below.heap_setCell _ _ _ _ (show k ≠ g by omega)]
  obtain ⟨cs, h1, h2, h3⟩ := h
  refine ⟨_, heap_set (heap_set (heap_set (heap_set (heap_set h1)))), by simpa using h2, fun j s' hj => ?_⟩
  by_cases hl : j < ss.length
  · rw [List.getElem?_append_left hl] at hj
    obtain ⟨B1, m1, d1, B2, m2, d2, B3, m3, d3, g0, g1, g2, g3, g4, m⟩ := h3 j s' hj
    refine ⟨B1, m1, d1, B2, m2, d2, B3, m3, d3, ?_, ?_, ?_, ?_, ?_, m.same hsame⟩ <;> (simp only [Array.getElem?_setIfInBounds]; (repeat rw [if_neg (by omega)]); assumption)
  · have hj2 : j = ss.length := by
      have := (List.getElem?_eq_some_iff.1 hj).1
      simp at this; omega
    subst hj2
    rw [List.getElem?_append_right (Nat.le_refl _)] at hj
    simp at hj
    subst hj
    refine ⟨A1, n1, c1, A2, n2, c2, A3, n3, c3, ?_, ?_, ?_, ?_, ?_, hm.same hsame⟩ <;> (simp only [Array.getElem?_setIfInBounds, Array.size_setIfInBounds]; (repeat rw [if_neg (by omega)]); rw [if_pos trivial, if_pos (by omega)])
theorem RoomS.reads {w : World} {g n : Nat} {ss : List St} (h : RoomS w g n ss) (hn : ss.length = n) : ReadsS w w.heap.size (some ⟨g, 0, none⟩) n ss := by
  have hl := h.lt
  obtain ⟨cs, h1, h2, h3⟩ := h
  refine ⟨hn, fun _ => ⟨g, 0, rfl, hl, fun j s hj => ?_⟩⟩
  obtain ⟨A1, n1, c1, A2, n2, c2, A3, n3, c3, g0, g1, g2, g3, g4, m⟩ := h3 j s hj
  have hc := fun i => cell_of_row w g i cs 68 (0, 0) h1
  refine ⟨A1, n1, c1, A2, n2, c2, A3, n3, c3, ?_, ?_, ?_, ?_, ?_, m.ex.reads, m.th.reads, m.el.reads⟩ <;> (rw [Nat.zero_add, hc]; assumption)

def MStmts (w : World) (L : Nat) (A : Option Addr) (n : Nat) (ss : List St) : Prop := ∃ g, A = some ⟨g, 0, none⟩ ∧ L ≤ g ∧ RoomS w g n ss ∧ ss.length = n
theorem MStmts.same {w w' : World} {L : Nat} {A : Option Addr} {n : Nat} {xs : List St} (h : MStmts w L A n xs) (hs : SameFrom L w w') : MStmts w' L A n xs := by
  obtain ⟨g, e, hg, r, hl⟩ := h; exact ⟨g, e, hg, r.same (hs.mono hg), hl⟩
theorem MStmts.from {w : World} {L L' : Nat} {A : Option Addr} {n : Nat} {xs : List St} (h : MStmts w L A n xs) (hL : L' ≤ L) : MStmts w L' A n xs := by
  obtain ⟨g, e, hg, r, hl⟩ := h; exact ⟨g, e, by omega, r, hl⟩
theorem MStmts.reads {w : World} {L : Nat} {A : Option Addr} {n : Nat} {xs : List St} (h : MStmts w L A n xs) : ReadsS w w.heap.size A n xs := by
  obtain ⟨g, rfl, _, r, hl⟩ := h; exact r.reads hl

structure MFc (w : World) (L : Nat) (f : Fc) (A1 : Option Addr) (n1 : Nat) (A2 : Option Addr) (n2 : Nat) : Prop where
  body : MInts w L A1 n1 f.body
  stmts : MStmts w L A2 n2 f.stmts
theorem MFc.same {w w' : World} {L : Nat} {f : Fc} {A1 : Option Addr} {n1 : Nat} {A2 : Option Addr} {n2 : Nat} (h : MFc w L f A1 n1 A2 n2) (hs : SameFrom L w w') : MFc w' L f A1 n1 A2 n2 := ⟨h.body.same hs, h.stmts.same hs⟩
theorem MFc.from {w : World} {L L' : Nat} {f : Fc} {A1 : Option Addr} {n1 : Nat} {A2 : Option Addr} {n2 : Nat} (h : MFc w L f A1 n1 A2 n2) (hL : L' ≤ L) : MFc w L' f A1 n1 A2 n2 := ⟨h.body.from hL, h.stmts.from hL⟩
theorem MFc.is {w : World} {L : Nat} {f : Fc} {A1 : Option Addr} {n1 : Nat} {A2 : Option Addr} {n2 : Nat} (h : MFc w L f A1 n1 A2 n2) : IsFc w w.heap.size f A1 n1 A2 n2 := ⟨h.body.reads, h.stmts.reads⟩

def RoomF (w : World) (g n : Nat) (fs : List Fc) : Prop :=
  ∃ cs : Array Value, w.heap[g]? = some (.cells cs 51 (0, 0)) ∧ cs.size = n * 4 ∧ ∀ (j : Nat) (f : Fc), fs[j]? = some f → ∃ A1 n1 c1 A2 n2 c2,
    cs[j * 4]? = some (.int .i64 f.params) ∧ cs[j * 4 + 1]? = some (.int .i64 f.vars) ∧ cs[j * 4 + 2]? = some (.slice A1 n1 c1) ∧ cs[j * 4 + 3]? = some (.slice A2 n2 c2) ∧ MFc w (g + 1) f A1 n1 A2 n2
theorem RoomF.lt {w : World} {g n : Nat} {ss : List Fc} (h : RoomF w g n ss) : g < w.heap.size := by
  obtain ⟨cs, h1, _⟩ := h; exact (Array.getElem?_eq_some_iff.1 h1).1
theorem RoomF.same {w w' : World} {g n : Nat} {ss : List Fc} (h : RoomF w g n ss) (hs : SameFrom g w w') : RoomF w' g n ss := by
  have hl := h.lt
  obtain ⟨cs, h1, h2, h3⟩ := h
  refine ⟨cs, (hs g (Nat.le_refl _) hl).trans h1, h2, fun j s hj => ?_⟩
  obtain ⟨A1, n1, c1, A2, n2, c2, g0, g1, g2, g3, m⟩ := h3 j s hj
  exact ⟨A1, n1, c1, A2, n2, c2, g0, g1, g2, g3, m.same (hs.mono (by omega))⟩
theorem RoomF.at_ {w : World} {g n : Nat} {ss : List Fc} (h : RoomF w g n ss) (j : Nat) (hj : j < n * 4) : ∃ v, w.cell? ⟨g, j, none⟩ = some v := by
  obtain ⟨cs, h1, h2, _⟩ := h
  exact ⟨cs[j], by rw [cell_of_row w g j cs 51 (0, 0) h1]; exact Array.getElem?_eq_getElem (by omega)⟩
theorem RoomF.frozen {w : World} {g n : Nat} {ss : List Fc} (h : RoomF w g n ss) (j : Nat) : w.frozen? ⟨g, j, none⟩ = false := by
  obtain ⟨cs, h1, _⟩ := h
  simp [World.frozen?, h1]
theorem RoomF.push {w : World} {g n : Nat} {ss : List Fc} (h : RoomF w g n ss) (hc : ss.length < n) (s : Fc) (A1 : Option Addr) (n1 c1 : Nat) (A2 : Option Addr) (n2 c2 : Nat) (hm : MFc w (g + 1) s A1 n1 A2 n2) :
    RoomF ((((w.setCell ⟨g, ss.length * 4, none⟩ (.int .i64 s.params)).setCell ⟨g, ss.length * 4 + 1, none⟩ (.int .i64 s.vars)).setCell ⟨g, ss.length * 4 + 2, none⟩ (.slice A1 n1 c1)).setCell ⟨g, ss.length * 4 + 3, none⟩ (.slice A2 n2 c2)) g n (ss ++ [s]) := by
  have hsame : SameFrom (g + 1) w ((((w.setCell ⟨g, ss.length * 4, none⟩ (.int .i64 s.params)).setCell ⟨g, ss.length * 4 + 1, none⟩ (.int .i64 s.vars)).setCell ⟨g, ss.length * 4 + 2, none⟩ (.slice A1 n1 c1)).setCell ⟨g, ss.length * 4 + 3, none⟩ (.slice A2 n2 c2)) := by
    intro k hk _
    rw [Below.heap_setCell _ _ _ _ (show k ≠ g by omega), Below.heap_setCell _ _ _ _ (show k ≠ g by omega), Below.heap_setCell _ _ _ _ (show k ≠ g by omega), Below.heap_setCell _ _ _ _ (show k ≠ g by omega)]
  obtain ⟨cs, h1, h2, h3⟩ := h
  refine ⟨_, heap_set (heap_set (heap_set (heap_set h1))), by simpa using h2, fun j s' hj => ?_⟩
  by_cases hl : j < ss.length
  · rw [List.getElem?_append_left hl] at hj
    obtain ⟨B1, m1, d1, B2, m2, d2, g0, g1, g2, g3, m⟩ := h3 j s' hj
    refine ⟨B1, m1, d1, B2, m2, d2, ?_, ?_, ?_, ?_, m.same hsame⟩ <;> (simp only [Array.getElem?_setIfInBounds]; (repeat rw [if_neg (by omega)]); assumption)
  · have hj2 : j = ss.length := by
      have := (List.getElem?_eq_some_iff.1 hj).1
      simp at this; omega
    subst hj2
    rw [List.getElem?_append_right (Nat.le_refl _)] at hj
    simp at hj
    subst hj
    refine ⟨A1, n1, c1, A2, n2, c2, ?_, ?_, ?_, ?_, hm.same hsame⟩ <;> (simp only [Array.getElem?_setIfInBounds, Array.size_setIfInBounds]; (repeat rw [if_neg (by omega)]); rw [if_pos trivial, if_pos (by omega)])
theorem RoomF.reads {w : World} {g n : Nat} {ss : List Fc} (h : RoomF w g n ss) (hn : ss.length = n) : ReadsF w w.heap.size (some ⟨g, 0, none⟩) n ss := by
  have hl := h.lt
  obtain ⟨cs, h1, h2, h3⟩ := h
  refine ⟨hn, fun _ => ⟨g, 0, rfl, hl, fun j s hj => ?_⟩⟩
  obtain ⟨A1, n1, c1, A2, n2, c2, g0, g1, g2, g3, m⟩ := h3 j s hj
  have hc := fun i => cell_of_row w g i cs 51 (0, 0) h1
  refine ⟨A1, n1, c1, A2, n2, c2, ?_, ?_, ?_, ?_, m.body.reads, m.stmts.reads⟩ <;> (rw [Nat.zero_add, hc]; assumption)
def MFuncs (w : World) (L : Nat) (A : Option Addr) (n : Nat) (fs : List Fc) : Prop := ∃ g, A = some ⟨g, 0, none⟩ ∧ L ≤ g ∧ RoomF w g n fs ∧ fs.length = n
theorem MFuncs.same {w w' : World} {L : Nat} {A : Option Addr} {n : Nat} {xs : List Fc} (h : MFuncs w L A n xs) (hs : SameFrom L w w') : MFuncs w' L A n xs := by
  obtain ⟨g, e, hg, r, hl⟩ := h; exact ⟨g, e, hg, r.same (hs.mono hg), hl⟩
theorem MFuncs.reads {w : World} {L : Nat} {A : Option Addr} {n : Nat} {xs : List Fc} (h : MFuncs w L A n xs) : ReadsF w w.heap.size A n xs := by
  obtain ⟨g, rfl, _, r, hl⟩ := h; exact r.reads hl

end Go.Proofs.Ytaogdaoiijmmhaa

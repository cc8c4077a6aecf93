/-
  Rows of bytes of the call's own that a conversion of a text may have made: nothing in them is frozen, whatever mark lies behind them.
-/
import Derived.Test.YtnpmokkifffihaaDoorIText2
import Derived.Test.YtnpmokkifffihaaDoorPrgTo
import Derived.ArgAppend
import Derived.Lib.ConvBytes
namespace Go.Proofs.YtnpmokkifffihaaDoor
open Go.RowKit Exs

/-- Such a row. -/
def BytesG (w : World) (B : Nat) (v : Value) (l : List UInt8) : Prop :=
  ∃ g cap, v = .slice (some ⟨g, 0, none⟩) l.length cap ∧ B ≤ g ∧ g < w.heap.size ∧ l.length ≤ cap ∧ cap ≤ maxLen ∧
    (∀ j u, (Lib.byteCells l)[j]? = some u → w.cell? ⟨g, j, none⟩ = some u) ∧ ∀ j, j < cap → (w.cell? ⟨g, j, none⟩).isSome = true ∧ w.frozen? ⟨g, j, none⟩ = false
theorem byteCells_len (l : List UInt8) : (Lib.byteCells l).length = l.length := by simp [Lib.byteCells]
theorem byteCells_app (a b : List UInt8) : Lib.byteCells (a ++ b) = Lib.byteCells a ++ Lib.byteCells b := by simp [Lib.byteCells]
theorem byteCells_one (l : List UInt8) : ∀ u ∈ Lib.byteCells l, u.oneCell' = true := by
  intro u hu
  simp only [Lib.byteCells, List.mem_map] at hu
  obtain ⟨b, _, rfl⟩ := hu
  rfl
theorem BytesG.of {w : World} {B B' : Nat} {v : Value} {l : List UInt8} (h : Bytes w B' v l) (hB : B ≤ B') (hn : l ≠ []) : BytesG w B v l := by
  rcases h.2 with ⟨_, h0⟩ | ⟨g, cap, cur, hv, hb, hg, hc, hm, hs, ht⟩
  · exact absurd (List.eq_nil_of_length_eq_zero h0) hn
  · refine ⟨g, cap, hv, by omega, (Array.getElem?_eq_some_iff.1 hg).1, hc, hm, fun j u hj => ?_, fun j hj => ⟨?_, ?_⟩⟩
    · rw [cell_of_row w g j cur 5 (0, 0) hg, ← Array.getElem?_toList]
      rw [← ht, List.getElem?_take] at hj
      split at hj
      · exact hj
      · cases hj
    · rw [cell_of_row w g j cur 5 (0, 0) hg]
      have : j < cur.size := by omega
      simp [this]
    · simp [World.frozen?, hg]
theorem BytesG.kept {w w' : World} {B : Nat} {v : Value} {l : List UInt8} (h : BytesG w B v l) (hs : w.heap.size ≤ w'.heap.size) (hk : ∀ k, k < w.heap.size → v.ownBlock = some k → w'.heap[k]? = w.heap[k]?) : BytesG w' B v l := by
  obtain ⟨g, cap, rfl, hb, hg, hc, hm, h1, h2⟩ := h
  have e : w'.heap[g]? = w.heap[g]? := hk g hg (by simp [Value.ownBlock])
  refine ⟨g, cap, rfl, hb, by omega, hc, hm, fun j u hj => ?_, fun j hj => ?_⟩
  · rw [World.cell?_of_block (a := ⟨g, j, none⟩) e]; exact h1 j u hj
  · rw [World.cell?_of_block (a := ⟨g, j, none⟩) e, World.frozen?_of_block (a := ⟨g, j, none⟩) e]; exact h2 j hj
theorem BytesG.below {w w' : World} {B : Nat} {v : Value} {l : List UInt8} (h : BytesG w B v l) (hb : Below w.heap.size w w') : BytesG w' B v l := h.kept hb.size fun k hk _ => hb.block k hk
theorem BytesG.alloc {w : World} {B : Nat} {v : Value} {l : List UInt8} (h : BytesG w B v l) (o : Obj) : BytesG (w.alloc o) B v l := h.below ((Below.refl _ _).alloc (Nat.le_refl _) o)
theorem BytesG.lt {w : World} {B : Nat} {v : Value} {l : List UInt8} (h : BytesG w B v l) : ∀ k, v.ownBlock = some k → B ≤ k ∧ k < w.heap.size := by
  obtain ⟨g, cap, rfl, hb, hg, _⟩ := h
  intro k hk
  simp [Value.ownBlock] at hk
  subst hk
  exact ⟨hb, hg⟩

theorem setCells_grown (b : Nat) : ∀ (vs : List Value) (o : Nat) (w : World), w.grownBy (w.setCells b o vs) (some b)
  | [], _, w => ⟨rfl, rfl, rfl, Nat.le_refl _, fun _ _ _ => rfl⟩
  | v :: r, o, w => by
    have h := setCells_grown b r (o + 1) (w.setCell ⟨b, o, none⟩ v)
    have hz : (w.setCell ⟨b, o, none⟩ v).heap.size = w.heap.size := size_set _ _ _
    refine ⟨h.os, h.tape, h.output, by rw [← hz]; exact h.size, fun k hk hne => ?_⟩
    rw [World.setCells, h.block k (by omega) hne]
    exact Below.heap_setCell _ _ _ _ (fun e => hne (by rw [e]))

/-- What is in the row behind new cells at its end. -/
theorem BytesG.put {w : World} {B g cap : Nat} {l s : List UInt8} (h : BytesG w B (.slice (some ⟨g, 0, none⟩) l.length cap) l) (hr : l.length + s.length ≤ cap) :
    BytesG (w.setCells g (0 + l.length * 1) (Lib.byteCells s)) B (.slice (some ⟨g, 0, none⟩) (l.length + s.length) cap) (l ++ s) := by
  obtain ⟨g', cap', e, hb, hg, hc, hm, h1, h2⟩ := h
  simp only [Value.slice.injEq, Option.some.injEq, Addr.mk.injEq, and_true, true_and] at e
  obtain ⟨rfl, rfl⟩ := e
  have hsm : ∀ j, j < (Lib.byteCells s).length → (w.cell? ⟨g, 0 + l.length * 1 + j, none⟩).isSome = true := fun j hj => (h2 _ (by rw [byteCells_len] at hj; omega)).1
  have hz : w.heap.size ≤ (w.setCells g (0 + l.length * 1) (Lib.byteCells s)).heap.size := (setCells_grown g _ _ w).size
  refine ⟨g, cap, by simp, hb, by omega, by simp; omega, hm, fun j u hj => ?_, fun j hj => ⟨?_, ?_⟩⟩
  · rw [byteCells_app] at hj
    by_cases hl : j < l.length
    · rw [List.getElem?_append_left (by rw [byteCells_len]; exact hl)] at hj
      rw [World.cell?_setCells_out g _ _ _ _ (fun _ _ => .inl (by show j < _; omega))]
      exact h1 j u hj
    · rw [List.getElem?_append_right (by rw [byteCells_len]; omega), byteCells_len] at hj
      have hlt := (List.getElem?_eq_some_iff.1 hj).1
      have := World.cell?_setCells_in g (Lib.byteCells s) (0 + l.length * 1) w hsm (j - l.length) hlt
      rw [show 0 + l.length * 1 + (j - l.length) = j by omega] at this
      rw [this, ← hj, List.getElem?_eq_getElem hlt]
  · by_cases hin : l.length ≤ j ∧ j < l.length + s.length
    · have hlt : j - l.length < (Lib.byteCells s).length := by rw [byteCells_len]; omega
      have := World.cell?_setCells_in g (Lib.byteCells s) (0 + l.length * 1) w hsm (j - l.length) hlt
      rw [show 0 + l.length * 1 + (j - l.length) = j by omega] at this
      rw [this]; rfl
    · rw [World.cell?_setCells_out g _ _ _ _ (fun _ _ => by show j < _ ∨ _ ≤ j; rw [byteCells_len]; omega)]
      exact (h2 j hj).1
  · rw [World.frozen?_setCells]; exact (h2 j hj).2

/-- 'append' of a slice's bytes. -/
theorem run_appendG (w : World) (B : Nat) (v : Value) (l : List UInt8) (h : BytesG w B v l) (hB : B ≤ w.heap.size) (a : Addr) (m c : Nat) (s : List UInt8) (hm : s.length = m) (hs : s ≠ []) (hnews : ∀ j u, (Lib.byteCells s)[j]? = some u → w.cell? (a.add j) = some u) (hlen : l.length + m ≤ 1000000) (ty : TypeId) :
    ∃ v' w', (Builtin.append_ #[39, 39] ty #[v, .slice (some a) m c]).run Tryd.prog w = .ok v' w' ∧ BytesG w' B v' (l ++ s) ∧ w.grownBy w' v.ownBlock := by
  obtain ⟨i0, hi, hz0, hz1, hz2⟩ := info_parts Tryd.info5
  have h' := h
  obtain ⟨g, cap, rfl, hb, hg, hc, hmx, h1, h2⟩ := h
  by_cases hr : l.length + m ≤ cap
  · have hrun := run_append_room_cells (P := Tryd.prog) w 39 ty 5 i0 Tryd.underlying39 hi g 0 l.length cap a m c (Lib.byteCells s) (by rw [byteCells_len, hz1]; omega) hnews (byteCells_one s) hr
      (fun j hj => by rw [hz1]; exact (h2 _ (by rw [byteCells_len] at hj; omega)).1) (fun j hj => by rw [hz1]; exact (h2 _ (by rw [byteCells_len] at hj; omega)).2)
    rw [hz1] at hrun
    subst hm
    exact ⟨_, _, hrun, h'.put hr, setCells_grown g _ _ w⟩
  · obtain ⟨v', w', hrun, hown, hgr⟩ := run_append_arg_grows (P := Tryd.prog) w 39 ty 5 i0 (.int .u8 0) 1 1 Tryd.underlying39 hi hz0 hz1 hz2 rfl (by decide) ⟨g, 0, none⟩ l.length cap (Lib.byteCells l) (by rw [byteCells_len]; omega)
      (fun j u hj => by rw [Lib.add_plain, Nat.zero_add]; exact h1 j u hj) a m c (Lib.byteCells s) (by rw [byteCells_len]; omega) hnews (by omega) (by unfold maxLen; omega) (by omega)
    refine ⟨v', w', hrun, BytesG.of (B' := w.heap.size) ?_ hB (by simp [hs]), ⟨hgr.os, hgr.tape, hgr.output, hgr.size, fun k hk _ => hgr.block k hk (by simp)⟩⟩
    unfold Bytes
    rw [byteCells_app, List.length_append, hm]
    exact hown

/-- 'append' of a text's bytes. -/
theorem run_appendG_text (w : World) (B : Nat) (v : Value) (l : List UInt8) (h : BytesG w B v l) (hB : B ≤ w.heap.size) (s : List UInt8) (hs : s ≠ []) (hlen : l.length + s.length ≤ 1000000) (ty : TypeId) :
    ∃ v' w', (Builtin.append_ #[39, 9] ty #[v, .string (strB s)]).run Tryd.prog w = .ok v' w' ∧ BytesG w' B v' (l ++ s) ∧ w.grownBy w' v.ownBlock := by
  obtain ⟨i0, hi, hz0, hz1, hz2⟩ := info_parts Tryd.info5
  have h' := h
  obtain ⟨g, cap, rfl, hb, hg, hc, hmx, h1, h2⟩ := h
  have hsz := strB_size s
  by_cases hr : l.length + s.length ≤ cap
  · have hst := run_storeCells_cells (P := Tryd.prog) g (0 + l.length * 1) (Lib.byteCells s) 0 w (fun j hj => (h2 _ (by rw [byteCells_len] at hj; omega)).1) (fun j hj => (h2 _ (by rw [byteCells_len] at hj; omega)).2) (byteCells_one s)
    have hf := Lib.run_firstCells_string (P := Tryd.prog) w 1 (strB s)
    rw [strCells_strB] at hf
    have hrun : (Builtin.append_ #[39, 9] ty #[.slice (some ⟨g, 0, none⟩) l.length cap, .string (strB s)]).run Tryd.prog w = .ok (.slice (some ⟨g, 0, none⟩) (l.length + s.length) cap) (w.setCells g (0 + l.length * 1) (Lib.byteCells s)) := by
      rw [hsz] at hf
      simp only [Nat.zero_add, Nat.mul_one, Nat.add_zero] at hst ⊢
      simp [Builtin.append_, run_underlying Tryd.underlying39, run_underlying Tryd.underlying9, sizeOf, typeInfo, hi, hz1, Builtin.lenOf, hsz, hr, hf, Addr.add_lit, hst]
    exact ⟨_, _, hrun, h'.put hr, setCells_grown g _ _ w⟩
  · have hrun := Lib.run_append_grow_string (P := Tryd.prog) w 39 9 ty 5 i0 (.int .u8 0) Tryd.underlying39 Tryd.underlying9 hi hz0 ⟨g, 0, none⟩ l.length cap (Lib.byteCells l) (by rw [byteCells_len, hz1]; omega) (fun j u hj => by rw [Lib.add_plain, Nat.zero_add]; exact h1 j u hj) (strB s) (by omega) (by omega) (by rw [hz2]; exact growslice_fits (by omega) (by omega))
    have hge := grownCap_ge w (l.length + (strB s).size) cap 5
    have hcm := grownCap_le_maxLen w (l.length + (strB s).size) cap 5 (by unfold maxLen; omega)
    refine ⟨_, _, hrun, BytesG.of (B' := w.heap.size) ?_ hB (by simp [hs]), ⟨rfl, rfl, rfl, by simp, fun k hk _ => heap_alloc_old w.drew _ hk⟩⟩
    have hz3 : (Value.int IntKind.u8 0).cells.size = 1 := rfl
    unfold Bytes
    rw [byteCells_app, List.length_append, ← strCells_strB s, show l.length + s.length = l.length + (strB s).size by omega]
    refine ⟨by rw [List.length_append, byteCells_len, Lib.strCells_length]; omega, .inr ⟨w.heap.size, _, _, rfl, Nat.le_refl _, heap_alloc_new w.drew _, hge, hcm, ?_, ?_⟩⟩
    · simp only [Array.size_append, List.size_toArray, size_zeroCells, hz3, byteCells_len, Lib.strCells_length]
      omega
    · simp only [Array.toList_append]
      rw [List.take_left' (by simp [byteCells_len, Lib.strCells_length])]

end Go.Proofs.YtnpmokkifffihaaDoor

/-
  Small laws on memory that the walks of this seat share: rows of numbers of the call's own, one number appended to one, such a row of bytes made into a string. Over any program.
-/
import Derived.WalkKit
import Derived.WalkSpells
namespace Go.Proofs.Ytaogdaoiijmmhaa
open Go.RowKit

/-- A fact put away from the walk. -/
theorem put {p : Prop} (h : p) : Hid p := h

/-- One number for another. -/
theorem ret_int {k : IntKind} {a b : Int} (h : a = b) : Ending.returned (.int k a) = .returned (.int k b) := by rw [h]
/-- Four results. -/
theorem results4 {fn : Func} {t u v x : Tmp} (h : fn.results = #[.tmp t, .tmp u, .tmp v, .tmp x]) (tmps : Array Value) (P : Program) (w : World) :
    (results fn tmps).run P w = .ok (.tuple #[tmps.getD t undef, tmps.getD u undef, tmps.getD v undef, tmps.getD x undef]) w := by simp [results, h]

/-- The slice value v is a row of the call's own (blocks from B on) that holds just the numbers xs of kind k. -/
def Nums (w : World) (B : Nat) (e : TypeId) (k : IntKind) (v : Value) (xs : List Int) : Prop := w.ownsRow B e 1 v xs.length (xs.map (Value.int k))

theorem Nums.nil (w : World) (B : Nat) (e : TypeId) (k : IntKind) : Nums w B e k (.slice none 0 0) [] := World.ownsRow_nil _ _ _ _
theorem Nums.alloc {w : World} {B : Nat} {e : TypeId} {k : IntKind} {v : Value} {xs : List Int} (h : Nums w B e k v xs) (o : Obj) : Nums (w.alloc o) B e k v xs := World.ownsRow.alloc h o

/-- 'append(out, x)': out is a row of the call's own of numbers of one kind; x lies in a cell of its own. -/
theorem wpList_append_one {P : Program} {w : World} {ops : Array Oper} {rest : List Oper} {o : Oper} {a : Act} {Q : Exit → Act → World → Prop} (hgd : o.guard = none) (s x : Operand) (t : TypeId)
    (ho : o.op = .call { callee := .builtin .append, args := #[s, x], argTypes := #[t, t] })
    (B : Nat) (e : TypeId) (k : IntKind) (bytes : Nat) (hinfo : (P.info? e).map (fun i => (i.zero, i.size, i.bytes)) = some (some (.int k 0), 1, bytes)) (ht : P.underlying t = some (.slice e)) (hby : bytes ≤ 8)
    (v : Value) (xs : List Int) (hs : a.eval s = v) (w0 : World) (hbel : Below B w0 w) (hB : B ≤ w.heap.size) (hown : Nums w B e k v xs)
    (g : Nat) (b : Int) (hx : a.eval x = .slice (some ⟨g, 0, none⟩) 1 1) (hcell : w.cell? ⟨g, 0, none⟩ = some (.int k b)) (hlen : xs.length ≤ 1000000)
    (h : ∀ v' w', Nums w' B e k v' (xs ++ [b]) → Below B w0 w' → w.heap.size ≤ w'.heap.size → wpList P ops Q rest (a.put o.dst v') w') : wpList P ops Q (o :: rest) a w := by
  obtain ⟨i0, hi, hz0, hz1, hz2⟩ := info_parts hinfo
  refine wpList_append_own w hgd s x t ho B e i0 (.int k 0) 1 bytes ht hi hz0 hz1 hz2 rfl (by decide) v xs.length _ hs hown ⟨g, 0, none⟩ 1 1 [.int k b] hx rfl ?_ ?_ ?_ ?_ hB ?_
  · intro j u hj
    match j, hj with
    | 0, hj => simp at hj; subst hj; simpa [Addr.add] using hcell
  · intro u hu; simp at hu; subst hu; rfl
  · unfold maxLen; omega
  · have : (xs.length + 1) * bytes ≤ (xs.length + 1) * 8 := Nat.mul_le_mul_left _ hby
    omega
  · intro v' w' h1 h2 _
    refine h v' w' (by unfold Nums; simpa using h1) (hbel.grown h2 hB fun j hj => (hown.lt j hj).1) h2.size

/-- 'string(b)' of a row of bytes of the call's own. -/
theorem run_string_own {P : Program} (w : World) (src e dst : TypeId) (hs : P.underlying src = some (.slice e)) (he : P.underlying e = some (.int .u8)) (hd : P.underlying dst = some .string)
    (B : Nat) (v : Value) (xs : List Int) (hown : Nums w B e .u8 v xs) : (convert src dst v).run P w = .ok (.string (strOfNums xs)) w := by
  rcases hown.2 with ⟨rfl, hn⟩ | ⟨g, cap, cur, rfl, _, hg, hnc, _, hcs, htk⟩
  · obtain rfl : xs = [] := List.eq_nil_of_length_eq_zero hn
    rw [run_convert_bytes_nil w src e hs he 0 0 dst hd]; rfl
  · refine run_convert_bytes_arg w src e hs he g 0 xs.length cap xs rfl (fun i hi => ?_) dst hd
    have := World.ownsRow.cellAt hown i (by omega)
    rw [Nat.zero_add, this]
    simp [List.getElem?_eq_getElem hi, List.getD]

/-- Block g, of type t, has c cells, numbers of kind k, none of them frozen; the first ones are xs. -/
def Room (w : World) (g : Nat) (t : TypeId) (c : Nat) (k : IntKind) (xs : List Int) : Prop :=
  ∃ cs : Array Value, w.heap[g]? = some (.cells cs t (0, 0)) ∧ cs.size = c ∧ cs.toList.take xs.length = xs.map (Value.int k)

theorem Room.at_ {w : World} {g : Nat} {t : TypeId} {c : Nat} {k : IntKind} {xs : List Int} (h : Room w g t c k xs) (j : Nat) (hj : j < c) : ∃ v, w.cell? ⟨g, j, none⟩ = some v := by
  obtain ⟨cs, h1, h2, _⟩ := h
  exact ⟨cs[j], by rw [cell_of_row w g j cs t (0, 0) h1]; exact Array.getElem?_eq_getElem (by omega)⟩
theorem Room.frozen {w : World} {g : Nat} {t : TypeId} {c : Nat} {k : IntKind} {xs : List Int} (h : Room w g t c k xs) (j : Nat) : w.frozen? ⟨g, j, none⟩ = false := by
  obtain ⟨cs, h1, _⟩ := h
  simp [World.frozen?, h1]
theorem Room.cell {w : World} {g : Nat} {t : TypeId} {c : Nat} {k : IntKind} {xs : List Int} (h : Room w g t c k xs) (j : Nat) (hj : j < xs.length) : w.cell? ⟨g, j, none⟩ = some (.int k (xs.getD j 0)) := by
  obtain ⟨cs, h1, _, h3⟩ := h
  rw [cell_of_row w g j cs t (0, 0) h1]
  have e : cs.toList[j]? = (xs.map (Value.int k))[j]? := by rw [← h3, List.getElem?_take, if_pos hj]
  rw [← Array.getElem?_toList, e]
  simp [List.getElem?_eq_getElem hj, List.getD]
theorem Room.push {w : World} {g : Nat} {t : TypeId} {c : Nat} {k : IntKind} {xs : List Int} (h : Room w g t c k xs) (hc : xs.length < c) (b : Int) : Room (w.setCell ⟨g, xs.length, none⟩ (.int k b)) g t c k (xs ++ [b]) := by
  obtain ⟨cs, h1, h2, h3⟩ := h
  refine ⟨cs.setIfInBounds xs.length (.int k b), by simp [World.setCell, Array.getElem?_modify, h1], by simpa using h2, ?_⟩
  apply List.ext_getElem?
  intro i
  have e3 : ∀ i : Nat, (cs.toList.take xs.length)[i]? = (xs.map (Value.int k))[i]? := fun i => by rw [h3]
  have e4 := e3 i
  simp only [List.getElem?_take, List.length_append, List.length_singleton, Array.toList_setIfInBounds, List.getElem?_set, List.map_append, List.map_cons, List.map_nil] at e4 ⊢
  by_cases hi : i < xs.length
  · rw [if_pos (by omega), if_neg (by omega), List.getElem?_append_left (by simpa using hi)]
    rw [if_pos hi] at e4
    exact e4
  · by_cases hj : i = xs.length
    · subst hj
      rw [if_pos (by omega), if_pos rfl, if_pos (by simpa [h2] using hc)]
      rw [List.getElem?_append_right (by simp)]
      simp
    · rw [if_neg (by omega), List.getElem?_eq_none (by simp; omega)]

theorem Room.lt {w : World} {g : Nat} {t : TypeId} {c : Nat} {k : IntKind} {xs : List Int} (h : Room w g t c k xs) : g < w.heap.size := by
  obtain ⟨cs, h1, _⟩ := h
  exact (Array.getElem?_eq_some_iff.1 h1).1

/-- 'room[:n:n]' of an array of one-cell elements. -/
theorem run_cut_array {P : Program} (t e : TypeId) (n : Nat) (bytes : Nat) (z : Value) (ht : P.underlying t = some (.array n e)) (hinfo : (P.info? e).map (fun i => (i.zero, i.size, i.bytes)) = some (some z, 1, bytes))
    (a : Addr) (x : Int) (h0 : 0 ≤ x) (h1 : x ≤ n) (w : World) :
    (Instr.sliceAt t (.pointer (some a)) none (some (.int .i64 x)) (some (.int .i64 x))).run P w = .ok (.slice (some a) x.toNat x.toNat) w := by
  obtain ⟨i0, hi, hz0, hz1, hz2⟩ := info_parts hinfo
  have em : (x.toNat : Int) = x := Int.toNat_of_nonneg h0
  simp [Instr.sliceAt, Instr.sureAddr, run_underlying ht, Instr.sliceBounds, run_sliceBound, em, h0, h1, sizeOf, typeInfo, hi, Addr.add]

end Go.Proofs.Ytaogdaoiijmmhaa

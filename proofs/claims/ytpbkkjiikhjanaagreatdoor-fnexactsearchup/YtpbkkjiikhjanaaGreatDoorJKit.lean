/-
  Texts joined: Kit Mem ExprText ExprTok ExprPile Toks TokMem.
-/
import Derived.WalkKit
import Derived.WalkSpells
import Derived.Deep.OwnRows
import Derived.Laws.CopyOwn
import Derived.Laws.Small
import Derived.RowKit
import Derived.Test.YtpbkkjiikhjanaaGreatDoorProg
import Derived.Deep.QuietTactic
import Derived.BigQuiet
import Derived.Laws.MakeOwn
import Derived.Deep.RegionWith
import Derived.Lib.QuietBelow
import Derived.Laws.Entries
/-
  Small laws on memory that the walks of this seat share: rows of numbers of the call's own, one number appended to one, such a row of bytes made into a string. Over any program.
-/
namespace Go.Proofs.YtpbkkjiikhjanaaGreatDoor
open Go.RowKit

/-- A fact put away from the walk. -/
theorem put {p : Prop} (h : p) : Hid p := h

/-- One number for another. -/
theorem ret_int {k : IntKind} {a b : Int} (h : a = b) : Ending.returned (.int k a) = .returned (.int k b) := by rw [h]
/-- Four results. -/
theorem results4 {fn : Func} {t u v x : Tmp} (h : fn.results = #[.tmp t, .tmp u, .tmp v, .tmp x]) (tmps : Array Value) (P : Program) (w : World) :
    (results fn tmps).run P w = .ok (.tuple #[tmps.getD t undef, tmps.getD u undef, tmps.getD v undef, tmps.getD x undef]) w := by simp [results, h]

/-- The slice value v is a row of the call's own (blocks from B on) that holds just the numbers xs of kind k. -/
def Nums (w : World) (B : Nat) (e : TypeId) (k : IntKind) (v : Value) (xs : List Int) : Prop := w.ownsRow B e 1 v xs.length (xs.map (Value.int k))

theorem Nums.nil (w : World) (B : Nat) (e : TypeId) (k : IntKind) : Nums w B e k (.slice none 0 0) [] := World.ownsRow_nil _ _ _ _
theorem Nums.alloc {w : World} {B : Nat} {e : TypeId} {k : IntKind} {v : Value} {xs : List Int} (h : Nums w B e k v xs) (o : Obj) : Nums (w.alloc o) B e k v xs := World.ownsRow.alloc h o

/-- 'append(out, x)': out is a row of the call's own of numbers of one kind; x lies in a cell of its own. -/
theorem wpList_append_one {P : Program} {w : World} {ops : Array Oper} {rest : List Oper} {o : Oper} {a : Act} {Q : Exit → Act → World → Prop} (hgd : o.guard = none) (s x : Operand) (t : TypeId)
    (ho : o.op = .call { callee := .builtin .append, args := #[s, x], argTypes := #[t, t] })
    (B : Nat) (e : TypeId) (k : IntKind) (bytes : Nat) (hinfo : (P.info? e).map (fun i => (i.zero, i.size, i.bytes)) = some (some (.int k 0), 1, bytes)) (ht : P.underlying t = some (.slice e)) (hby : bytes ≤ 8)
    (v : Value) (xs : List Int) (hs : a.eval s = v) (w0 : World) (hbel : Below B w0 w) (hB : B ≤ w.heap.size) (hown : Nums w B e k v xs)
    (g : Nat) (b : Int) (hx : a.eval x = .slice (some ⟨g, 0, none⟩) 1 1) (hcell : w.cell? ⟨g, 0, none⟩ = some (.int k b)) (hlen : xs.length ≤ 1000000)
    (h : ∀ v' w', Nums w' B e k v' (xs ++ [b]) → Below B w0 w' → w.heap.size ≤ w'.heap.size → wpList P ops Q rest (a.put o.dst v') w') : wpList P ops Q (o :: rest) a w := by
  obtain ⟨i0, hi, hz0, hz1, hz2⟩ := info_parts hinfo
  refine wpList_append_own w hgd s x t ho B e i0 (.int k 0) 1 bytes ht hi hz0 hz1 hz2 rfl (by decide) v xs.length _ hs hown ⟨g, 0, none⟩ 1 1 [.int k b] hx rfl ?_ ?_ ?_ ?_ hB ?_
  · intro j u hj
    match j, hj with
    | 0, hj => simp at hj; subst hj; simpa [Addr.add] using hcell
  · intro u hu; simp at hu; subst hu; rfl
  · unfold maxLen; omega
  · have : (xs.length + 1) * bytes ≤ (xs.length + 1) * 8 := Nat.mul_le_mul_left _ hby
    omega
  · intro v' w' h1 h2 _
    refine h v' w' (by unfold Nums; simpa using h1) (hbel.grown h2 hB fun j hj => (hown.lt j hj).1) h2.size

/-- 'string(b)' of a row of bytes of the call's own. -/
theorem run_string_own {P : Program} (w : World) (src e dst : TypeId) (hs : P.underlying src = some (.slice e)) (he : P.underlying e = some (.int .u8)) (hd : P.underlying dst = some .string)
    (B : Nat) (v : Value) (xs : List Int) (hown : Nums w B e .u8 v xs) : (convert src dst v).run P w = .ok (.string (strOfNums xs)) w := by
  rcases hown.2 with ⟨rfl, hn⟩ | ⟨g, cap, cur, rfl, _, hg, hnc, _, hcs, htk⟩
  · obtain rfl : xs = [] := List.eq_nil_of_length_eq_zero hn
    rw [run_convert_bytes_nil w src e hs he 0 0 dst hd]; rfl
  · refine run_convert_bytes_arg w src e hs he g 0 xs.length cap xs rfl (fun i hi => ?_) dst hd
    have := World.ownsRow.cellAt hown i (by omega)
    rw [Nat.zero_add, this]
    simp [List.getElem?_eq_getElem hi, List.getD]

/-- Block g, of type t, has c cells, numbers of kind k, none of them frozen; the first ones are xs. -/
def Room (w : World) (g : Nat) (t : TypeId) (c : Nat) (k : IntKind) (xs : List Int) : Prop :=
  ∃ cs : Array Value, w.heap[g]? = some (.cells cs t (0, 0)) ∧ cs.size = c ∧ cs.toList.take xs.length = xs.map (Value.int k)

theorem Room.at_ {w : World} {g : Nat} {t : TypeId} {c : Nat} {k : IntKind} {xs : List Int} (h : Room w g t c k xs) (j : Nat) (hj : j < c) : ∃ v, w.cell? ⟨g, j, none⟩ = some v := by
  obtain ⟨cs, h1, h2, _⟩ := h
  exact ⟨cs[j], by rw [cell_of_row w g j cs t (0, 0) h1]; exact Array.getElem?_eq_getElem (by omega)⟩
theorem Room.frozen {w : World} {g : Nat} {t : TypeId} {c : Nat} {k : IntKind} {xs : List Int} (h : Room w g t c k xs) (j : Nat) : w.frozen? ⟨g, j, none⟩ = false := by
  obtain ⟨cs, h1, _⟩ := h
  simp [World.frozen?, h1]
theorem Room.cell {w : World} {g : Nat} {t : TypeId} {c : Nat} {k : IntKind} {xs : List Int} (h : Room w g t c k xs) (j : Nat) (hj : j < xs.length) : w.cell? ⟨g, j, none⟩ = some (.int k (xs.getD j 0)) := by
  obtain ⟨cs, h1, _, h3⟩ := h
  rw [cell_of_row w g j cs t (0, 0) h1]
  have e : cs.toList[j]? = (xs.map (Value.int k))[j]? := by rw [← h3, List.getElem?_take, if_pos hj]
  rw [← Array.getElem?_toList, e]
  simp [List.getElem?_eq_getElem hj, List.getD]
theorem Room.push {w : World} {g : Nat} {t : TypeId} {c : Nat} {k : IntKind} {xs : List Int} (h : Room w g t c k xs) (hc : xs.length < c) (b : Int) : Room (w.setCell ⟨g, xs.length, none⟩ (.int k b)) g t c k (xs ++ [b]) := by
  obtain ⟨cs, h1, h2, h3⟩ := h
  refine ⟨cs.setIfInBounds xs.length (.int k b), by simp [World.setCell, Array.getElem?_modify, h1], by simpa using h2, ?_⟩
  apply List.ext_getElem?
  intro i
  have e3 : ∀ i : Nat, (cs.toList.take xs.length)[i]? = (xs.map (Value.int k))[i]? := fun i => by rw [h3]
  have e4 := e3 i
  simp only [List.getElem?_take, List.length_append, List.length_singleton, Array.toList_setIfInBounds, List.getElem?_set, List.map_append, List.map_cons, List.map_nil] at e4 ⊢
  by_cases hi : i < xs.length
  · rw [if_pos (by omega), if_neg (by omega), List.getElem?_append_left (by simpa using hi)]
    rw [if_pos hi] at e4
    exact e4
  · by_cases hj : i = xs.length
    · subst hj
      rw [if_pos (by omega), if_pos rfl, if_pos (by simpa [h2] using hc)]
      rw [List.getElem?_append_right (by simp)]
      simp
    · rw [if_neg (by omega), List.getElem?_eq_none (by simp; omega)]

theorem Room.lt {w : World} {g : Nat} {t : TypeId} {c : Nat} {k : IntKind} {xs : List Int} (h : Room w g t c k xs) : g < w.heap.size := by
  obtain ⟨cs, h1, _⟩ := h
  exact (Array.getElem?_eq_some_iff.1 h1).1

/-- 'room[:n:n]' of an array of one-cell elements. -/
theorem run_cut_array {P : Program} (t e : TypeId) (n : Nat) (bytes : Nat) (z : Value) (ht : P.underlying t = some (.array n e)) (hinfo : (P.info? e).map (fun i => (i.zero, i.size, i.bytes)) = some (some z, 1, bytes))
    (a : Addr) (x : Int) (h0 : 0 ≤ x) (h1 : x ≤ n) (w : World) :
    (Instr.sliceAt t (.pointer (some a)) none (some (.int .i64 x)) (some (.int .i64 x))).run P w = .ok (.slice (some a) x.toNat x.toNat) w := by
  obtain ⟨i0, hi, hz0, hz1, hz2⟩ := info_parts hinfo
  have em : (x.toNat : Int) = x := Int.toNat_of_nonneg h0
  simp [Instr.sliceAt, Instr.sureAddr, run_underlying ht, Instr.sliceBounds, run_sliceBound, em, h0, h1, sizeOf, typeInfo, hi, Addr.add]

end Go.Proofs.YtpbkkjiikhjanaaGreatDoor

/-
  Slices of numbers that are read: what the walks of this seat share. Over any program.
-/
namespace Go.Proofs.YtpbkkjiikhjanaaGreatDoor
open Go.RowKit

/-- The slice value '.slice A n c' reads as the numbers xs of kind k, and lies below block B. -/
def Reads (w : World) (B : Nat) (k : IntKind) (A : Option Addr) (n : Nat) (xs : List Int) : Prop :=
  xs.length = n ∧ (0 < n → ∃ b off, A = some ⟨b, off, none⟩ ∧ b < B ∧ ∀ j x, xs[j]? = some x → w.cell? ⟨b, off + j, none⟩ = some (.int k x))

section
variable {w w' : World} {B B' : Nat} {k : IntKind} {A : Option Addr} {n : Nat} {xs : List Int}
theorem Reads.below (h : Reads w B k A n xs) (hb : Below B w w') : Reads w' B k A n xs :=
  ⟨h.1, fun hn => by
    obtain ⟨b, off, rfl, hB, hc⟩ := h.2 hn
    exact ⟨b, off, rfl, hB, fun j x hx => (hb.cell (p := ⟨b, off + j, none⟩) hB).trans (hc j x hx)⟩⟩
theorem Reads.more (h : Reads w B k A n xs) (hB : B ≤ B') : Reads w B' k A n xs :=
  ⟨h.1, fun hn => by
    obtain ⟨b, off, rfl, hb, hc⟩ := h.2 hn
    exact ⟨b, off, rfl, by omega, hc⟩⟩
theorem Reads.at_ (h : Reads w B k A n xs) {j : Nat} (hj : j < n) : ∃ b off x, A = some ⟨b, off, none⟩ ∧ b < B ∧ w.cell? ⟨b, off + j, none⟩ = some (.int k x) ∧ Hid (xs[j]? = some x) := by
  obtain ⟨b, off, rfl, hb, hc⟩ := h.2 (by omega)
  have hl : j < xs.length := by rw [h.1]; exact hj
  exact ⟨b, off, xs[j], rfl, hb, hc j _ (List.getElem?_eq_getElem hl), List.getElem?_eq_getElem hl⟩
end

theorem Room.reads {w : World} {g : Nat} {t : TypeId} {n : Nat} {k : IntKind} {xs : List Int} (h : Room w g t n k xs) (hn : xs.length = n) : Reads w w.heap.size k (some ⟨g, 0, none⟩) n xs :=
  ⟨hn, fun _ => ⟨g, 0, rfl, h.lt, fun j x hx => by
    have hj : j < xs.length := (List.getElem?_eq_some_iff.1 hx).1
    rw [Nat.zero_add, h.cell j hj]
    simp [List.getD, hx]⟩⟩
theorem Room.below {w w' : World} {g B : Nat} {t : TypeId} {n : Nat} {k : IntKind} {xs : List Int} (h : Room w g t n k xs) (hb : Below B w w') (hg : g < B) : Room w' g t n k xs := by
  obtain ⟨cs, h1, h2, h3⟩ := h
  exact ⟨cs, (hb.block g hg).trans h1, h2, h3⟩
theorem Room.made (w : World) (t : TypeId) (n : Nat) (k : IntKind) : Room (w.alloc (.cells (madeCells #[.int k 0] n) t)) w.heap.size t n k [] :=
  ⟨_, heap_alloc_new _ _, size_madeCells _ _, rfl⟩

theorem take_more {xs : List Int} {k : Nat} {x : Int} (h : xs[k]? = some x) : xs.take (k + 1) = xs.take k ++ [x] := by
  rw [List.take_add_one, h]; rfl

/-- A row as its cells. -/
theorem Room.cells {w : World} {g : Nat} {t : TypeId} {n : Nat} {k : IntKind} {xs : List Int} (h : Room w g t n k xs) :
    ∃ cur : List Value, Hid (w.heap[g]? = some (.cells cur.toArray t (0, 0))) ∧ cur.length = n ∧ Hid (cur.take xs.length = xs.map (Value.int k)) := by
  obtain ⟨cs, h1, h2, h3⟩ := h
  exact ⟨cs.toList, h1, by simpa using h2, h3⟩
/-- Numbers laid behind those that are there. -/
theorem Room.splice {w : World} {g : Nat} {t : TypeId} {n : Nat} {k : IntKind} {xs ys : List Int} {cur : List Value} (h : w.heap[g]? = some (.cells (Go.splice cur xs.length (ys.map (Value.int k))).toArray t (0, 0)))
    (hc : cur.length = n) (ht : cur.take xs.length = xs.map (Value.int k)) (hfit : xs.length + ys.length ≤ n) : Room w g t n k (xs ++ ys) := by
  refine ⟨_, h, ?_, ?_⟩
  · rw [List.size_toArray, length_splice _ _ _ (by simp; omega), hc]
  · simp only [Go.splice]
    rw [ht, ← List.append_assoc, ← List.map_append, List.take_left' (by simp)]
theorem nums_oneCell (k : IntKind) (ys : List Int) : ∀ v ∈ ys.map (Value.int k), v.oneCell' = true := by
  intro v hv
  obtain ⟨x, _, rfl⟩ := List.mem_map.1 hv
  rfl
theorem Room.source {w : World} {g : Nat} {t : TypeId} {n : Nat} {k : IntKind} {xs : List Int} (h : Room w g t n k xs) : ∀ j v, (xs.map (Value.int k))[j]? = some v → w.cell? ((⟨g, 0, none⟩ : Addr).add j) = some v := by
  intro j v hv
  have hj : j < xs.length := by
    have := (List.getElem?_eq_some_iff.1 hv).1
    simpa using this
  have hadd : (⟨g, 0, none⟩ : Addr).add j = ⟨g, j, none⟩ := by unfold Addr.add; split <;> simp_all
  rw [hadd, h.cell j hj]
  simp [List.getElem?_eq_getElem hj] at hv
  simp [List.getD, List.getElem?_eq_getElem hj, hv]

/-- A slice of integers that came in, as the given rows open it. -/
theorem reads_of_row {w : World} {k : IntKind} {a : Option Addr} {len cap : Nat} {zs : List Int}
    (h : (a = none ∧ len = 0 ∧ cap = 0 ∧ zs = []) ∨ ∃ x, a = some x ∧ len ≤ cap ∧ cap ≤ maxLen ∧ zs.length = cap ∧ (∀ i, i < zs.length → w.cell? (x.add i) = some (.int k (zs.getD i 0))) ∧ ∀ n ∈ zs, (Lit.int k n).wf = true) :
    Reads w w.heap.size k a len (zs.take len) := by
  rcases h with ⟨rfl, rfl, rfl, rfl⟩ | ⟨x, rfl, hl, _, hz, hc, _⟩
  · exact ⟨rfl, fun h => absurd h (by omega)⟩
  · refine ⟨by rw [List.length_take]; omega, fun hn => ?_⟩
    obtain ⟨b, off, spot⟩ := x
    have h0 := hc 0 (by omega)
    have hspot : spot = none := by simpa [Addr.add] using World.cell?_spot h0
    subst hspot
    have hadd : ∀ j, (⟨b, off, none⟩ : Addr).add j = ⟨b, off + j, none⟩ := fun j => by unfold Addr.add; split <;> simp_all
    refine ⟨b, off, rfl, ?_, fun j x hx => ?_⟩
    · have := World.block_lt_of_cell? w _ h0
      rw [hadd] at this
      exact this
    · have hj : j < len := by
        have := (List.getElem?_eq_some_iff.1 hx).1
        rw [List.length_take] at this
        omega
      have h1 := hc j (by omega)
      rw [hadd] at h1
      rw [h1]
      rw [List.getElem?_take, if_pos hj] at hx
      simp [List.getD, hx]

end Go.Proofs.YtpbkkjiikhjanaaGreatDoor

/-
  Plain mathematics on the texts of expressions: a token's text, reading it, words between blanks, and reading back. No program is imported here.
-/
namespace Go.Proofs.YtpbkkjiikhjanaaGreatDoor.Exs

/-- The decimal digits of a number, the highest one first. -/
def numL (n : Nat) : List UInt8 := if n < 10 then [UInt8.ofNat (48 + n)] else numL (n / 10) ++ [UInt8.ofNat (48 + n % 10)]
termination_by n
decreasing_by omega

theorem numL_last {n : Nat} (h : n < 10) : numL n = [UInt8.ofNat (48 + n)] := by rw [numL, if_pos h]
theorem numL_more {n : Nat} (h : 10 ≤ n) : numL n = numL (n / 10) ++ [UInt8.ofNat (48 + n % 10)] := by rw [numL, if_neg (by omega)]

/-- Whether a byte is a decimal digit. -/
def isDig (b : UInt8) : Bool := decide (48 ≤ b.toNat) && decide (b.toNat ≤ 57)

theorem isDig_iff (b : UInt8) : isDig b = true ↔ 48 ≤ b.toNat ∧ b.toNat ≤ 57 := by simp [isDig]

theorem toNat_dig {n : Nat} (h : n < 10) : (UInt8.ofNat (48 + n)).toNat = 48 + n := by
  rw [UInt8.toNat_ofNat']; omega

theorem dig_back {b : UInt8} (h : 48 ≤ b.toNat) : UInt8.ofNat (48 + (b.toNat - 48)) = b := by
  rw [show 48 + (b.toNat - 48) = b.toNat by omega]; simp

/-- The number that digits come to. -/
def valL (l : List UInt8) : Nat := l.foldl (fun n b => 10 * n + (b.toNat - 48)) 0

theorem valL_snoc (l : List UInt8) (b : UInt8) : valL (l ++ [b]) = 10 * valL l + (b.toNat - 48) := by simp [valL]

theorem numL_digs (n : Nat) : ∀ b ∈ numL n, isDig b = true := by
  induction n using Nat.strongRecOn with
  | _ n ih =>
    intro b hb
    by_cases hn : n < 10
    · rw [numL_last hn] at hb
      simp only [List.mem_singleton] at hb
      subst hb; rw [isDig_iff, toNat_dig hn]; omega
    · rw [numL_more (by omega), List.mem_append] at hb
      rcases hb with hb | hb
      · exact ih _ (by omega) b hb
      · simp only [List.mem_singleton] at hb
        subst hb; rw [isDig_iff, toNat_dig (by omega)]; omega

theorem valL_numL (n : Nat) : valL (numL n) = n := by
  induction n using Nat.strongRecOn with
  | _ n ih =>
    by_cases hn : n < 10
    · rw [numL_last hn, show [UInt8.ofNat (48 + n)] = [] ++ [UInt8.ofNat (48 + n)] from rfl, valL_snoc, toNat_dig hn]; simp [valL]
    · rw [numL_more (by omega), valL_snoc, ih _ (by omega), toNat_dig (by omega)]; omega

theorem numL_length_pos (n : Nat) : 1 ≤ (numL n).length := by rw [numL]; split <;> simp

theorem numL_length_le : ∀ (k n : Nat), n < 10 ^ (k + 1) → (numL n).length ≤ k + 1
  | 0, n, h => by rw [numL_last (by simpa using h)]; simp
  | k + 1, n, h => by
    by_cases hn : n < 10
    · rw [numL_last hn]; simp
    · rw [numL_more (by omega)]
      have := numL_length_le k (n / 10) (by
        rw [Nat.pow_succ] at h
        exact (Nat.div_lt_iff_lt_mul (by omega)).2 h)
      simp; omega

theorem numL_head (n : Nat) (h : 1 ≤ n) : (numL n).head? ≠ some 48 := by
  induction n using Nat.strongRecOn with
  | _ n ih =>
    by_cases hn : n < 10
    · rw [numL_last hn]
      intro e
      simp only [List.head?_cons, Option.some.injEq] at e
      have := congrArg UInt8.toNat e
      rw [toNat_dig hn] at this
      have e48 : (48 : UInt8).toNat = 48 := rfl
      omega
    · rw [numL_more (by omega)]
      have h1 := ih (n / 10) (by omega) (by omega)
      have h2 := numL_length_pos (n / 10)
      match hq : numL (n / 10), h1, h2 with
      | x :: r, h1, _ => simpa using h1

theorem numL_length_big {n : Nat} (h : 1 < (numL n).length) : 10 ≤ n := by
  by_cases hn : n < 10
  · rw [numL_last hn] at h; simp at h
  · omega

/-- Decimal digits in their one form, ten at most: what they come to. -/
def digs (l : List UInt8) : Option Nat :=
  if l.length = 0 ∨ 10 < l.length ∨ (l.head? = some 48 ∧ 1 < l.length) ∨ l.all isDig = false then none else some (valL l)

theorem digs_numL {n : Nat} (h : n < 10000000000) : digs (numL n) = some n := by
  have h1 := numL_length_pos n
  have h2 := numL_length_le 9 n (Nat.lt_of_lt_of_le h (by decide))
  have h3 : (numL n).all isDig = true := by rw [List.all_eq_true]; exact numL_digs n
  rw [digs, if_neg, valL_numL]
  rintro (h4 | h4 | ⟨h4, h5⟩ | h4)
  · omega
  · omega
  · have := numL_length_big h5
    exact numL_head n (by omega) h4
  · rw [h3] at h4; cases h4

theorem snoc_of {l : List UInt8} {k : Nat} (h : l.length = k + 1) : ∃ d b, l = d ++ [b] := by
  have hne : l ≠ [] := by intro e; rw [e] at h; simp at h
  exact ⟨l.dropLast, l.getLast hne, (List.dropLast_concat_getLast hne).symm⟩

theorem valL_pos : ∀ (k : Nat) (l : List UInt8), l.length = k + 1 → l.all isDig = true → l.head? ≠ some 48 → 1 ≤ valL l
  | 0, l, hl, ha, hh => by
    match l, hl with
    | [b], _ =>
      have hb := (isDig_iff b).1 (by simpa using ha)
      have : b.toNat ≠ 48 := fun e => hh (by rw [List.head?_cons]; exact congrArg some (UInt8.toNat_inj.1 e))
      show 1 ≤ valL ([] ++ [b])
      rw [valL_snoc]; omega
  | k + 1, l, hl, ha, hh => by
    obtain ⟨d, b, rfl⟩ := snoc_of hl
    rw [valL_snoc]
    have hd : d.length = k + 1 := by simpa using hl
    have := valL_pos k d hd (by rw [List.all_append, Bool.and_eq_true] at ha; exact ha.1) (by
      match d, hd with
      | x :: r, _ => simpa using hh)
    omega

theorem numL_valL : ∀ (k : Nat) (l : List UInt8), l.length = k + 1 → l.all isDig = true → (1 < l.length → l.head? ≠ some 48) → numL (valL l) = l
  | 0, l, hl, ha, _ => by
    match l, hl with
    | [b], _ =>
      have hb := (isDig_iff b).1 (by simpa using ha)
      show numL (valL ([] ++ [b])) = _
      rw [valL_snoc, show valL [] = 0 from rfl, numL_last (by omega), show 10 * 0 + (b.toNat - 48) = b.toNat - 48 by omega, dig_back hb.1]
  | k + 1, l, hl, ha, hh => by
    obtain ⟨d, b, rfl⟩ := snoc_of hl
    have hd : d.length = k + 1 := by simpa using hl
    rw [List.all_append, Bool.and_eq_true] at ha
    have hdh : d.head? ≠ some 48 := by
      have hh := hh (by omega)
      match d, hd with
      | x :: r, _ => simpa using hh
    have h1 := valL_pos k _ hd ha.1 hdh
    have h2 := numL_valL k _ hd ha.1 (fun _ => hdh)
    have hb := (isDig_iff b).1 (by simpa using ha.2)
    rw [valL_snoc, numL_more (by omega), show (10 * valL d + (b.toNat - 48)) / 10 = valL d by omega, show (10 * valL d + (b.toNat - 48)) % 10 = b.toNat - 48 by omega, h2, dig_back hb.1]

theorem digs_some {l : List UInt8} {n : Nat} (h : digs l = some n) : numL n = l ∧ l.all isDig = true ∧ 1 ≤ l.length := by
  rw [digs] at h
  split at h
  · cases h
  · rename_i hc
    simp only [not_or, not_and] at hc
    obtain ⟨h1, h2, h3, h4⟩ := hc
    have ha : l.all isDig = true := by simpa using h4
    cases h
    exact ⟨numL_valL (l.length - 1) l (by omega) ha (fun h5 h6 => h3 h6 h5), ha, by omega⟩

end Go.Proofs.YtpbkkjiikhjanaaGreatDoor.Exs

/-
  Plain mathematics on the texts of expressions: a token's text and reading it, words between blanks, and that a text is read back. No program is imported here.
-/
namespace Go.Proofs.YtpbkkjiikhjanaaGreatDoor.Exs

/-- A token: its op and its number. -/
abbrev Token := Int × Int

/-- Whether a token has the form of one. -/
def goodTok (t : Token) : Prop :=
  (t.1 = 1 ∧ -2147483648 ≤ t.2 ∧ t.2 ≤ 2147483647) ∨ ((t.1 = 2 ∨ t.1 = 11) ∧ 0 ≤ t.2 ∧ t.2 ≤ 99) ∨ (3 ≤ t.1 ∧ t.1 ≤ 10 ∧ t.2 = 0)

instance (t : Token) : Decidable (goodTok t) := by unfold goodTok; infer_instance

/-- The word of an op that has one. -/
def word (op : Int) : List UInt8 :=
  if op = 3 then [43] else if op = 4 then [45] else if op = 5 then [42] else if op = 6 then [47] else if op = 7 then [60]
  else if op = 8 then [61] else if op = 9 then [105, 110] else if op = 10 then [114, 101, 99] else []

/-- A number's text with its sign. -/
def intL (n : Int) : List UInt8 := if n < 0 then 45 :: numL (-n).toNat else numL n.toNat

/-- A token's text. -/
def tokL (t : Token) : List UInt8 :=
  if t.1 = 1 then intL t.2 else if t.1 = 2 then 118 :: numL t.2.toNat else if t.1 = 11 then 102 :: numL t.2.toNat else word t.1

/-- The op that a word is of. -/
def opOf (l : List UInt8) : Option Int :=
  if l = [43] then some 3 else if l = [45] then some 4 else if l = [42] then some 5 else if l = [47] then some 6 else if l = [60] then some 7
  else if l = [61] then some 8 else if l = [105, 110] then some 9 else if l = [114, 101, 99] then some 10 else none

/-- What a text that is no word is the token of. -/
def plainTok : List UInt8 → Option Token
  | [] => none
  | b :: r =>
    if b = 118 then (digs r).bind fun n => if n ≤ 99 then some (2, (n : Int)) else none
    else if b = 102 then (digs r).bind fun n => if n ≤ 99 then some (11, (n : Int)) else none
    else if b = 45 then (digs r).bind fun n => if 1 ≤ n ∧ n ≤ 2147483648 then some (1, -(n : Int)) else none
    else (digs (b :: r)).bind fun n => if n ≤ 2147483647 then some (1, (n : Int)) else none

/-- The token that a text is of. -/
def readTok (l : List UInt8) : Option Token := match opOf l with | some op => some (op, 0) | none => plainTok l

theorem opOf_word {op : Int} (h1 : 3 ≤ op) (h2 : op ≤ 10) : opOf (word op) = some op := by
  have h : op = 3 ∨ op = 4 ∨ op = 5 ∨ op = 6 ∨ op = 7 ∨ op = 8 ∨ op = 9 ∨ op = 10 := by omega
  rcases h with rfl | rfl | rfl | rfl | rfl | rfl | rfl | rfl <;> decide

theorem word_opOf {l : List UInt8} {op : Int} (h : opOf l = some op) : word op = l ∧ 3 ≤ op ∧ op ≤ 10 := by
  unfold opOf at h
  repeat' split at h
  all_goals first | (cases h; subst_vars; decide) | cases h

theorem opOf_none {b : UInt8} {r : List UInt8} (h1 : ∀ c ∈ r, isDig c = true) (h2 : r ≠ [] ∨ isDig b = true) (h3 : isDig b = true ∨ b = 45 ∨ b = 118 ∨ b = 102) : opOf (b :: r) = none := by
  cases ho : opOf (b :: r) with
  | none => rfl
  | some op =>
    obtain ⟨e, g1, g2⟩ := word_opOf ho
    exfalso
    have h : op = 3 ∨ op = 4 ∨ op = 5 ∨ op = 6 ∨ op = 7 ∨ op = 8 ∨ op = 9 ∨ op = 10 := by omega
    have d : ∀ {x : UInt8}, x = b → ([] : List UInt8) = r → isDig x = false → False := by
      rintro x rfl rfl hx
      rcases h2 with h2 | h2
      · exact h2 rfl
      · rw [hx] at h2; cases h2
    rcases h with rfl | rfl | rfl | rfl | rfl | rfl | rfl | rfl
    case inr.inr.inr.inr.inr.inr.inl =>
      have e1 : (105 : UInt8) = b := (List.cons.inj e).1
      subst e1; revert h3; decide
    case inr.inr.inr.inr.inr.inr.inr =>
      have e1 : (114 : UInt8) = b := (List.cons.inj e).1
      subst e1; revert h3; decide
    all_goals exact d (List.cons.inj e).1 (List.cons.inj e).2 (by decide)

theorem dig_ne {b : UInt8} (h : isDig b = true) : b ≠ 118 ∧ b ≠ 102 ∧ b ≠ 45 ∧ b ≠ 32 := by
  refine ⟨?_, ?_, ?_, ?_⟩ <;> (rintro rfl; revert h; decide)

theorem numL_ne (n : Nat) : numL n ≠ [] := fun e => by have := numL_length_pos n; rw [e] at this; simp at this

theorem readTok_tokL {t : Token} (h : goodTok t) : readTok (tokL t) = some t := by
  obtain ⟨op, n⟩ := t
  unfold goodTok at h
  simp only at h
  rcases h with ⟨rfl, h1, h2⟩ | ⟨h | h, h1, h2⟩ | ⟨h1, h2, rfl⟩
  · by_cases hn : n < 0
    · have e : tokL (1, n) = 45 :: numL (-n).toNat := by simp [tokL, intL, hn]
      rw [e, readTok, opOf_none (numL_digs _) (.inl (numL_ne _)) (.inr (.inl rfl))]
      show (digs (numL (-n).toNat)).bind _ = _
      rw [digs_numL (by omega), Option.bind_some, if_pos (by omega)]
      congr 2; omega
    · have e : tokL (1, n) = numL n.toNat := by simp [tokL, intL, hn]
      have hd := numL_digs n.toNat
      have hr := digs_numL (n := n.toNat) (by omega)
      rw [e]
      match hq : numL n.toNat, numL_ne n.toNat with
      | b :: r, _ =>
        rw [hq] at hd hr
        have hb := hd b (by simp)
        have hne := dig_ne hb
        rw [readTok, opOf_none (fun c hc => hd c (by simp [hc])) (.inr hb) (.inl hb)]
        show plainTok (b :: r) = _
        rw [plainTok, if_neg hne.1, if_neg hne.2.1, if_neg hne.2.2.1, hr, Option.bind_some, if_pos (by omega)]
        congr 2; omega
  · subst h
    have e : tokL (2, n) = 118 :: numL n.toNat := by simp [tokL]
    rw [e, readTok, opOf_none (numL_digs _) (.inl (numL_ne _)) (.inr (.inr (.inl rfl)))]
    show (digs (numL n.toNat)).bind _ = _
    rw [digs_numL (by omega), Option.bind_some, if_pos (by omega)]
    congr 2; omega
  · subst h
    have e : tokL (11, n) = 102 :: numL n.toNat := by simp [tokL]
    rw [e, readTok, opOf_none (numL_digs _) (.inl (numL_ne _)) (.inr (.inr (.inr rfl)))]
    show (digs (numL n.toNat)).bind _ = _
    rw [digs_numL (by omega), Option.bind_some, if_pos (by omega)]
    congr 2; omega
  · have e : tokL (op, 0) = word op := by simp only [tokL]; rw [if_neg (by omega), if_neg (by omega), if_neg (by omega)]
    rw [e, readTok, opOf_word h1 h2]

theorem readTok_some {l : List UInt8} {t : Token} (h : readTok l = some t) : goodTok t ∧ tokL t = l := by
  rw [readTok] at h
  split at h
  · rename_i op ho
    cases h
    obtain ⟨e, h1, h2⟩ := word_opOf ho
    refine ⟨.inr (.inr ⟨h1, h2, rfl⟩), ?_⟩
    simp only [tokL]; rw [if_neg (by omega), if_neg (by omega), if_neg (by omega), e]
  · match l, h with
    | b :: r, h =>
      rw [plainTok] at h
      by_cases h1 : b = 118
      · rw [if_pos h1] at h; subst h1
        cases hd : digs r with
        | none => rw [hd] at h; cases h
        | some n =>
          rw [hd, Option.bind_some] at h
          split at h
          · cases h
            refine ⟨.inr (.inl ⟨.inl rfl, by simp, by simp; omega⟩), ?_⟩
            simp [tokL, (digs_some hd).1]
          · cases h
      rw [if_neg h1] at h
      by_cases h2 : b = 102
      · rw [if_pos h2] at h; subst h2
        cases hd : digs r with
        | none => rw [hd] at h; cases h
        | some n =>
          rw [hd, Option.bind_some] at h
          split at h
          · cases h
            refine ⟨.inr (.inl ⟨.inr rfl, by simp, by simp; omega⟩), ?_⟩
            simp [tokL, (digs_some hd).1]
          · cases h
      rw [if_neg h2] at h
      by_cases h3 : b = 45
      · rw [if_pos h3] at h; subst h3
        cases hd : digs r with
        | none => rw [hd] at h; cases h
        | some n =>
          rw [hd, Option.bind_some] at h
          split at h
          · rename_i hn
            cases h
            refine ⟨.inl ⟨rfl, by dsimp only; omega, by dsimp only; omega⟩, ?_⟩
            have e : (-(-(n : Int))).toNat = n := by omega
            simp only [tokL, intL, if_true]
            rw [if_pos (by omega), e, (digs_some hd).1]
          · cases h
      rw [if_neg h3] at h
      cases hd : digs (b :: r) with
      | none => rw [hd] at h; cases h
      | some n =>
        rw [hd, Option.bind_some] at h
        split at h
        · cases h
          refine ⟨.inl ⟨rfl, by dsimp only; omega, by dsimp only; omega⟩, ?_⟩
          simp only [tokL, intL, if_true]
          rw [if_neg (by omega), Int.toNat_natCast, (digs_some hd).1]
        · cases h

theorem tokL_blank {t : Token} (h : goodTok t) : (32 : UInt8) ∉ tokL t := by
  have hn : ∀ n, (32 : UInt8) ∉ numL n := fun n hm => (dig_ne (numL_digs n _ hm)).2.2.2 rfl
  obtain ⟨op, n⟩ := t
  unfold goodTok at h
  simp only at h
  rcases h with ⟨rfl, h1, h2⟩ | ⟨h | h, h1, h2⟩ | ⟨h1, h2, rfl⟩
  · by_cases h3 : n < 0
    · have e : tokL (1, n) = 45 :: numL (-n).toNat := by simp [tokL, intL, h3]
      rw [e, List.mem_cons]; rintro (h | h); · revert h; decide
      · exact hn _ h
    · have e : tokL (1, n) = numL n.toNat := by simp [tokL, intL, h3]
      rw [e]; exact hn _
  · subst h
    have e : tokL (2, n) = 118 :: numL n.toNat := by simp [tokL]
    rw [e, List.mem_cons]; rintro (h | h); · revert h; decide
    · exact hn _ h
  · subst h
    have e : tokL (11, n) = 102 :: numL n.toNat := by simp [tokL]
    rw [e, List.mem_cons]; rintro (h | h); · revert h; decide
    · exact hn _ h
  · have h : op = 3 ∨ op = 4 ∨ op = 5 ∨ op = 6 ∨ op = 7 ∨ op = 8 ∨ op = 9 ∨ op = 10 := by omega
    rcases h with rfl | rfl | rfl | rfl | rfl | rfl | rfl | rfl <;> decide

/-- The words between blanks. -/
def splitL : List UInt8 → List (List UInt8)
  | [] => [[]]
  | b :: r => if b = 32 then [] :: splitL r else match splitL r with | [] => [[b]] | w :: ws => (b :: w) :: ws

/-- Words with one blank between. -/
def joinL : List (List UInt8) → List UInt8
  | [] => []
  | [w] => w
  | w :: v :: ws => w ++ 32 :: joinL (v :: ws)

theorem splitL_ne (l : List UInt8) : splitL l ≠ [] := by
  cases l with
  | nil => simp [splitL]
  | cons b r => rw [splitL]; split; · simp
                split <;> simp

theorem joinL_splitL : ∀ l : List UInt8, joinL (splitL l) = l
  | [] => rfl
  | b :: r => by
    have ih := joinL_splitL r
    have hne := splitL_ne r
    rw [splitL]
    split
    · rename_i hb; subst hb
      match hq : splitL r, hne with
      | w :: ws, _ => rw [hq] at ih; rw [joinL, ih]; rfl
    · match hq : splitL r, hne with
      | [w], _ => rw [hq] at ih; show b :: w = _; rw [← ih]; rfl
      | w :: v :: ws, _ => rw [hq] at ih; show b :: (w ++ 32 :: joinL (v :: ws)) = _; rw [← ih]; rfl

theorem splitL_word : ∀ w : List UInt8, (32 : UInt8) ∉ w → splitL w = [w]
  | [], _ => rfl
  | b :: r, h => by
    rw [splitL, if_neg (fun e => h (by simp [e])), splitL_word r (fun e => h (by simp [e]))]

theorem splitL_blank : ∀ (w r : List UInt8), (32 : UInt8) ∉ w → splitL (w ++ 32 :: r) = w :: splitL r
  | [], r, _ => by rw [List.nil_append, splitL, if_pos rfl]
  | b :: w, r, h => by
    rw [List.cons_append, splitL, if_neg (fun e => h (by simp [e])), splitL_blank w r (fun e => h (by simp [e]))]

theorem splitL_joinL : ∀ ws : List (List UInt8), ws ≠ [] → (∀ w ∈ ws, (32 : UInt8) ∉ w) → splitL (joinL ws) = ws
  | [w], _, h => splitL_word w (h w (by simp))
  | w :: v :: ws, _, h => by
    rw [joinL, splitL_blank w _ (h w (by simp)), splitL_joinL (v :: ws) (by simp) (fun x hx => h x (by simp [List.mem_cons.1 hx]))]

/-- An expression's text. -/
def textL (e : List Token) : List UInt8 := joinL (e.map tokL)

/-- The tokens of words, where each word is one. -/
def readAll : List (List UInt8) → Option (List Token)
  | [] => some []
  | w :: ws => match readTok w with | none => none | some t => match readAll ws with | none => none | some e => some (t :: e)

/-- The expression that a text is of. -/
def readL (l : List UInt8) : Option (List Token) :=
  if 200 < l.length then none else match readAll (splitL l) with | none => none | some e => if 12 < e.length then none else some e

theorem readAll_map : ∀ e : List Token, (∀ t ∈ e, goodTok t) → readAll (e.map tokL) = some e
  | [], _ => rfl
  | t :: e, h => by
    rw [List.map_cons, readAll, readTok_tokL (h t (by simp)), readAll_map e (fun x hx => h x (by simp [hx]))]

theorem readAll_some : ∀ (ws : List (List UInt8)) (e : List Token), readAll ws = some e → (∀ t ∈ e, goodTok t) ∧ e.map tokL = ws
  | [], e, h => by cases h; simp
  | w :: ws, e, h => by
    rw [readAll] at h
    cases ht : readTok w with
    | none => rw [ht] at h; cases h
    | some t =>
      rw [ht] at h
      cases hr : readAll ws with
      | none => rw [hr] at h; cases h
      | some f =>
        rw [hr] at h; cases h
        obtain ⟨h1, h2⟩ := readTok_some ht
        obtain ⟨h3, h4⟩ := readAll_some ws f hr
        refine ⟨fun x hx => ?_, by rw [List.map_cons, h2, h4]⟩
        rcases List.mem_cons.1 hx with rfl | hx
        · exact h1
        · exact h3 x hx

theorem readL_textL {e : List Token} (h : ∀ t ∈ e, goodTok t) (h1 : 1 ≤ e.length) (h2 : e.length ≤ 12) (h3 : (textL e).length ≤ 200) : readL (textL e) = some e := by
  rw [readL, if_neg (by omega), textL, splitL_joinL _ (by intro q; have := congrArg List.length q; simp at this; subst this; simp at h1) (by
    intro w hw
    obtain ⟨t, ht, rfl⟩ := List.mem_map.1 hw
    exact tokL_blank (h t ht)), readAll_map e h]
  show (if 12 < e.length then none else some e) = _
  rw [if_neg (by omega)]

theorem readL_some {l : List UInt8} {e : List Token} (h : readL l = some e) : (∀ t ∈ e, goodTok t) ∧ 1 ≤ e.length ∧ e.length ≤ 12 ∧ textL e = l ∧ l.length ≤ 200 := by
  rw [readL] at h
  split at h
  · cases h
  · rename_i hl
    cases hr : readAll (splitL l) with
    | none => rw [hr] at h; cases h
    | some f =>
      rw [hr] at h
      simp only at h
      split at h
      · cases h
      · rename_i hf
        cases h
        obtain ⟨h1, h2⟩ := readAll_some _ _ hr
        refine ⟨h1, ?_, by omega, by rw [textL, h2, joinL_splitL], by omega⟩
        have := congrArg List.length h2
        have h3 := splitL_ne l
        have h4 : (splitL l).length ≠ 0 := fun q => h3 (List.length_eq_zero_iff.1 q)
        simp at this; omega

end Go.Proofs.YtpbkkjiikhjanaaGreatDoor.Exs

/-
  Plain mathematics on expressions: what a token takes, how high the pile is, what an expression comes to. No program is imported here.
-/
namespace Go.Proofs.YtpbkkjiikhjanaaGreatDoor.Exs
open Go.RowKit

/-- Whether a token is one, with a variable and a function that are there. -/
def known (vars : Int) (ps : List Int) (t : Token) : Prop := goodTok t ∧ (t.1 = 2 → t.2 < vars) ∧ (t.1 = 11 → t.2 < ps.length)

instance (vars : Int) (ps : List Int) (t : Token) : Decidable (known vars ps t) := by unfold known; infer_instance

/-- How many numbers a token takes. -/
def needs (ps : List Int) (t : Token) : Int := if 3 ≤ t.1 ∧ t.1 ≤ 8 then 2 else if t.1 = 11 then ps.getD t.2.toNat 0 else 0

/-- Whether params are so. -/
def okParams (ps : List Int) : Prop := ps.length ≤ 5 ∧ ∀ x ∈ ps, 0 ≤ x ∧ x ≤ 2

instance (ps : List Int) : Decidable (okParams ps) := by unfold okParams; infer_instance

/-- The pile's height behind all tokens, and the greatest one on the way, from a height and a greatest one. -/
def pile (vars : Int) (ps : List Int) : List Token → Int → Int → Option (Int × Int)
  | [], p, m => some (p, m)
  | t :: r, p, m => if known vars ps t ∧ needs ps t ≤ p then pile vars ps r (p + 1 - needs ps t) (max m (p + 1 - needs ps t)) else none

/-- The greatest height of a good expression, -1 of another one. -/
def high (vars : Int) (ps : List Int) (e : List Token) : Int :=
  match pile vars ps e 0 0 with | some (p, m) => if p = 1 ∧ e.length ≤ 12 then m else -1 | none => -1

theorem pile_cons {vars : Int} {ps : List Int} {t : Token} {r : List Token} {p m : Int} {q : Int × Int} (h : pile vars ps (t :: r) p m = some q) :
    known vars ps t ∧ needs ps t ≤ p ∧ pile vars ps r (p + 1 - needs ps t) (max m (p + 1 - needs ps t)) = some q := by
  rw [pile] at h
  split at h
  · rename_i hc; exact ⟨hc.1, hc.2, h⟩
  · cases h

theorem getD_range {ps : List Int} (h : ∀ x ∈ ps, 0 ≤ x ∧ x ≤ 2) (k : Nat) : 0 ≤ ps.getD k 0 ∧ ps.getD k 0 ≤ 2 := by
  by_cases hk : k < ps.length
  · rw [List.getD_eq_getElem?_getD, List.getElem?_eq_getElem hk]; exact h _ (List.getElem_mem hk)
  · rw [List.getD_eq_getElem?_getD, List.getElem?_eq_none (by omega)]; simp

theorem needs_range {ps : List Int} (h : ∀ x ∈ ps, 0 ≤ x ∧ x ≤ 2) (t : Token) : 0 ≤ needs ps t ∧ needs ps t ≤ 2 := by
  unfold needs
  split
  · omega
  · split
    · exact getD_range h _
    · omega

theorem pile_most {vars : Int} {ps : List Int} (h : ∀ x ∈ ps, 0 ≤ x ∧ x ≤ 2) : ∀ (e : List Token) (p m : Int) (q : Int × Int), 0 ≤ p → p ≤ m → pile vars ps e p m = some q →
    0 ≤ q.1 ∧ q.1 ≤ q.2 ∧ m ≤ q.2 ∧ (q.2 ≤ m ∨ q.2 ≤ p + e.length)
  | [], p, m, q, h0, h1, hq => by cases hq; exact ⟨h0, h1, Int.le_refl _, .inl (Int.le_refl _)⟩
  | t :: r, p, m, q, h0, h1, hq => by
    obtain ⟨_, hn, hr⟩ := pile_cons hq
    have hg := needs_range h t
    obtain ⟨a, b, c, d⟩ := pile_most h r _ _ q (by omega) (Int.le_max_right _ _) hr
    refine ⟨a, b, by omega, ?_⟩
    simp only [List.length_cons]
    omega

theorem high_pos {vars : Int} {ps : List Int} (h : ∀ x ∈ ps, 0 ≤ x ∧ x ≤ 2) {e : List Token} (hh : 0 < high vars ps e) :
    pile vars ps e 0 0 = some (1, high vars ps e) ∧ e.length ≤ 12 ∧ 1 ≤ e.length ∧ high vars ps e ≤ e.length := by
  unfold high at hh ⊢
  cases hq : pile vars ps e 0 0 with
  | none => rw [hq] at hh; simp at hh
  | some q =>
    obtain ⟨p, m⟩ := q
    rw [hq] at hh
    simp only at hh ⊢
    split at hh
    · rename_i hc
      rw [if_pos hc]
      have := pile_most h e 0 0 _ (by omega) (by omega) hq
      simp only at this
      refine ⟨by rw [hc.1], hc.2, ?_, by omega⟩
      match e, hq, hc with
      | [], hq, hc => cases hq; have := hc.1; omega
      | _ :: _, _, _ => simp
    · omega

theorem high_neg {vars : Int} {ps : List Int} (h : ∀ x ∈ ps, 0 ≤ x ∧ x ≤ 2) {e : List Token} (hh : ¬ 0 < high vars ps e) : high vars ps e = -1 := by
  unfold high at hh ⊢
  cases hq : pile vars ps e 0 0 with
  | none => rfl
  | some q =>
    obtain ⟨p, m⟩ := q
    rw [hq] at hh
    simp only at hh ⊢
    split at hh
    · rename_i hc
      have := pile_most h e 0 0 _ (by omega) (by omega) hq
      simp only at this
      omega
    · rename_i hc; rw [if_neg hc]

/-- Whether an expression is good. -/
def goodExpr (e : List Token) (vars : Int) (ps : List Int) : Prop := 0 ≤ vars ∧ vars ≤ 6 ∧ okParams ps ∧ 0 < high vars ps e

instance (e : List Token) (vars : Int) (ps : List Int) : Decidable (goodExpr e vars ps) := by unfold goodExpr; infer_instance

theorem wrap32_range (n : Int) : -2147483648 ≤ wrap32 n ∧ wrap32 n ≤ 2147483647 := by unfold wrap32; omega

theorem wrap32_in {n : Int} (h0 : -2147483648 ≤ n) (h1 : n ≤ 2147483647) : wrap32 n = n := by unfold wrap32; omega

theorem wrap32_apart (n : Int) : (n - wrap32 n) % 4294967296 = 0 := by unfold wrap32; omega

/-- What an op puts of two numbers, nothing of x / 0. -/
def reckon (op x y : Int) : Option Int :=
  if op = 3 then some (wrap32 (x + y)) else if op = 4 then some (wrap32 (x - y)) else if op = 5 then some (wrap32 (x * y))
  else if op = 6 then (if y = 0 then none else some (wrap32 (x.tdiv y))) else if op = 7 then some (if x < y then 1 else 0) else some (if x = y then 1 else 0)

theorem reckon_range {op x y n : Int} (h : reckon op x y = some n) : -2147483648 ≤ n ∧ n ≤ 2147483647 := by
  unfold reckon at h
  repeat' split at h
  all_goals first | (cases h; exact wrap32_range _) | (cases h; omega) | (cases h)

theorem reckon_none {op x y : Int} (h : reckon op x y = none) : op = 6 ∧ y = 0 := by
  unfold reckon at h
  repeat' split at h
  all_goals first | (cases h; done) | exact ⟨by assumption, by assumption⟩

/-- What tokens make of a pile, the top first: nothing where x / 0 is met. -/
def eval (env : List Int) : List Token → List Int → Option (List Int)
  | [], st => some st
  | t :: r, st =>
    if t.1 = 1 then eval env r (t.2 :: st) else if t.1 = 2 then eval env r (env.getD t.2.toNat 0 :: st)
    else match st with
      | y :: x :: st => match reckon t.1 x y with | some n => eval env r (n :: st) | none => none
      | _ => none

/-- Whether a token takes no input, recovers nothing and calls nothing. -/
def pureTok (t : Token) : Prop := t.1 ≠ 9 ∧ t.1 ≠ 10 ∧ t.1 ≠ 11

theorem known_pure {vars : Int} {t : Token} (h : known vars [] t) : t.1 ≠ 11 := by
  obtain ⟨h1, _, h3⟩ := h
  intro e
  have := h3 e
  unfold goodTok at h1
  simp at this
  omega

theorem needs_pure {vars : Int} {t : Token} (h : known vars [] t) (h9 : t.1 ≠ 9) (h10 : t.1 ≠ 10) : (needs [] t = 0 ∧ (t.1 = 1 ∨ t.1 = 2)) ∨ (needs [] t = 2 ∧ 3 ≤ t.1 ∧ t.1 ≤ 8) := by
  have h11 := known_pure h
  have hg := h.1
  unfold goodTok at hg
  by_cases hc : 3 ≤ t.1 ∧ t.1 ≤ 8
  · exact .inr ⟨by rw [needs, if_pos hc], hc.1, hc.2⟩
  · exact .inl ⟨by rw [needs, if_neg hc, if_neg h11], by omega⟩

end Go.Proofs.YtpbkkjiikhjanaaGreatDoor.Exs

/-
  Contracts of the small functions on numbers and tokens, of the program and of the reference.
-/
namespace Go.Proofs.YtpbkkjiikhjanaaGreatDoor
open Go.RowKit Exs

theorem ret_bool {a b : Bool} (h : a = b) : Ending.returned (.bool a) = .returned (.bool b) := by rw [h]
theorem wrap64_wrap32 (n : Int) : wrap64 (wrap32 n) = wrap32 n := by
  have := wrap32_range n
  unfold wrap64; omega

/-- Whether a number is within bounds. -/
def within (n lo hi : Int) : Bool := decide (lo ≤ n ∧ n ≤ hi)
/-- Whether a number is one of 32 bits. -/
def bound (n : Int) : Bool := within n (-2147483648) 2147483647

theorem bound_iff (n : Int) : bound n = true ↔ -2147483648 ≤ n ∧ n ≤ 2147483647 := by simp [bound, within]
theorem bound_wrap (n : Int) : (wrap32 n == n) = bound n := by
  rw [Bool.eq_iff_iff, bound_iff, beq_iff_eq]
  unfold wrap32; omega

set_option maxHeartbeats 400000 in
theorem l1In_any (n lo hi : Int) (w : World) : Calls Tryz.prog 28 #[.int .i64 n, .int .i64 lo, .int .i64 hi] w fun e w' => e = .returned (.bool (within n lo hi)) ∧ w = w' := by
  go_enter Tryz.func28, Tryz.ntmps28
  go_wp2
  all_goals go_ret
  all_goals exact ⟨ret_bool (by rw [Bool.eq_iff_iff]; simp [within]; omega), rfl⟩

set_option maxHeartbeats 400000 in
theorem l2Bound_any (n : Int) (w : World) : Calls Tryz.prog 78 #[.int .i64 n] w fun e w' => e = .returned (.bool (bound n)) ∧ w = w' := by
  go_enter Tryz.func78, Tryz.ntmps78
  go_wp2_with fail
  refine (l1In_any n _ _ _).mono ?_
  rintro e w1 ⟨rfl, rfl⟩
  go_wp2
  go_ret
  exact ⟨rfl, rfl⟩

/-- Whether a token has the form of one. -/
def tokB (op n : Int) : Bool := decide (goodTok (op, n))

theorem tokB_iff (op n : Int) : tokB op n = true ↔ (op = 1 ∧ -2147483648 ≤ n ∧ n ≤ 2147483647) ∨ ((op = 2 ∨ op = 11) ∧ 0 ≤ n ∧ n ≤ 99) ∨ (3 ≤ op ∧ op ≤ 10 ∧ n = 0) := by
  unfold tokB; rw [decide_eq_true_eq]; rfl
theorem within_iff (n lo hi : Int) : within n lo hi = true ↔ lo ≤ n ∧ n ≤ hi := by simp [within]

/-- One where it is so. -/
def one (b : Bool) : Int := if b then 1 else 0

/-- What is reckoned, ahead of any wrap. -/
def plainRk (op x y : Int) : Int := if op = 3 then x + y else if op = 4 then x - y else if op = 5 then x * y else if op = 6 then x.tdiv y else if op = 7 then one (decide (x < y)) else one (x == y)

theorem mul_bound {x y : Int} (hx : -2147483648 ≤ x ∧ x ≤ 2147483647) (hy : -2147483648 ≤ y ∧ y ≤ 2147483647) : -4611686018427387904 ≤ x * y ∧ x * y ≤ 4611686018427387904 := by
  have h := Int.natAbs_mul x y
  have h1 : x.natAbs ≤ 2147483648 := by omega
  have h2 : y.natAbs ≤ 2147483648 := by omega
  have h3 : x.natAbs * y.natAbs ≤ 2147483648 * 2147483648 := Nat.mul_le_mul h1 h2
  rw [← h] at h3
  omega
theorem tdiv_bound {x y : Int} (hx : -2147483648 ≤ x ∧ x ≤ 2147483647) : -2147483648 ≤ x.tdiv y ∧ x.tdiv y ≤ 2147483648 := by
  have h := Int.natAbs_tdiv x y
  have h1 : x.natAbs.div y.natAbs ≤ x.natAbs := Nat.div_le_self _ _
  rw [← h] at h1
  omega

/-- What an op puts of two numbers within bounds, and whether it is told. -/
def rk (op x y : Int) : Int × Bool := if op = 6 ∧ y = 0 then (0, false) else (wrap32 (plainRk op x y), true)
/-- What Reckon answers. -/
def rkAns (op x y : Int) : Int × Bool × Bool := if within op 3 8 && bound x && bound y then ((rk op x y).1, (rk op x y).2, true) else (0, false, false)

theorem rk_div {x : Int} : rk 6 x 0 = (0, false) := rfl
theorem rk_other {op x y : Int} (h : op = 6 → y ≠ 0) : rk op x y = (wrap32 (plainRk op x y), true) := by
  unfold rk
  rw [if_neg (fun h1 => h h1.1 h1.2)]

theorem ret3 {a a' : Int} {b b' c c' : Bool} (h : (a, b, c) = (a', b', c')) : Ending.returned (.tuple #[.int .i64 a, .bool b, .bool c]) = .returned (.tuple #[.int .i64 a', .bool b', .bool c']) := by cases h; rfl
theorem ret2 {a a' : Int} {b b' : Bool} (h : (a, b) = (a', b')) : Ending.returned (.tuple #[.int .i64 a, .bool b]) = .returned (.tuple #[.int .i64 a', .bool b']) := by cases h; rfl

end Go.Proofs.YtpbkkjiikhjanaaGreatDoor

/-
  Slices of tokens that are read, and the laws' own functions on tokens and on lists of ints.
-/
namespace Go.Proofs.YtpbkkjiikhjanaaGreatDoor
open Go.RowKit Exs

/-- The cells of some tokens. -/
def flat (ts : List Token) : List Int := ts.flatMap fun t => [t.1, t.2]

theorem flat_length (ts : List Token) : (flat ts).length = 2 * ts.length := by
  induction ts with
  | nil => rfl
  | cons t r ih => simp only [flat, List.flatMap_cons, List.length_append, List.length_cons, List.length_nil] at *; omega
theorem flat_at : ∀ {ts : List Token} {j : Nat} {t : Token}, ts[j]? = some t → (flat ts)[2 * j]? = some t.1 ∧ (flat ts)[2 * j + 1]? = some t.2
  | [], _, _, h => by simp at h
  | a :: r, 0, t, h => by simp at h; subst h; exact ⟨rfl, rfl⟩
  | a :: r, j + 1, t, h => by
    have := flat_at (ts := r) (j := j) (t := t) (by simpa using h)
    rw [show 2 * (j + 1) = 2 * j + 1 + 1 by omega]
    simpa [flat] using this
theorem flat_snoc (ts : List Token) (t : Token) : flat (ts ++ [t]) = flat ts ++ [t.1] ++ [t.2] := by simp [flat]

/-- The slice value '.slice A n c' reads as the tokens ts, and lies below block B. -/
def ReadsT (w : World) (B : Nat) (A : Option Addr) (n : Nat) (ts : List Token) : Prop := ts.length = n ∧ Reads w B .i64 A (2 * n) (flat ts)

section
variable {w w' : World} {B B' : Nat} {A : Option Addr} {n : Nat} {ts : List Token}
theorem ReadsT.below (h : ReadsT w B A n ts) (hb : Below B w w') : ReadsT w' B A n ts := ⟨h.1, h.2.below hb⟩
theorem ReadsT.more (h : ReadsT w B A n ts) (hB : B ≤ B') : ReadsT w B' A n ts := ⟨h.1, h.2.more hB⟩
theorem ReadsT.at_ (h : ReadsT w B A n ts) {j : Nat} (hj : j < n) : ∃ b off op x, A = some ⟨b, off, none⟩ ∧ b < B ∧ w.cell? ⟨b, off + j * 2, none⟩ = some (.int .i64 op) ∧ w.cell? ⟨b, off + j * 2 + 1, none⟩ = some (.int .i64 x) ∧ Hid (ts[j]? = some (op, x)) := by
  obtain ⟨b, off, rfl, hb, hc⟩ := h.2.2 (by omega)
  have hl : j < ts.length := by rw [h.1]; exact hj
  have hx := flat_at (List.getElem?_eq_getElem hl)
  refine ⟨b, off, ts[j].1, ts[j].2, rfl, hb, ?_, ?_, List.getElem?_eq_getElem hl⟩
  · rw [Nat.mul_comm]; exact hc _ _ hx.1
  · rw [Nat.mul_comm, Nat.add_assoc]; exact hc _ _ hx.2
end

/-- A cell that is known stays known while memory grows. -/
theorem cell_regrown {w : World} {p : Addr} {v : Value} (h : w.cell? p = some v) (d : Nat) (os : Array Obj) : (Sort.grow (redrawn w d) os).cell? p = some v :=
  ((below_regrown w d os).cell (World.block_lt_of_cell? w _ h)).trans h

theorem takeT_more {ts : List Token} {k : Nat} {t : Token} (h : ts[k]? = some t) : ts.take (k + 1) = ts.take k ++ [t] := by
  rw [List.take_add_one, h]; rfl

set_option maxHeartbeats 400000 in
theorem toTok_any (op n : Int) (w : World) : Calls Tryz.prog 111 #[.agg #[.int .i64 op, .int .i64 n]] w fun e w' => e = .returned (.agg #[.int .i64 op, .int .i64 n]) ∧ Below w.heap.size w w' := by
  go_enter Tryz.func111, Tryz.ntmps111
  go_wp2
  exact bodyPost_ret (v := .agg #[.int .i64 op, .int .i64 n]) (by simp [results, Tryz.results111, go_sem]) rfl ⟨rfl, (((Below.refl _ _).alloc (Nat.le_refl _) _).alloc (by simp) _).alloc (by simp; omega) _⟩

theorem Tryz.info3 : (Tryz.prog.info? 3).map (fun i => (i.zero, i.size, i.bytes)) = some (some (.int .i64 0), 1, 8) := by kernel_rfl

set_option maxHeartbeats 400000 in
set_option maxRecDepth 100000 in
theorem toInts_any (A : Option Addr) (n c : Nat) (xs : List Int) (w : World) (hr : Reads w w.heap.size .i64 A n xs) (hn : n ≤ 1048576) :
    Calls Tryz.prog 32 #[.slice A n c] w fun e w' => e = .returned (.slice (some ⟨w.heap.size, 0, none⟩) n n) ∧ Room w' w.heap.size 3 n .i64 xs ∧ Below w.heap.size w w' := by
  have hmk := fun W => run_make_row' (P := Tryz.prog) 26 3 (.int .i64 0) 8 Tryz.underlying26 Tryz.info3 rfl .i64 .i64 n (by omega) (by omega) W
  go_enter Tryz.func32, Tryz.ntmps32
  go_wp2
  go_loopw [4] (fun i wr => ∃ k : Nat, k ≤ n ∧ i = .int .i64 k ∧ Room wr w.heap.size 3 n .i64 (xs.take k) ∧ Below w.heap.size w wr) (fun i _ => n - (intOf i).toNat)
  case atStart => exact ⟨0, Nat.zero_le _, rfl, Room.made w 3 n .i64, (Below.refl _ _).alloc (Nat.le_refl _) _⟩
  case round =>
    obtain ⟨k, hk, rfl, hroom, hbel⟩ := hrel
    clear hmk
    by_cases hlt : k < n
    · obtain ⟨b, off, x, rfl, hb, hc, hx⟩ := (hr.below hbel).at_ hlt
      obtain ⟨c0, hc0⟩ := hroom.at_ k hlt
      have hfr := hroom.frozen k
      have hlen : (xs.take k).length = k := by rw [List.length_take, hr.1]; omega
      have hpush := hroom.push (by rw [hlen]; exact hlt) x
      rw [hlen, ← take_more hx.out] at hpush
      have HP := put hpush; clear hpush hlen
      go_wp2
      go_roundw
      case rel => exact ⟨k + 1, by omega, by go_num, HP.out, hbel.setCell (by simp) _⟩
      case measure => simp [intOf]; omega
    · have hfin := put (show xs.take k = xs from List.take_of_length_le (by rw [hr.1]; omega))
      go_wp2
      go_ret
      exact ⟨rfl, by rw [hfin.out] at hroom; exact hroom, hbel⟩

set_option maxHeartbeats 400000 in
set_option maxRecDepth 100000 in
theorem eqInts_same (A A' : Option Addr) (n c c' : Nat) (xs : List Int) (w : World) (hr : Reads w w.heap.size .i64 A n xs) (hr' : Reads w w.heap.size .i64 A' n xs) (hn : n ≤ 1048576) :
    Calls Tryz.prog 39 #[.slice A n c, .slice A' n c'] w fun e w' => e = .returned (.bool true) ∧ ∃ q, w' = w.drewN q := by
  go_enter Tryz.func39, Tryz.ntmps39
  go_wp2
  go_loopw [5] (fun i wr => ∃ k q : Nat, k ≤ n ∧ i = .int .i64 k ∧ wr = w.drewN q) (fun i _ => n - (intOf i).toNat)
  case atStart => exact ⟨0, 0, Nat.zero_le _, rfl, rfl⟩
  case round =>
    obtain ⟨k, q, hk, rfl, rfl⟩ := hrel
    by_cases hlt : k < n
    · obtain ⟨b, off, x, rfl, hb, hc, hx⟩ := hr.at_ hlt
      obtain ⟨b', off', x', rfl, hb', hc', hx'⟩ := hr'.at_ hlt
      obtain rfl : x = x' := by have := hx.out; rw [hx'.out] at this; injection this with this; exact this.symm
      go_wp2
      go_quiet (fail)
      go_wp2
      go_roundw
      case rel => exact ⟨k + 1, _, by omega, by go_num, rfl⟩
      case measure => simp [intOf]; omega
    · go_wp2
      go_ret
      exact ⟨rfl, _, rfl⟩

set_option maxHeartbeats 400000 in
theorem szToks_few (A : Option Addr) (n c : Nat) (w : World) (hn : n ≤ 1048576) : Calls Tryz.prog 73 #[.slice A n c, .int .i64 1048576] w fun e w' => e = .returned (.int .i64 (1048576 - n)) ∧ w = w' := by
  go_enter Tryz.func73, Tryz.ntmps73
  go_wp2
  go_ret
  exact ⟨rfl, rfl⟩
set_option maxHeartbeats 400000 in
theorem szToks_many (A : Option Addr) (n c : Nat) (w : World) (hn : 1048576 < n) (hm : n ≤ 9223372036854775807) : Calls Tryz.prog 73 #[.slice A n c, .int .i64 1048576] w fun e w' => e = .returned (.int .i64 (-1)) ∧ w = w' := by
  go_enter Tryz.func73, Tryz.ntmps73
  go_wp2
  go_ret
  exact ⟨rfl, rfl⟩

/-- 'make([]T, n)', T of some cells. -/
theorem run_make_rows {P : Program} (t e : TypeId) (z : Value) (size bytes : Nat) (ht : P.underlying t = some (.slice e)) (hinfo : (P.info? e).map (fun i => (i.zero, i.size, i.bytes)) = some (some z, size, bytes))
    (n : Nat) (hbytes : bytes * n ≤ 281474976710656) (h63 : n ≤ 9223372036854775807) (w : World) :
    (Instr.makeSlice t (.int .i64 (n : Int)) (.int .i64 (n : Int))).run P w = .ok (.slice (some ⟨w.heap.size, 0, none⟩) n n) (w.alloc (.cells (madeCells z.cells (n * size)) e)) := by
  obtain ⟨i, hi, hz, hs, hb⟩ := info_parts hinfo
  subst hs; subst hb
  have hb : (i.bytes : Int) * (n : Int) ≤ 281474976710656 := by
    have h : ((i.bytes * n : Nat) : Int) ≤ 281474976710656 := by omega
    rwa [Int.natCast_mul] at h
  have hr := run_make (P := P) w t e i z ht hi hz .i64 .i64 n n (by omega) (by omega) hb (by omega)
  simp only [Int.toNat_natCast] at hr
  exact hr

theorem Tryz.info129 : (Tryz.prog.info? 129).map (fun i => (i.zero, i.size, i.bytes)) = some (some (.agg #[.int .i64 0, .int .i64 0]), 2, 16) := by kernel_rfl

/-- Rows of cells that hold numbers, made of tokens. -/
theorem Room.madeT (w : World) (t : TypeId) (n : Nat) (z : Array Value) (m : Nat) (hm : m = n * 2) : Room (w.alloc (.cells (madeCells z m) t)) w.heap.size t (2 * n) .i64 (flat []) :=
  ⟨_, heap_alloc_new _ _, by rw [size_madeCells]; omega, rfl⟩
theorem Room.pushT {w : World} {g : Nat} {t : TypeId} {n : Nat} {ts : List Token} (h : Room w g t (2 * n) .i64 (flat ts)) (hc : ts.length < n) (op x : Int) :
    Room ((w.setCell ⟨g, ts.length * 2, none⟩ (.int .i64 op)).setCell ⟨g, ts.length * 2 + 1, none⟩ (.int .i64 x)) g t (2 * n) .i64 (flat (ts ++ [(op, x)])) := by
  have hl := flat_length ts
  have h1 := h.push (by omega) op
  have h2 := h1.push (by simp; omega) x
  rw [List.length_append, hl] at h2
  rw [flat_snoc]
  simpa [Nat.mul_comm] using h2
theorem Room.readsT {w : World} {g : Nat} {t : TypeId} {n : Nat} {ts : List Token} (h : Room w g t (2 * n) .i64 (flat ts)) (hn : ts.length = n) : ReadsT w w.heap.size (some ⟨g, 0, none⟩) n ts :=
  ⟨hn, h.reads (by rw [flat_length, hn])⟩

set_option maxHeartbeats 400000 in
set_option maxRecDepth 100000 in
theorem toToks_any (A : Option Addr) (n c : Nat) (ts : List Token) (w : World) (hr : ReadsT w w.heap.size A n ts) (hn : n ≤ 1048576) :
    Calls Tryz.prog 82 #[.slice A n c] w fun e w' => e = .returned (.slice (some ⟨w.heap.size, 0, none⟩) n n) ∧ Room w' w.heap.size 129 (2 * n) .i64 (flat ts) ∧ Below w.heap.size w w' := by
  have hmk := fun W => run_make_rows (P := Tryz.prog) 79 129 (.agg #[.int .i64 0, .int .i64 0]) 2 16 Tryz.underlying79 Tryz.info129 n (by omega) (by omega) W
  go_enter Tryz.func82, Tryz.ntmps82
  go_wp2
  go_loopw [4] (fun i wr => ∃ k : Nat, k ≤ n ∧ i = .int .i64 k ∧ Room wr w.heap.size 129 (2 * n) .i64 (flat (ts.take k)) ∧ Below w.heap.size w wr) (fun i _ => n - (intOf i).toNat)
  case atStart => exact ⟨0, Nat.zero_le _, rfl, Room.madeT w 129 n _ _ rfl, (Below.refl _ _).alloc (Nat.le_refl _) _⟩
  case round =>
    obtain ⟨k, hk, rfl, hroom, hbel⟩ := hrel
    clear hmk
    by_cases hlt : k < n
    · obtain ⟨b, off, op, x, rfl, hb, hc, hc', hx⟩ := (hr.below hbel).at_ hlt
      go_wp2_with fail
      refine (toTok_any op x _).mono ?_
      rintro e w1 ⟨rfl, hb1⟩
      have hroom1 := hroom.below hb1 hroom.lt
      have hbel1 : Below w.heap.size w w1 := hbel.trans (hb1.mono hbel.size)
      obtain ⟨c0, hc0⟩ := hroom1.at_ (k * 2) (by omega)
      obtain ⟨c1, hc1⟩ := hroom1.at_ (k * 2 + 1) (by omega)
      have hf0 := hroom1.frozen (k * 2)
      have hf1 := hroom1.frozen (k * 2 + 1)
      have hlen : (ts.take k).length = k := by rw [List.length_take, hr.1]; omega
      have hpush := hroom1.pushT (by rw [hlen]; exact hlt) op x
      rw [hlen, ← takeT_more hx.out] at hpush
      have HP := put hpush; clear hpush hlen hc hc' hb1
      go_wp2
      go_roundw
      case rel => exact ⟨k + 1, by omega, by go_num, HP.out, (hbel1.setCell (by simp) _).setCell (by simp) _⟩
      case measure => simp [intOf]; omega
    · have hfin := put (show ts.take k = ts from List.take_of_length_le (by rw [hr.1]; omega))
      go_wp2
      go_ret
      exact ⟨rfl, by rw [hfin.out] at hroom; exact hroom, hbel⟩

set_option maxHeartbeats 400000 in
theorem eqTok_same (op x : Int) (w : World) : Calls Tryz.prog 123 #[.agg #[.int .i64 op, .int .i64 x], .agg #[.int .i64 op, .int .i64 x]] w fun e w' => e = .returned (.bool true) ∧ Below w.heap.size w w' := by
  go_enter Tryz.func123, Tryz.ntmps123
  go_wp2
  go_ret
  exact ⟨rfl, ((Below.refl _ _).alloc (Nat.le_refl _) _).alloc (by simp) _⟩

set_option maxHeartbeats 400000 in
set_option maxRecDepth 100000 in
theorem eqToks_same (A A' : Option Addr) (n c c' : Nat) (ts : List Token) (w : World) (hr : ReadsT w w.heap.size A n ts) (hr' : ReadsT w w.heap.size A' n ts) (hn : n ≤ 1048576) :
    Calls Tryz.prog 96 #[.slice A n c, .slice A' n c'] w fun e w' => e = .returned (.bool true) ∧ Below w.heap.size w w' := by
  go_enter Tryz.func96, Tryz.ntmps96
  go_wp2
  go_loopw [5] (fun i wr => ∃ k : Nat, k ≤ n ∧ i = .int .i64 k ∧ Below w.heap.size w wr) (fun i _ => n - (intOf i).toNat)
  case atStart => exact ⟨0, Nat.zero_le _, rfl, Below.refl _ _⟩
  case round =>
    obtain ⟨k, hk, rfl, hbel⟩ := hrel
    by_cases hlt : k < n
    · obtain ⟨b, off, op, x, rfl, hb, hc1, hc2, hx⟩ := (hr.below hbel).at_ hlt
      obtain ⟨b', off', op', x', rfl, hb', hc1', hc2', hx'⟩ := (hr'.below hbel).at_ hlt
      obtain ⟨rfl, rfl⟩ : op = op' ∧ x = x' := by have := hx.out; rw [hx'.out] at this; injection this with this; injection this with a b; exact ⟨a.symm, b.symm⟩
      have g1 := cell_regrown hc1
      have g2 := cell_regrown hc2
      have g3 := cell_regrown hc1'
      have g4 := cell_regrown hc2'
      go_wp2
      refine wp_region_quiet_below (by kernel_rfl) (by kernel_rfl) ?_
      repeat (first | go_big_quiet_step ((go_at_call 123; exact Calls.regrown_of (eqTok_same op x _))) | quiet_step (fail))
      refine wpQuiet_nil ?_
      intro _ hw'
      obtain ⟨⟨dq, osq⟩, hw''⟩ := hw'
      subst hw''
      go_wp2
      go_roundw
      case rel => exact ⟨k + 1, by omega, by go_num, hbel.trans ((below_regrown wr dq osq).mono hbel.size)⟩
      case measure => simp [intOf]; omega
    · go_wp2
      go_ret
      exact ⟨rfl, hbel⟩

end Go.Proofs.YtpbkkjiikhjanaaGreatDoor

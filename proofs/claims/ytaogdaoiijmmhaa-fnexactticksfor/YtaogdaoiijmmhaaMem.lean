/-
  Slices of numbers that are read: what the walks of this seat share. Over any program.
-/
import Derived.Test.YtaogdaoiijmmhaaKit
import Derived.Deep.OwnRows
import Derived.Laws.CopyOwn
namespace Go.Proofs.Ytaogdaoiijmmhaa
open Go.RowKit

/-- The slice value '.slice A n c' reads as the numbers xs of kind k, and lies below block B. -/
def Reads (w : World) (B : Nat) (k : IntKind) (A : Option Addr) (n : Nat) (xs : List Int) : Prop :=
  xs.length = n ∧ (0 < n → ∃ b off, A = some ⟨b, off, none⟩ ∧ b < B ∧ ∀ j x, xs[j]? = some x → w.cell? ⟨b, off + j, none⟩ = some (.int k x))

section
variable {w w' : World} {B B' : Nat} {k : IntKind} {A : Option Addr} {n : Nat} {xs : List Int}
theorem Reads.below (h : Reads w B k A n xs) (hb : Below B w w') : Reads w' B k A n xs :=
  ⟨h.1, fun hn => by
    obtain ⟨b, off, rfl, hB, hc⟩ := h.2 hn
    exact ⟨b, off, rfl, hB, fun j x hx => (hb.cell (p := ⟨b, off + j, none⟩) hB).trans (hc j x hx)⟩⟩
theorem Reads.more (h : Reads w B k A n xs) (hB : B ≤ B') : Reads w B' k A n xs :=
  ⟨h.1, fun hn => by
    obtain ⟨b, off, rfl, hb, hc⟩ := h.2 hn
    exact ⟨b, off, rfl, by omega, hc⟩⟩
theorem Reads.at_ (h : Reads w B k A n xs) {j : Nat} (hj : j < n) : ∃ b off x, A = some ⟨b, off, none⟩ ∧ b < B ∧ w.cell? ⟨b, off + j, none⟩ = some (.int k x) ∧ Hid (xs[j]? = some x) := by
  obtain ⟨b, off, rfl, hb, hc⟩ := h.2 (by omega)
  have hl : j < xs.length := by rw [h.1]; exact hj
  exact ⟨b, off, xs[j], rfl, hb, hc j _ (List.getElem?_eq_getElem hl), List.getElem?_eq_getElem hl⟩
end

theorem Room.reads {w : World} {g : Nat} {t : TypeId} {n : Nat} {k : IntKind} {xs : List Int} (h : Room w g t n k xs) (hn : xs.length = n) : Reads w w.heap.size k (some ⟨g, 0, none⟩) n xs :=
  ⟨hn, fun _ => ⟨g, 0, rfl, h.lt, fun j x hx => by
    have hj : j < xs.length := (List.getElem?_eq_some_iff.1 hx).1
    rw [Nat.zero_add, h.cell j hj]
    simp [List.getD, hx]⟩⟩
theorem Room.below {w w' : World} {g B : Nat} {t : TypeId} {n : Nat} {k : IntKind} {xs : List Int} (h : Room w g t n k xs) (hb : Below B w w') (hg : g < B) : Room w' g t n k xs := by
  obtain ⟨cs, h1, h2, h3⟩ := h
  exact ⟨cs, (hb.block g hg).trans h1, h2, h3⟩
theorem Room.made (w : World) (t : TypeId) (n : Nat) (k : IntKind) : Room (w.alloc (.cells (madeCells #[.int k 0] n) t)) w.heap.size t n k [] :=
  ⟨_, heap_alloc_new _ _, size_madeCells _ _, rfl⟩

theorem take_more {xs : List Int} {k : Nat} {x : Int} (h : xs[k]? = some x) : xs.take (k + 1) = xs.take k ++ [x] := by
  rw [List.take_add_one, h]; rfl

/-- A row as its cells. -/
theorem Room.cells {w : World} {g : Nat} {t : TypeId} {n : Nat} {k : IntKind} {xs : List Int} (h : Room w g t n k xs) :
    ∃ cur : List Value, Hid (w.heap[g]? = some (.cells cur.toArray t (0, 0))) ∧ cur.length = n ∧ Hid (cur.take xs.length = xs.map (Value.int k)) := by
  obtain ⟨cs, h1, h2, h3⟩ := h
  exact ⟨cs.toList, h1, by simpa using h2, h3⟩
/-- Numbers laid behind those that are there. -/
theorem Room.splice {w : World} {g : Nat} {t : TypeId} {n : Nat} {k : IntKind} {xs ys : List Int} {cur : List Value} (h : w.heap[g]? = some (.cells (Go.splice cur xs.length (ys.map (Value.int k))).toArray t (0, 0)))
    (hc : cur.length = n) (ht : cur.take xs.length = xs.map (Value.int k)) (hfit : xs.length + ys.length ≤ n) : Room w g t n k (xs ++ ys) := by
  refine ⟨_, h, ?_, ?_⟩
  · rw [List.size_toArray, length_splice _ _ _ (by simp; omega), hc]
  · simp only [Go.splice]
    rw [ht, ← List.append_assoc, ← List.map_append, List.take_left' (by simp)]
theorem nums_oneCell (k : IntKind) (ys : List Int) : ∀ v ∈ ys.map (Value.int k), v.oneCell' = true := by
  intro v hv
  obtain ⟨x, _, rfl⟩ := List.mem_map.1 hv
  rfl
theorem Room.source {w : World} {g : Nat} {t : TypeId} {n : Nat} {k : IntKind} {xs : List Int} (h : Room w g t n k xs) : ∀ j v, (xs.map (Value.int k))[j]? = some v → w.cell? ((⟨g, 0, none⟩ : Addr).add j) = some v := by
  intro j v hv
  have hj : j < xs.length := by
    have := (List.getElem?_eq_some_iff.1 hv).1
    simpa using this
  have hadd : (⟨g, 0, none⟩ : Addr).add j = ⟨g, j, none⟩ := by unfold Addr.add; split <;> simp_all
  rw [hadd, h.cell j hj]
  simp [List.getElem?_eq_getElem hj] at hv
  simp [List.getD, List.getElem?_eq_getElem hj, hv]

/-- A slice of integers that came in, as the given rows open it. -/
theorem reads_of_row {w : World} {k : IntKind} {a : Option Addr} {len cap : Nat} {zs : List Int}
    (h : (a = none ∧ len = 0 ∧ cap = 0 ∧ zs = []) ∨ ∃ x, a = some x ∧ len ≤ cap ∧ cap ≤ maxLen ∧ zs.length = cap ∧ (∀ i, i < zs.length → w.cell? (x.add i) = some (.int k (zs.getD i 0))) ∧ ∀ n ∈ zs, (Lit.int k n).wf = true) :
    Reads w w.heap.size k a len (zs.take len) := by
  rcases h with ⟨rfl, rfl, rfl, rfl⟩ | ⟨x, rfl, hl, _, hz, hc, _⟩
  · exact ⟨rfl, fun h => absurd h (by omega)⟩
  · refine ⟨by rw [List.length_take]; omega, fun hn => ?_⟩
    obtain ⟨b, off, spot⟩ := x
    have h0 := hc 0 (by omega)
    have hspot : spot = none := by simpa [Addr.add] using World.cell?_spot h0
    subst hspot
    have hadd : ∀ j, (⟨b, off, none⟩ : Addr).add j = ⟨b, off + j, none⟩ := fun j => by unfold Addr.add; split <;> simp_all
    refine ⟨b, off, rfl, ?_, fun j x hx => ?_⟩
    · have := World.block_lt_of_cell? w _ h0
      rw [hadd] at this
      exact this
    · have hj : j < len := by
        have := (List.getElem?_eq_some_iff.1 hx).1
        rw [List.length_take] at this
        omega
      have h1 := hc j (by omega)
      rw [hadd] at h1
      rw [h1]
      rw [List.getElem?_take, if_pos hj] at hx
      simp [List.getD, hx]

end Go.Proofs.Ytaogdaoiijmmhaa

/-
  Texts joined: Cod CoTo CoTo2 CoInk Own.
-/
import Derived.Test.YtpbkkjiikhjanaaGreatDoorJKit
/-
  Images in memory: codes, slices of them that are read. Over any program.
-/
namespace Go.Proofs.YtpbkkjiikhjanaaGreatDoor
open Go.RowKit Exs

/-- A row of a code: from, to, pad. -/
abbrev Row3 := Int × Int × Int
structure Cd where
  params : Int
  vars : Int
  sites : List Int
  ins : List Token
  rows : List Row3

def flat3 (rs : List Row3) : List Int := rs.flatMap fun r => [r.1, r.2.1, r.2.2]
theorem flat3_length (rs : List Row3) : (flat3 rs).length = 3 * rs.length := by
  induction rs with
  | nil => rfl
  | cons t r ih => simp only [flat3, List.flatMap_cons, List.length_append, List.length_cons, List.length_nil] at *; omega
theorem flat3_at : ∀ {rs : List Row3} {j : Nat} {t : Row3}, rs[j]? = some t → (flat3 rs)[3 * j]? = some t.1 ∧ (flat3 rs)[3 * j + 1]? = some t.2.1 ∧ (flat3 rs)[3 * j + 2]? = some t.2.2
  | [], _, _, h => by simp at h
  | a :: r, 0, t, h => by simp at h; subst h; exact ⟨rfl, rfl, rfl⟩
  | a :: r, j + 1, t, h => by
    have := flat3_at (rs := r) (j := j) (t := t) (by simpa using h)
    rw [show 3 * (j + 1) = 3 * j + 1 + 1 + 1 by omega]
    simpa [flat3] using this
theorem flat3_snoc (rs : List Row3) (t : Row3) : flat3 (rs ++ [t]) = flat3 rs ++ [t.1] ++ [t.2.1] ++ [t.2.2] := by simp [flat3]
/-- The slice value '.slice A n c' reads as the rows rs, and lies below block B. -/
def ReadsR (w : World) (B : Nat) (A : Option Addr) (n : Nat) (rs : List Row3) : Prop := rs.length = n ∧ Reads w B .i64 A (3 * n) (flat3 rs)
section
variable {w w' : World} {B B' : Nat} {A : Option Addr} {n : Nat} {rs : List Row3}
theorem ReadsR.below (h : ReadsR w B A n rs) (hb : Below B w w') : ReadsR w' B A n rs := ⟨h.1, h.2.below hb⟩
theorem ReadsR.more (h : ReadsR w B A n rs) (hB : B ≤ B') : ReadsR w B' A n rs := ⟨h.1, h.2.more hB⟩
theorem ReadsR.at_ (h : ReadsR w B A n rs) {j : Nat} (hj : j < n) : ∃ b off x y z, A = some ⟨b, off, none⟩ ∧ b < B ∧ w.cell? ⟨b, off + j * 3, none⟩ = some (.int .i64 x) ∧ w.cell? ⟨b, off + j * 3 + 1, none⟩ = some (.int .i64 y) ∧ w.cell? ⟨b, off + j * 3 + 2, none⟩ = some (.int .i64 z) ∧ Hid (rs[j]? = some (x, y, z)) := by
  obtain ⟨b, off, rfl, hb, hc⟩ := h.2.2 (by omega)
  have hl : j < rs.length := by rw [h.1]; exact hj
  have hx := flat3_at (List.getElem?_eq_getElem hl)
  refine ⟨b, off, rs[j].1, rs[j].2.1, rs[j].2.2, rfl, hb, ?_, ?_, ?_, List.getElem?_eq_getElem hl⟩
  · rw [Nat.mul_comm]; exact hc _ _ hx.1
  · rw [Nat.mul_comm, Nat.add_assoc]; exact hc _ _ hx.2.1
  · rw [Nat.mul_comm, Nat.add_assoc]; exact hc _ _ hx.2.2
end
/-- The slice value '.slice A n c' reads as the codes ss, and lies, with all that it leads to, below block B. -/
def ReadsC (w : World) (B : Nat) (A : Option Addr) (n : Nat) (ss : List Cd) : Prop :=
  ss.length = n ∧ (0 < n → ∃ b off, A = some ⟨b, off, none⟩ ∧ b < B ∧ ∀ (j : Nat) (s : Cd), ss[j]? = some s →
    ∃ A1 n1 c1 A2 n2 c2 A3 n3 c3, w.cell? ⟨b, off + j * 5, none⟩ = some (.int .i64 s.params) ∧ w.cell? ⟨b, off + j * 5 + 1, none⟩ = some (.int .i64 s.vars) ∧ w.cell? ⟨b, off + j * 5 + 2, none⟩ = some (.slice A1 n1 c1) ∧
      w.cell? ⟨b, off + j * 5 + 3, none⟩ = some (.slice A2 n2 c2) ∧ w.cell? ⟨b, off + j * 5 + 4, none⟩ = some (.slice A3 n3 c3) ∧ Reads w B .i64 A1 n1 s.sites ∧ ReadsT w B A2 n2 s.ins ∧ ReadsR w B A3 n3 s.rows)

section
variable {w w' : World} {B B' : Nat} {A : Option Addr} {n : Nat} {ss : List Cd}
theorem ReadsC.below (h : ReadsC w B A n ss) (hb : Below B w w') : ReadsC w' B A n ss :=
  ⟨h.1, fun hn => by
    obtain ⟨b, off, rfl, hB, hc⟩ := h.2 hn
    refine ⟨b, off, rfl, hB, fun j s hs => ?_⟩
    obtain ⟨A1, n1, c1, A2, n2, c2, A3, n3, c3, h0, h1, h2, h3, h4, r1, r2, r3⟩ := hc j s hs
    exact ⟨A1, n1, c1, A2, n2, c2, A3, n3, c3, (hb.cell (p := ⟨b, _, none⟩) hB).trans h0, (hb.cell (p := ⟨b, _, none⟩) hB).trans h1, (hb.cell (p := ⟨b, _, none⟩) hB).trans h2, (hb.cell (p := ⟨b, _, none⟩) hB).trans h3, (hb.cell (p := ⟨b, _, none⟩) hB).trans h4, r1.below hb, r2.below hb, r3.below hb⟩⟩
theorem ReadsC.more (h : ReadsC w B A n ss) (hB : B ≤ B') : ReadsC w B' A n ss :=
  ⟨h.1, fun hn => by
    obtain ⟨b, off, rfl, hb, hc⟩ := h.2 hn
    refine ⟨b, off, rfl, by omega, fun j s hs => ?_⟩
    obtain ⟨A1, n1, c1, A2, n2, c2, A3, n3, c3, h0, h1, h2, h3, h4, r1, r2, r3⟩ := hc j s hs
    exact ⟨A1, n1, c1, A2, n2, c2, A3, n3, c3, h0, h1, h2, h3, h4, r1.more hB, r2.more hB, r3.more hB⟩⟩
theorem ReadsC.at_ (h : ReadsC w B A n ss) {j : Nat} (hj : j < n) : ∃ b off s A1 n1 c1 A2 n2 c2 A3 n3 c3, A = some ⟨b, off, none⟩ ∧ b < B ∧ w.cell? ⟨b, off + j * 5, none⟩ = some (.int .i64 s.params) ∧ w.cell? ⟨b, off + j * 5 + 1, none⟩ = some (.int .i64 s.vars) ∧ w.cell? ⟨b, off + j * 5 + 2, none⟩ = some (.slice A1 n1 c1) ∧
      w.cell? ⟨b, off + j * 5 + 3, none⟩ = some (.slice A2 n2 c2) ∧ w.cell? ⟨b, off + j * 5 + 4, none⟩ = some (.slice A3 n3 c3) ∧ Reads w B .i64 A1 n1 s.sites ∧ ReadsT w B A2 n2 s.ins ∧ ReadsR w B A3 n3 s.rows ∧ Hid (ss[j]? = some s) := by
  obtain ⟨b, off, rfl, hb, hc⟩ := h.2 (by omega)
  have hl : j < ss.length := by rw [h.1]; exact hj
  obtain ⟨A1, n1, c1, A2, n2, c2, A3, n3, c3, h0, h1, h2, h3, h4, r1, r2, r3⟩ := hc j _ (List.getElem?_eq_getElem hl)
  exact ⟨b, off, ss[j], A1, n1, c1, A2, n2, c2, A3, n3, c3, rfl, hb, h0, h1, h2, h3, h4, r1, r2, r3, List.getElem?_eq_getElem hl⟩
end

theorem takeA_more {α : Type} {ts : List α} {k : Nat} {t : α} (h : ts[k]? = some t) : ts.take (k + 1) = ts.take k ++ [t] := by
  rw [List.take_add_one, h]; rfl
theorem mem_of_at {α : Type} {ts : List α} {k : Nat} {t : α} (h : ts[k]? = some t) : t ∈ ts := List.mem_of_getElem? h
/-- A code, a function, as values. -/
def cdV (s : Cd) (A1 : Option Addr) (n1 c1 : Nat) (A2 : Option Addr) (n2 c2 : Nat) (A3 : Option Addr) (n3 c3 : Nat) : Value := .agg #[.int .i64 s.params, .int .i64 s.vars, .slice A1 n1 c1, .slice A2 n2 c2, .slice A3 n3 c3]
structure IsCd (w : World) (B : Nat) (s : Cd) (A1 : Option Addr) (n1 : Nat) (A2 : Option Addr) (n2 : Nat) (A3 : Option Addr) (n3 : Nat) : Prop where
  sites : Reads w B .i64 A1 n1 s.sites
  ins : ReadsT w B A2 n2 s.ins
  rows : ReadsR w B A3 n3 s.rows
theorem IsCd.below {w w' : World} {B : Nat} {s : Cd} {A1 : Option Addr} {n1 : Nat} {A2 : Option Addr} {n2 : Nat} {A3 : Option Addr} {n3 : Nat} (h : IsCd w B s A1 n1 A2 n2 A3 n3) (hb : Below B w w') : IsCd w' B s A1 n1 A2 n2 A3 n3 := ⟨h.sites.below hb, h.ins.below hb, h.rows.below hb⟩
theorem IsCd.more {w : World} {B B' : Nat} {s : Cd} {A1 : Option Addr} {n1 : Nat} {A2 : Option Addr} {n2 : Nat} {A3 : Option Addr} {n3 : Nat} (h : IsCd w B s A1 n1 A2 n2 A3 n3) (hB : B ≤ B') : IsCd w B' s A1 n1 A2 n2 A3 n3 := ⟨h.sites.more hB, h.ins.more hB, h.rows.more hB⟩
theorem IsCd.now {w w' : World} {s : Cd} {A1 : Option Addr} {n1 : Nat} {A2 : Option Addr} {n2 : Nat} {A3 : Option Addr} {n3 : Nat} (h : IsCd w w.heap.size s A1 n1 A2 n2 A3 n3) (hb : Below w.heap.size w w') : IsCd w' w'.heap.size s A1 n1 A2 n2 A3 n3 := (h.below hb).more hb.size
theorem ReadsC.now {w w' : World} {A : Option Addr} {n : Nat} {ss : List Cd} (h : ReadsC w w.heap.size A n ss) (hb : Below w.heap.size w w') : ReadsC w' w'.heap.size A n ss := (h.below hb).more hb.size
theorem Reads.now {w w' : World} {k : IntKind} {A : Option Addr} {n : Nat} {xs : List Int} (h : Reads w w.heap.size k A n xs) (hb : Below w.heap.size w w') : Reads w' w'.heap.size k A n xs := (h.below hb).more hb.size
theorem ReadsT.now {w w' : World} {A : Option Addr} {n : Nat} {ts : List Token} (h : ReadsT w w.heap.size A n ts) (hb : Below w.heap.size w w') : ReadsT w' w'.heap.size A n ts := (h.below hb).more hb.size

theorem ReadsR.now {w w' : World} {A : Option Addr} {n : Nat} {rs : List Row3} (h : ReadsR w w.heap.size A n rs) (hb : Below w.heap.size w w') : ReadsR w' w'.heap.size A n rs := (h.below hb).more hb.size
/-- Sizes within what the laws let through. -/
def SmallC (s : Cd) : Prop := s.sites.length ≤ 1048576 ∧ s.ins.length ≤ 1048576 ∧ s.rows.length ≤ 1048576
/-- How many values the laws count. -/
def manyC (s : Cd) : Nat := s.sites.length + s.ins.length + s.rows.length
def manyCs : List Cd → Nat
  | [] => 0
  | s :: r => manyC s + manyCs r
theorem manyCs_append (a b : List Cd) : manyCs (a ++ b) = manyCs a + manyCs b := by induction a with | nil => simp [manyCs] | cons s r ih => simp [manyCs, ih]; omega
theorem manyCs_mem {ss : List Cd} {s : Cd} (h : s ∈ ss) : manyC s ≤ manyCs ss := by
  induction ss with
  | nil => cases h
  | cons a r ih => rcases List.mem_cons.1 h with rfl | h; · simp [manyCs]
                   · have := ih h; simp [manyCs]; omega
def SmallI (cs : List Cd) : Prop := cs.length ≤ 1048576 ∧ ∀ c ∈ cs, SmallC c
theorem smallI_of {cs : List Cd} (h : cs.length + manyCs cs ≤ 1048576) : SmallI cs :=
  ⟨by omega, fun f hf => by have := manyCs_mem hf; unfold manyC at this; exact ⟨by omega, by omega, by omega⟩⟩
theorem below_drewN {B : Nat} {a w : World} (h : Below B a w) (n : Nat) : Below B a (w.drewN n) := ⟨h.os, h.tape, h.output, h.size, h.block⟩
theorem beq_of {a b : Int} (h : a ≠ b) : (a == b) = false := by simpa using h
theorem Nums.belowNew {w w' : World} {B : Nat} {e : TypeId} {k : IntKind} {v : Value} {xs : List Int} (h : Nums w B e k v xs) (hb : Below w.heap.size w w') : Nums w' B e k v xs := by
  obtain ⟨h1, h2⟩ := h
  refine ⟨h1, ?_⟩
  rcases h2 with h2 | ⟨g, cap, cur, hv, hg, hh, r⟩
  · exact Or.inl h2
  · exact Or.inr ⟨g, cap, cur, hv, hg, (hb.block g (Array.getElem?_eq_some_iff.1 hh).1).trans hh, r⟩
theorem Nums.reads {w : World} {B : Nat} {e : TypeId} {k : IntKind} {v : Value} {xs : List Int} (h : Nums w B e k v xs) : ∃ A c, v = .slice A xs.length c ∧ Reads w w.heap.size k A xs.length xs := by
  rcases h.2 with ⟨rfl, hn⟩ | ⟨g, cap, cur, rfl, _, hg, _, _, _, htk⟩
  · obtain rfl : xs = [] := List.eq_nil_of_length_eq_zero hn
    exact ⟨none, 0, rfl, rfl, fun h => absurd h (by simp)⟩
  · refine ⟨_, _, rfl, rfl, fun _ => ⟨g, 0, rfl, (Array.getElem?_eq_some_iff.1 hg).1, fun j x hx => ?_⟩⟩
    have hj : j < xs.length := (List.getElem?_eq_some_iff.1 hx).1
    have := World.ownsRow.cellAt h j (by omega)
    rw [Nat.zero_add, this]
    simp [hx]

theorem Nums.more {w : World} {B B' : Nat} {e : TypeId} {k : IntKind} {v : Value} {xs : List Int} (h : Nums w B e k v xs) (hB : B' ≤ B) : Nums w B' e k v xs := by
  obtain ⟨h1, h2⟩ := h
  refine ⟨h1, ?_⟩
  rcases h2 with h2 | ⟨g, cap, cur, hv, hg, r⟩
  · exact Or.inl h2
  · exact Or.inr ⟨g, cap, cur, hv, by omega, r⟩


end Go.Proofs.YtpbkkjiikhjanaaGreatDoor

/-
  The laws' copying of images: what is copied lies in blocks of its own.
-/
namespace Go.Proofs.YtpbkkjiikhjanaaGreatDoor
open Go.RowKit Exs

/-- Blocks from L on are as they were. -/
def SameFrom (L : Nat) (w w' : World) : Prop := ∀ k, L ≤ k → k < w.heap.size → w'.heap[k]? = w.heap[k]?
theorem SameFrom.of_below {L : Nat} {w w' : World} (h : Below w.heap.size w w') : SameFrom L w w' := fun k _ hk => h.block k hk
theorem SameFrom.setCell (w : World) (g i : Nat) (v : Value) : SameFrom (g + 1) w (w.setCell ⟨g, i, none⟩ v) := fun k hk _ => Below.heap_setCell _ _ _ _ (show k ≠ g by omega)
theorem SameFrom.trans {L : Nat} {a b c : World} (h : SameFrom L a b) (k : SameFrom L b c) (hs : a.heap.size ≤ b.heap.size) : SameFrom L a c := fun i hi hs' => (k i hi (by omega)).trans (h i hi hs')
theorem SameFrom.mono {L L' : Nat} {w w' : World} (h : SameFrom L w w') (hL : L ≤ L') : SameFrom L' w w' := fun k hk hs => h k (by omega) hs
theorem Room.same {w w' : World} {g : Nat} {t : TypeId} {n : Nat} {k : IntKind} {xs : List Int} (h : Room w g t n k xs) (hs : SameFrom g w w') : Room w' g t n k xs := by
  have hl := h.lt
  obtain ⟨cs, h1, h2, h3⟩ := h
  exact ⟨cs, (hs g (Nat.le_refl _) hl).trans h1, h2, h3⟩

def MInts (w : World) (L : Nat) (A : Option Addr) (n : Nat) (xs : List Int) : Prop := ∃ g, A = some ⟨g, 0, none⟩ ∧ L ≤ g ∧ Room w g 3 n .i64 xs ∧ xs.length = n
def MToks (w : World) (L : Nat) (A : Option Addr) (n : Nat) (ts : List Token) : Prop := ∃ g, A = some ⟨g, 0, none⟩ ∧ L ≤ g ∧ Room w g 129 (2 * n) .i64 (flat ts) ∧ ts.length = n
theorem MInts.same {w w' : World} {L : Nat} {A : Option Addr} {n : Nat} {xs : List Int} (h : MInts w L A n xs) (hs : SameFrom L w w') : MInts w' L A n xs := by
  obtain ⟨g, e, hg, r, hl⟩ := h; exact ⟨g, e, hg, r.same (hs.mono hg), hl⟩
theorem MToks.same {w w' : World} {L : Nat} {A : Option Addr} {n : Nat} {xs : List Token} (h : MToks w L A n xs) (hs : SameFrom L w w') : MToks w' L A n xs := by
  obtain ⟨g, e, hg, r, hl⟩ := h; exact ⟨g, e, hg, r.same (hs.mono hg), hl⟩
theorem MInts.from {w : World} {L L' : Nat} {A : Option Addr} {n : Nat} {xs : List Int} (h : MInts w L A n xs) (hL : L' ≤ L) : MInts w L' A n xs := by
  obtain ⟨g, e, hg, r, hl⟩ := h; exact ⟨g, e, by omega, r, hl⟩
theorem MToks.from {w : World} {L L' : Nat} {A : Option Addr} {n : Nat} {xs : List Token} (h : MToks w L A n xs) (hL : L' ≤ L) : MToks w L' A n xs := by
  obtain ⟨g, e, hg, r, hl⟩ := h; exact ⟨g, e, by omega, r, hl⟩
theorem MInts.reads {w : World} {L : Nat} {A : Option Addr} {n : Nat} {xs : List Int} (h : MInts w L A n xs) : Reads w w.heap.size .i64 A n xs := by
  obtain ⟨g, rfl, _, r, hl⟩ := h; exact r.reads hl
theorem MToks.reads {w : World} {L : Nat} {A : Option Addr} {n : Nat} {xs : List Token} (h : MToks w L A n xs) : ReadsT w w.heap.size A n xs := by
  obtain ⟨g, rfl, _, r, hl⟩ := h; exact r.readsT hl

def MRows (w : World) (L : Nat) (A : Option Addr) (n : Nat) (ts : List Row3) : Prop := ∃ g, A = some ⟨g, 0, none⟩ ∧ L ≤ g ∧ Room w g 85 (3 * n) .i64 (flat3 ts) ∧ ts.length = n
theorem MRows.same {w w' : World} {L : Nat} {A : Option Addr} {n : Nat} {xs : List Row3} (h : MRows w L A n xs) (hs : SameFrom L w w') : MRows w' L A n xs := by
  obtain ⟨g, e, hg, r, hl⟩ := h; exact ⟨g, e, hg, r.same (hs.mono hg), hl⟩
theorem MRows.from {w : World} {L L' : Nat} {A : Option Addr} {n : Nat} {xs : List Row3} (h : MRows w L A n xs) (hL : L' ≤ L) : MRows w L' A n xs := by
  obtain ⟨g, e, hg, r, hl⟩ := h; exact ⟨g, e, by omega, r, hl⟩
theorem Room.readsR {w : World} {g : Nat} {t : TypeId} {n : Nat} {ts : List Row3} (h : Room w g t (3 * n) .i64 (flat3 ts)) (hn : ts.length = n) : ReadsR w w.heap.size (some ⟨g, 0, none⟩) n ts :=
  ⟨hn, h.reads (by rw [flat3_length, hn])⟩
theorem MRows.reads {w : World} {L : Nat} {A : Option Addr} {n : Nat} {xs : List Row3} (h : MRows w L A n xs) : ReadsR w w.heap.size A n xs := by
  obtain ⟨g, rfl, _, r, hl⟩ := h; exact r.readsR hl
structure MCd (w : World) (L : Nat) (s : Cd) (A1 : Option Addr) (n1 : Nat) (A2 : Option Addr) (n2 : Nat) (A3 : Option Addr) (n3 : Nat) : Prop where
  sites : MInts w L A1 n1 s.sites
  ins : MToks w L A2 n2 s.ins
  rows : MRows w L A3 n3 s.rows
theorem MCd.same {w w' : World} {L : Nat} {s : Cd} {A1 : Option Addr} {n1 : Nat} {A2 : Option Addr} {n2 : Nat} {A3 : Option Addr} {n3 : Nat} (h : MCd w L s A1 n1 A2 n2 A3 n3) (hs : SameFrom L w w') : MCd w' L s A1 n1 A2 n2 A3 n3 := ⟨h.sites.same hs, h.ins.same hs, h.rows.same hs⟩
theorem MCd.from {w : World} {L L' : Nat} {s : Cd} {A1 : Option Addr} {n1 : Nat} {A2 : Option Addr} {n2 : Nat} {A3 : Option Addr} {n3 : Nat} (h : MCd w L s A1 n1 A2 n2 A3 n3) (hL : L' ≤ L) : MCd w L' s A1 n1 A2 n2 A3 n3 := ⟨h.sites.from hL, h.ins.from hL, h.rows.from hL⟩

/-- Block g is a row of n codes of which the first ones are ss; what they lead to lies in later blocks. -/
def RoomC (w : World) (g n : Nat) (ss : List Cd) : Prop :=
  ∃ cs : Array Value, w.heap[g]? = some (.cells cs 82 (0, 0)) ∧ cs.size = n * 5 ∧ ∀ (j : Nat) (s : Cd), ss[j]? = some s → ∃ A1 n1 c1 A2 n2 c2 A3 n3 c3,
    cs[j * 5]? = some (.int .i64 s.params) ∧ cs[j * 5 + 1]? = some (.int .i64 s.vars) ∧ cs[j * 5 + 2]? = some (.slice A1 n1 c1) ∧ cs[j * 5 + 3]? = some (.slice A2 n2 c2) ∧ cs[j * 5 + 4]? = some (.slice A3 n3 c3) ∧ MCd w (g + 1) s A1 n1 A2 n2 A3 n3
theorem RoomC.lt {w : World} {g n : Nat} {ss : List Cd} (h : RoomC w g n ss) : g < w.heap.size := by
  obtain ⟨cs, h1, _⟩ := h; exact (Array.getElem?_eq_some_iff.1 h1).1
theorem RoomC.same {w w' : World} {g n : Nat} {ss : List Cd} (h : RoomC w g n ss) (hs : SameFrom g w w') : RoomC w' g n ss := by
  have hl := h.lt
  obtain ⟨cs, h1, h2, h3⟩ := h
  refine ⟨cs, (hs g (Nat.le_refl _) hl).trans h1, h2, fun j s hj => ?_⟩
  obtain ⟨A1, n1, c1, A2, n2, c2, A3, n3, c3, g0, g1, g2, g3, g4, m⟩ := h3 j s hj
  exact ⟨A1, n1, c1, A2, n2, c2, A3, n3, c3, g0, g1, g2, g3, g4, m.same (hs.mono (by omega))⟩
theorem RoomC.at_ {w : World} {g n : Nat} {ss : List Cd} (h : RoomC w g n ss) (j : Nat) (hj : j < n * 5) : ∃ v, w.cell? ⟨g, j, none⟩ = some v := by
  obtain ⟨cs, h1, h2, _⟩ := h
  exact ⟨cs[j], by rw [cell_of_row w g j cs 82 (0, 0) h1]; exact Array.getElem?_eq_getElem (by omega)⟩
theorem RoomC.frozen {w : World} {g n : Nat} {ss : List Cd} (h : RoomC w g n ss) (j : Nat) : w.frozen? ⟨g, j, none⟩ = false := by
  obtain ⟨cs, h1, _⟩ := h
  simp [World.frozen?, h1]
theorem heap_set {w : World} {g i : Nat} {v : Value} {cs : Array Value} {t : TypeId} (h : w.heap[g]? = some (.cells cs t (0, 0))) : (w.setCell ⟨g, i, none⟩ v).heap[g]? = some (.cells (cs.setIfInBounds i v) t (0, 0)) := by
  simp [World.setCell, Array.getElem?_modify, h]
theorem size_set (w : World) (p : Addr) (v : Value) : (w.setCell p v).heap.size = w.heap.size := by simp [World.setCell]
theorem RoomC.push {w : World} {g n : Nat} {ss : List Cd} (h : RoomC w g n ss) (hc : ss.length < n) (s : Cd) (A1 : Option Addr) (n1 c1 : Nat) (A2 : Option Addr) (n2 c2 : Nat) (A3 : Option Addr) (n3 c3 : Nat) (hm : MCd w (g + 1) s A1 n1 A2 n2 A3 n3) :
    RoomC (((((w.setCell ⟨g, ss.length * 5, none⟩ (.int .i64 s.params)).setCell ⟨g, ss.length * 5 + 1, none⟩ (.int .i64 s.vars)).setCell ⟨g, ss.length * 5 + 2, none⟩ (.slice A1 n1 c1)).setCell ⟨g, ss.length * 5 + 3, none⟩ (.slice A2 n2 c2)).setCell ⟨g, ss.length * 5 + 4, none⟩ (.slice A3 n3 c3)) g n (ss ++ [s]) := by
  have hsame : SameFrom (g + 1) w (((((w.setCell ⟨g, ss.length * 5, none⟩ (.int .i64 s.params)).setCell ⟨g, ss.length * 5 + 1, none⟩ (.int .i64 s.vars)).setCell ⟨g, ss.length * 5 + 2, none⟩ (.slice A1 n1 c1)).setCell ⟨g, ss.length * 5 + 3, none⟩ (.slice A2 n2 c2)).setCell ⟨g, ss.length * 5 + 4, none⟩ (.slice A3 n3 c3)) := by
    intro k hk _
    rw [Below.heap_setCell _ _ _ _ (show k ≠ g by omega), Below.heap_setCell _ _ _ _ (show k ≠ g by omega), Below.heap_setCell _ _ _ _ (show k ≠ g by omega), Below.heap_setCell _ _ _ _ (show k ≠ g by omega), Below.heap_setCell _ _ _ _ (show k ≠ g by omega)]
  obtain ⟨cs, h1, h2, h3⟩ := h
  refine ⟨_, heap_set (heap_set (heap_set (heap_set (heap_set h1)))), by simpa using h2, fun j s' hj => ?_⟩
  by_cases hl : j < ss.length
  · rw [List.getElem?_append_left hl] at hj
    obtain ⟨B1, m1, d1, B2, m2, d2, B3, m3, d3, g0, g1, g2, g3, g4, m⟩ := h3 j s' hj
    refine ⟨B1, m1, d1, B2, m2, d2, B3, m3, d3, ?_, ?_, ?_, ?_, ?_, m.same hsame⟩ <;> (simp only [Array.getElem?_setIfInBounds]; (repeat rw [if_neg (by omega)]); assumption)
  · have hj2 : j = ss.length := by
      have := (List.getElem?_eq_some_iff.1 hj).1
      simp at this; omega
    subst hj2
    rw [List.getElem?_append_right (Nat.le_refl _)] at hj
    simp at hj
    subst hj
    refine ⟨A1, n1, c1, A2, n2, c2, A3, n3, c3, ?_, ?_, ?_, ?_, ?_, hm.same hsame⟩ <;> (simp only [Array.getElem?_setIfInBounds, Array.size_setIfInBounds]; (repeat rw [if_neg (by omega)]); rw [if_pos trivial, if_pos (by omega)])
theorem RoomC.reads {w : World} {g n : Nat} {ss : List Cd} (h : RoomC w g n ss) (hn : ss.length = n) : ReadsC w w.heap.size (some ⟨g, 0, none⟩) n ss := by
  have hl := h.lt
  obtain ⟨cs, h1, h2, h3⟩ := h
  refine ⟨hn, fun _ => ⟨g, 0, rfl, hl, fun j s hj => ?_⟩⟩
  obtain ⟨A1, n1, c1, A2, n2, c2, A3, n3, c3, g0, g1, g2, g3, g4, m⟩ := h3 j s hj
  have hc := fun i => cell_of_row w g i cs 82 (0, 0) h1
  refine ⟨A1, n1, c1, A2, n2, c2, A3, n3, c3, ?_, ?_, ?_, ?_, ?_, m.sites.reads, m.ins.reads, m.rows.reads⟩ <;> (rw [Nat.zero_add, hc]; assumption)

def MCds (w : World) (L : Nat) (A : Option Addr) (n : Nat) (ss : List Cd) : Prop := ∃ g, A = some ⟨g, 0, none⟩ ∧ L ≤ g ∧ RoomC w g n ss ∧ ss.length = n
theorem MCds.same {w w' : World} {L : Nat} {A : Option Addr} {n : Nat} {xs : List Cd} (h : MCds w L A n xs) (hs : SameFrom L w w') : MCds w' L A n xs := by
  obtain ⟨g, e, hg, r, hl⟩ := h; exact ⟨g, e, hg, r.same (hs.mono hg), hl⟩
theorem MCds.from {w : World} {L L' : Nat} {A : Option Addr} {n : Nat} {xs : List Cd} (h : MCds w L A n xs) (hL : L' ≤ L) : MCds w L' A n xs := by
  obtain ⟨g, e, hg, r, hl⟩ := h; exact ⟨g, e, by omega, r, hl⟩
theorem MCds.reads {w : World} {L : Nat} {A : Option Addr} {n : Nat} {xs : List Cd} (h : MCds w L A n xs) : ReadsC w w.heap.size A n xs := by
  obtain ⟨g, rfl, _, r, hl⟩ := h; exact r.reads hl


end Go.Proofs.YtpbkkjiikhjanaaGreatDoor

/-
  The laws' copying of images: contracts.
-/
namespace Go.Proofs.YtpbkkjiikhjanaaGreatDoor
open Go.RowKit Exs

/-- Block g of the world holds just these cells, none frozen. -/
def Keep (w : World) (g : Nat) (cs : Array Value) (t : TypeId) : Prop := w.heap[g]? = some (.cells cs t (0, 0))
section
variable {w w' : World} {g g' i : Nat} {cs : Array Value} {t : TypeId} {v : Value}
theorem Keep.new (w : World) (cs : Array Value) (t : TypeId) : Keep (w.alloc (.cells cs t)) w.heap.size cs t := heap_alloc_new _ _
theorem Keep.lt (h : Keep w g cs t) : g < w.heap.size := (Array.getElem?_eq_some_iff.1 h).1
theorem Keep.alloc (h : Keep w g cs t) (o : Obj) : Keep (w.alloc o) g cs t := (Below.heap_alloc _ _ _ h.lt).trans h
theorem Keep.below (h : Keep w g cs t) (hb : Below w.heap.size w w') : Keep w' g cs t := (hb.block g h.lt).trans h
theorem Keep.set (h : Keep w g cs t) (i : Nat) (v : Value) : Keep (w.setCell ⟨g, i, none⟩ v) g (cs.setIfInBounds i v) t := heap_set h
theorem Keep.other (h : Keep w g cs t) (hg : g ≠ g') (i : Nat) (v : Value) : Keep (w.setCell ⟨g', i, none⟩ v) g cs t := (Below.heap_setCell _ _ _ _ hg).trans h
theorem Keep.cell (h : Keep w g cs t) (i : Nat) : w.cell? ⟨g, i, none⟩ = cs[i]? := cell_of_row w g i cs t (0, 0) h
theorem Keep.frozen (h : Keep w g cs t) (i : Nat) : w.frozen? ⟨g, i, none⟩ = false := by
  unfold Keep at h
  simp [World.frozen?, h]
end

theorem toInts_m (A : Option Addr) (n c : Nat) (xs : List Int) (w : World) (hr : Reads w w.heap.size .i64 A n xs) (hn : n ≤ 1048576) :
    Calls Tryz.prog 32 #[.slice A n c] w fun e w' => ∃ B, e = .returned (.slice B n n) ∧ MInts w' w.heap.size B n xs ∧ Below w.heap.size w w' :=
  (toInts_any A n c xs w hr hn).mono fun _ _ ⟨he, hroom, hb⟩ => ⟨_, he, ⟨_, rfl, Nat.le_refl _, hroom, hr.1⟩, hb⟩
theorem toToks_m (A : Option Addr) (n c : Nat) (xs : List Token) (w : World) (hr : ReadsT w w.heap.size A n xs) (hn : n ≤ 1048576) :
    Calls Tryz.prog 82 #[.slice A n c] w fun e w' => ∃ B, e = .returned (.slice B n n) ∧ MToks w' w.heap.size B n xs ∧ Below w.heap.size w w' :=
  (toToks_any A n c xs w hr hn).mono fun _ _ ⟨he, hroom, hb⟩ => ⟨_, he, ⟨_, rfl, Nat.le_refl _, hroom, hr.1⟩, hb⟩

set_option maxHeartbeats 400000 in
theorem toRow_any (x y z : Int) (w : World) : Calls Tryz.prog 112 #[.agg #[.int .i64 x, .int .i64 y, .int .i64 z]] w fun e w' => e = .returned (.agg #[.int .i64 x, .int .i64 y, .int .i64 z]) ∧ Below w.heap.size w w' := by
  go_enter Tryz.func112, Tryz.ntmps112
  go_wp2
  exact bodyPost_ret (v := .agg #[.int .i64 x, .int .i64 y, .int .i64 z]) (by simp [results, Tryz.results112, go_sem]) rfl ⟨rfl, (((Below.refl _ _).alloc (Nat.le_refl _) _).alloc (by simp) _).alloc (by simp; omega) _⟩

theorem Tryz.info85 : (Tryz.prog.info? 85).map (fun i => (i.zero, i.size, i.bytes)) = some (some (.agg #[.int .i64 0, .int .i64 0, .int .i64 0]), 3, 24) := by kernel_rfl
theorem Tryz.info82 : (Tryz.prog.info? 82).map (fun i => (i.zero, i.size, i.bytes)) = some (some (.agg #[.int .i64 0, .int .i64 0, .slice none 0 0, .slice none 0 0, .slice none 0 0]), 5, 88) := by kernel_rfl

theorem Room.madeR (w : World) (t : TypeId) (n : Nat) (z : Array Value) (m : Nat) (hm : m = n * 3) : Room (w.alloc (.cells (madeCells z m) t)) w.heap.size t (3 * n) .i64 (flat3 []) :=
  ⟨_, heap_alloc_new _ _, by rw [size_madeCells]; omega, rfl⟩
theorem Room.pushR {w : World} {g : Nat} {t : TypeId} {n : Nat} {ts : List Row3} (h : Room w g t (3 * n) .i64 (flat3 ts)) (hc : ts.length < n) (x y z : Int) :
    Room (((w.setCell ⟨g, ts.length * 3, none⟩ (.int .i64 x)).setCell ⟨g, ts.length * 3 + 1, none⟩ (.int .i64 y)).setCell ⟨g, ts.length * 3 + 2, none⟩ (.int .i64 z)) g t (3 * n) .i64 (flat3 (ts ++ [(x, y, z)])) := by
  have hl := flat3_length ts
  have h1 := h.push (by omega) x
  have h2 := h1.push (by simp; omega) y
  have h3 := h2.push (by simp; omega) z
  rw [List.length_append, List.length_append, hl] at h3
  rw [List.length_append, hl] at h3
  rw [flat3_snoc]
  simpa [Nat.mul_comm] using h3

set_option maxHeartbeats 400000 in
set_option maxRecDepth 100000 in
theorem toRows_m (A : Option Addr) (n c : Nat) (ts : List Row3) (w : World) (hr : ReadsR w w.heap.size A n ts) (hn : n ≤ 1048576) :
    Calls Tryz.prog 83 #[.slice A n c] w fun e w' => ∃ B, e = .returned (.slice B n n) ∧ MRows w' w.heap.size B n ts ∧ Below w.heap.size w w' := by
  have hmk := fun W => run_make_rows (P := Tryz.prog) 80 85 (.agg #[.int .i64 0, .int .i64 0, .int .i64 0]) 3 24 Tryz.underlying80 Tryz.info85 n (by omega) (by omega) W
  go_enter Tryz.func83, Tryz.ntmps83
  go_wp2
  go_loopw [4] (fun i wr => ∃ k : Nat, k ≤ n ∧ i = .int .i64 k ∧ Room wr w.heap.size 85 (3 * n) .i64 (flat3 (ts.take k)) ∧ Below w.heap.size w wr) (fun i _ => n - (intOf i).toNat)
  case atStart => exact ⟨0, Nat.zero_le _, rfl, Room.madeR w 85 n _ _ rfl, (Below.refl _ _).alloc (Nat.le_refl _) _⟩
  case round =>
    obtain ⟨k, hk, rfl, hroom, hbel⟩ := hrel
    clear hmk
    by_cases hlt : k < n
    · obtain ⟨b, off, x, y, z, rfl, hb, hc, hc', hc'', hx⟩ := (hr.below hbel).at_ hlt
      go_wp2_with fail
      refine (toRow_any x y z _).mono ?_
      rintro e w1 ⟨rfl, hb1⟩
      have hroom1 := hroom.below hb1 hroom.lt
      have hbel1 : Below w.heap.size w w1 := hbel.trans (hb1.mono hbel.size)
      obtain ⟨c0, hc0⟩ := hroom1.at_ (k * 3) (by omega)
      obtain ⟨c1, hc1⟩ := hroom1.at_ (k * 3 + 1) (by omega)
      obtain ⟨c2, hc2⟩ := hroom1.at_ (k * 3 + 2) (by omega)
      have hf0 := hroom1.frozen (k * 3)
      have hf1 := hroom1.frozen (k * 3 + 1)
      have hf2 := hroom1.frozen (k * 3 + 2)
      have hlen : (ts.take k).length = k := by rw [List.length_take, hr.1]; omega
      have hpush := hroom1.pushR (by rw [hlen]; exact hlt) x y z
      rw [hlen, ← takeA_more hx.out] at hpush
      have HP := put hpush; clear hpush hlen hc hc' hc'' hb1
      go_wp2
      go_roundw
      case rel => exact ⟨k + 1, by omega, by go_num, HP.out, ((hbel1.setCell (by simp) _).setCell (by simp) _).setCell (by simp) _⟩
      case measure => simp [intOf]; omega
    · have hfin := put (show ts.take k = ts from List.take_of_length_le (by rw [hr.1]; omega))
      go_wp2
      go_ret
      exact ⟨_, rfl, ⟨_, rfl, Nat.le_refl _, by rw [hfin.out] at hroom; exact hroom, hr.1⟩, hbel⟩
theorem RoomC.made (w : World) (n : Nat) (z : Array Value) (m : Nat) (hm : m = n * 5) : RoomC (w.alloc (.cells (madeCells z m) 82)) w.heap.size n [] :=
  ⟨_, heap_alloc_new _ _, by rw [size_madeCells]; omega, fun j s hj => by simp at hj⟩

set_option maxHeartbeats 1000000 in
set_option maxRecDepth 100000 in
theorem toCode_any (s : Cd) (A1 : Option Addr) (n1 c1 : Nat) (A2 : Option Addr) (n2 c2 : Nat) (A3 : Option Addr) (n3 c3 : Nat) (w : World) (hr : IsCd w w.heap.size s A1 n1 A2 n2 A3 n3) (hs : SmallC s) :
    Calls Tryz.prog 55 #[cdV s A1 n1 c1 A2 n2 c2 A3 n3 c3] w fun e w' => ∃ B1 B2 B3, e = .returned (cdV s B1 n1 n1 B2 n2 n2 B3 n3 n3) ∧ MCd w' w.heap.size s B1 n1 B2 n2 B3 n3 ∧ Below w.heap.size w w' := by
  obtain ⟨l1, l2, l3⟩ := hs
  rw [hr.sites.1] at l1; rw [hr.ins.1] at l2; rw [hr.rows.1] at l3
  unfold cdV
  go_enter Tryz.func55, Tryz.ntmps55
  go_wp2_with fail
  have hb0 : Below w.heap.size w (((w.alloc (.cells #[.int .i64 s.params, .int .i64 s.vars, .slice A1 n1 c1, .slice A2 n2 c2, .slice A3 n3 c3] 94)).alloc (.cells #[.int .i64 0, .int .i64 0, .slice none 0 0, .slice none 0 0, .slice none 0 0] 82)).alloc (.cells #[.int .i64 s.params, .int .i64 s.vars, .slice none 0 0, .slice none 0 0, .slice none 0 0] 82)) :=
    (((Below.refl _ _).alloc (Nat.le_refl _) _).alloc (by simp) _).alloc (by simp; omega) _
  have hx0 : Keep (((w.alloc (.cells #[.int .i64 s.params, .int .i64 s.vars, .slice A1 n1 c1, .slice A2 n2 c2, .slice A3 n3 c3] 94)).alloc (.cells #[.int .i64 0, .int .i64 0, .slice none 0 0, .slice none 0 0, .slice none 0 0] 82)).alloc (.cells #[.int .i64 s.params, .int .i64 s.vars, .slice none 0 0, .slice none 0 0, .slice none 0 0] 82)) w.heap.size #[.int .i64 s.params, .int .i64 s.vars, .slice A1 n1 c1, .slice A2 n2 c2, .slice A3 n3 c3] 94 := ((Keep.new _ _ _).alloc _).alloc _
  have hy0 : Keep (((w.alloc (.cells #[.int .i64 s.params, .int .i64 s.vars, .slice A1 n1 c1, .slice A2 n2 c2, .slice A3 n3 c3] 94)).alloc (.cells #[.int .i64 0, .int .i64 0, .slice none 0 0, .slice none 0 0, .slice none 0 0] 82)).alloc (.cells #[.int .i64 s.params, .int .i64 s.vars, .slice none 0 0, .slice none 0 0, .slice none 0 0] 82)) (w.heap.size + 1) #[.int .i64 0, .int .i64 0, .slice none 0 0, .slice none 0 0, .slice none 0 0] 82 := by
    have := Keep.new (w.alloc (.cells #[.int .i64 s.params, .int .i64 s.vars, .slice A1 n1 c1, .slice A2 n2 c2, .slice A3 n3 c3] 94)) #[.int .i64 0, .int .i64 0, .slice none 0 0, .slice none 0 0, .slice none 0 0] 82
    rw [World.size_alloc] at this
    exact this.alloc _
  have hz0 : Keep (((w.alloc (.cells #[.int .i64 s.params, .int .i64 s.vars, .slice A1 n1 c1, .slice A2 n2 c2, .slice A3 n3 c3] 94)).alloc (.cells #[.int .i64 0, .int .i64 0, .slice none 0 0, .slice none 0 0, .slice none 0 0] 82)).alloc (.cells #[.int .i64 s.params, .int .i64 s.vars, .slice none 0 0, .slice none 0 0, .slice none 0 0] 82)) (w.heap.size + 1 + 1) #[.int .i64 s.params, .int .i64 s.vars, .slice none 0 0, .slice none 0 0, .slice none 0 0] 82 := by
    have := Keep.new ((w.alloc (.cells #[.int .i64 s.params, .int .i64 s.vars, .slice A1 n1 c1, .slice A2 n2 c2, .slice A3 n3 c3] 94)).alloc (.cells #[.int .i64 0, .int .i64 0, .slice none 0 0, .slice none 0 0, .slice none 0 0] 82)) #[.int .i64 s.params, .int .i64 s.vars, .slice none 0 0, .slice none 0 0, .slice none 0 0] 82
    rw [World.size_alloc, World.size_alloc] at this
    exact this
  generalize hW0 : ((w.alloc (.cells #[.int .i64 s.params, .int .i64 s.vars, .slice A1 n1 c1, .slice A2 n2 c2, .slice A3 n3 c3] 94)).alloc (.cells #[.int .i64 0, .int .i64 0, .slice none 0 0, .slice none 0 0, .slice none 0 0] 82)).alloc (.cells #[.int .i64 s.params, .int .i64 s.vars, .slice none 0 0, .slice none 0 0, .slice none 0 0] 82) = W0 at hb0 hx0 hy0 hz0 ⊢
  clear hW0
  refine (toInts_m A1 n1 c1 s.sites _ (hr.sites.now hb0) l1).mono ?_
  rintro e V0 ⟨B1, rfl, m1, hc0⟩
  have s0 := hb0.size
  have t0 := hc0.size
  have l0z := hz0.lt
  replace hx0 := hx0.below hc0
  replace hy0 := hy0.below hc0
  replace hz0 := hz0.below hc0
  replace hb0 : Below w.heap.size w V0 := hb0.trans (hc0.mono hb0.size)
  replace m1 := m1.same ((SameFrom.setCell V0 (w.heap.size + 1 + 1) 2 (.slice B1 n1 n1)).mono (by omega))
  have hx1 := hx0.other (g' := w.heap.size + 1 + 1) (by omega) 2 (.slice B1 n1 n1)
  have hy1 := hy0.other (g' := w.heap.size + 1 + 1) (by omega) 2 (.slice B1 n1 n1)
  have hz1 := hz0.set 2 (.slice B1 n1 n1)
  have q2 := hz0.cell 2
  have q3 := hz0.frozen 2
  simp at q2
  have hb1 : Below w.heap.size w (V0.setCell ⟨w.heap.size + 1 + 1, 2, none⟩ (.slice B1 n1 n1)) := hb0.setCell (by simp; omega) _
  have q1 := hx0.cell 3
  simp at q1
  clear hx0 hy0 hz0 hb0 hc0
  go_wp2_with fail
  generalize hW : V0.setCell ⟨w.heap.size + 1 + 1, 2, none⟩ (.slice B1 n1 n1) = W1 at m1 hx1 hy1 hz1 hb1 ⊢
  clear hW q1 q2 q3
  refine (toToks_m A2 n2 c2 s.ins _ (hr.ins.now hb1) l2).mono ?_
  rintro e V1 ⟨B2, rfl, m2, hc1⟩
  have s1 := hb1.size
  have t1 := hc1.size
  have l1z := hz1.lt
  replace m1 := m1.same (SameFrom.of_below hc1)
  replace hx1 := hx1.below hc1
  replace hy1 := hy1.below hc1
  replace hz1 := hz1.below hc1
  replace hb1 : Below w.heap.size w V1 := hb1.trans (hc1.mono hb1.size)
  replace m1 := m1.same ((SameFrom.setCell V1 (w.heap.size + 1 + 1) 3 (.slice B2 n2 n2)).mono (by omega))
  replace m2 := m2.same ((SameFrom.setCell V1 (w.heap.size + 1 + 1) 3 (.slice B2 n2 n2)).mono (by omega))
  have hx2 := hx1.other (g' := w.heap.size + 1 + 1) (by omega) 3 (.slice B2 n2 n2)
  have hy2 := hy1.other (g' := w.heap.size + 1 + 1) (by omega) 3 (.slice B2 n2 n2)
  have hz2 := hz1.set 3 (.slice B2 n2 n2)
  have q2 := hz1.cell 3
  have q3 := hz1.frozen 3
  simp at q2
  have hb2 : Below w.heap.size w (V1.setCell ⟨w.heap.size + 1 + 1, 3, none⟩ (.slice B2 n2 n2)) := hb1.setCell (by simp; omega) _
  have q1 := hx1.cell 4
  simp at q1
  clear hx1 hy1 hz1 hb1 hc1
  go_wp2_with fail
  generalize hW : V1.setCell ⟨w.heap.size + 1 + 1, 3, none⟩ (.slice B2 n2 n2) = W2 at m1 m2 hx2 hy2 hz2 hb2 ⊢
  clear hW q1 q2 q3
  refine (toRows_m A3 n3 c3 s.rows _ (hr.rows.now hb2) l3).mono ?_
  rintro e V2 ⟨B3, rfl, m3, hc2⟩
  have s2 := hb2.size
  have t2 := hc2.size
  have l2z := hz2.lt
  replace m1 := m1.same (SameFrom.of_below hc2)
  replace m2 := m2.same (SameFrom.of_below hc2)
  replace hx2 := hx2.below hc2
  replace hy2 := hy2.below hc2
  replace hz2 := hz2.below hc2
  replace hb2 : Below w.heap.size w V2 := hb2.trans (hc2.mono hb2.size)
  replace m1 := m1.same ((SameFrom.setCell V2 (w.heap.size + 1 + 1) 4 (.slice B3 n3 n3)).mono (by omega))
  replace m2 := m2.same ((SameFrom.setCell V2 (w.heap.size + 1 + 1) 4 (.slice B3 n3 n3)).mono (by omega))
  replace m3 := m3.same ((SameFrom.setCell V2 (w.heap.size + 1 + 1) 4 (.slice B3 n3 n3)).mono (by omega))
  have hx3 := hx2.other (g' := w.heap.size + 1 + 1) (by omega) 4 (.slice B3 n3 n3)
  have hy3 := hy2.other (g' := w.heap.size + 1 + 1) (by omega) 4 (.slice B3 n3 n3)
  have hz3 := hz2.set 4 (.slice B3 n3 n3)
  have q2 := hz2.cell 4
  have q3 := hz2.frozen 4
  simp at q2
  have hb3 : Below w.heap.size w (V2.setCell ⟨w.heap.size + 1 + 1, 4, none⟩ (.slice B3 n3 n3)) := hb2.setCell (by simp; omega) _
  have z0 := hz2.cell 0
  have z1 := hz2.cell 1
  have z2 := hz2.cell 2
  have z3 := hz2.cell 3
  have y0 := hy2.cell 0
  have f0 := hy2.frozen 0
  have y1 := hy2.cell 1
  have f1 := hy2.frozen 1
  have y2 := hy2.cell 2
  have f2 := hy2.frozen 2
  have y3 := hy2.cell 3
  have f3 := hy2.frozen 3
  have y4 := hy2.cell 4
  have f4 := hy2.frozen 4
  simp at z0 z1 z2 z3 y0 y1 y2 y3 y4
  clear hx2 hy2 hz2 hb2 hc2 hx3
  go_wp2
  replace m1 := m1.same ((SameFrom.setCell _ (w.heap.size + 1) 0 (.int .i64 s.params)).mono (by omega))
  replace m1 := m1.same ((SameFrom.setCell _ (w.heap.size + 1) 1 (.int .i64 s.vars)).mono (by omega))
  replace m1 := m1.same ((SameFrom.setCell _ (w.heap.size + 1) 2 (.slice B1 n1 n1)).mono (by omega))
  replace m1 := m1.same ((SameFrom.setCell _ (w.heap.size + 1) 3 (.slice B2 n2 n2)).mono (by omega))
  replace m1 := m1.same ((SameFrom.setCell _ (w.heap.size + 1) 4 (.slice B3 n3 n3)).mono (by omega))
  replace m2 := m2.same ((SameFrom.setCell _ (w.heap.size + 1) 0 (.int .i64 s.params)).mono (by omega))
  replace m2 := m2.same ((SameFrom.setCell _ (w.heap.size + 1) 1 (.int .i64 s.vars)).mono (by omega))
  replace m2 := m2.same ((SameFrom.setCell _ (w.heap.size + 1) 2 (.slice B1 n1 n1)).mono (by omega))
  replace m2 := m2.same ((SameFrom.setCell _ (w.heap.size + 1) 3 (.slice B2 n2 n2)).mono (by omega))
  replace m2 := m2.same ((SameFrom.setCell _ (w.heap.size + 1) 4 (.slice B3 n3 n3)).mono (by omega))
  replace m3 := m3.same ((SameFrom.setCell _ (w.heap.size + 1) 0 (.int .i64 s.params)).mono (by omega))
  replace m3 := m3.same ((SameFrom.setCell _ (w.heap.size + 1) 1 (.int .i64 s.vars)).mono (by omega))
  replace m3 := m3.same ((SameFrom.setCell _ (w.heap.size + 1) 2 (.slice B1 n1 n1)).mono (by omega))
  replace m3 := m3.same ((SameFrom.setCell _ (w.heap.size + 1) 3 (.slice B2 n2 n2)).mono (by omega))
  replace m3 := m3.same ((SameFrom.setCell _ (w.heap.size + 1) 4 (.slice B3 n3 n3)).mono (by omega))
  have hyF := (((((hy3.set 0 (.int .i64 s.params)).set 1 (.int .i64 s.vars)).set 2 (.slice B1 n1 n1)).set 3 (.slice B2 n2 n2)).set 4 (.slice B3 n3 n3))
  have r0 := hyF.cell 0
  have r1 := hyF.cell 1
  have r2 := hyF.cell 2
  have r3 := hyF.cell 3
  have r4 := hyF.cell 4
  simp at r0 r1 r2 r3 r4
  have hbF := (((((hb3.setCell (p := ⟨w.heap.size + 1, 0, none⟩) (Nat.le_succ _) (.int .i64 s.params)).setCell (p := ⟨w.heap.size + 1, 1, none⟩) (Nat.le_succ _) (.int .i64 s.vars)).setCell (p := ⟨w.heap.size + 1, 2, none⟩) (Nat.le_succ _) (.slice B1 n1 n1)).setCell (p := ⟨w.heap.size + 1, 3, none⟩) (Nat.le_succ _) (.slice B2 n2 n2)).setCell (p := ⟨w.heap.size + 1, 4, none⟩) (Nat.le_succ _) (.slice B3 n3 n3))
  clear hyF z0 y0 f0 z1 y1 f1 z2 y2 f2 z3 y3 f3 y4 f4
  exact bodyPost_ret (v := .agg #[.int .i64 s.params, .int .i64 s.vars, .slice B1 n1 n1, .slice B2 n2 n2, .slice B3 n3 n3]) (by simp [results, Tryz.results55, go_sem, r0, r1, r2, r3, r4]) rfl ⟨B1, B2, B3, rfl, ⟨m1.from (by omega), m2.from (by omega), m3.from (by omega)⟩, hbF⟩

set_option maxHeartbeats 1000000 in
set_option maxRecDepth 100000 in
theorem toCodes_any (A : Option Addr) (n c : Nat) (ss : List Cd) (w : World) (hr : ReadsC w w.heap.size A n ss) (hn : n ≤ 1048576) (hs : ∀ s ∈ ss, SmallC s) :
    Calls Tryz.prog 30 #[.slice A n c] w fun e w' => ∃ B, e = .returned (.slice B n n) ∧ MCds w' w.heap.size B n ss ∧ Below w.heap.size w w' := by
  have hmk := fun W => run_make_rows (P := Tryz.prog) 34 82 (.agg #[.int .i64 0, .int .i64 0, .slice none 0 0, .slice none 0 0, .slice none 0 0]) 5 88 Tryz.underlying34 Tryz.info82 n (by omega) (by omega) W
  go_enter Tryz.func30, Tryz.ntmps30
  go_wp2
  go_loopw [4] (fun i wr => ∃ k : Nat, k ≤ n ∧ i = .int .i64 k ∧ RoomC wr w.heap.size n (ss.take k) ∧ Below w.heap.size w wr) (fun i _ => n - (intOf i).toNat)
  case atStart => exact ⟨0, Nat.zero_le _, rfl, RoomC.made w n _ _ rfl, (Below.refl _ _).alloc (Nat.le_refl _) _⟩
  case round =>
    obtain ⟨k, hk, rfl, hroom, hbel⟩ := hrel
    clear hmk
    by_cases hlt : k < n
    · obtain ⟨b, off, s, A1, n1, c1, A2, n2, c2, A3, n3, c3, rfl, hb, g0, g1, g2, g3, g4, r1, r2, r3, hx⟩ := (hr.below hbel).at_ hlt
      go_wp2_with fail
      refine (toCode_any s _ _ _ _ _ _ _ _ _ _ (IsCd.more ⟨r1, r2, r3⟩ hbel.size) (hs _ (mem_of_at hx.out))).mono ?_
      rintro e w1 ⟨B1, B2, B3, rfl, hm, hb1⟩
      have hroom1 := hroom.same (SameFrom.of_below hb1)
      have hbel1 : Below w.heap.size w w1 := hbel.trans (hb1.mono hbel.size)
      obtain ⟨d0, hd0⟩ := hroom1.at_ (k * 5) (by omega)
      obtain ⟨d1, hd1⟩ := hroom1.at_ (k * 5 + 1) (by omega)
      obtain ⟨d2, hd2⟩ := hroom1.at_ (k * 5 + 2) (by omega)
      obtain ⟨d3, hd3⟩ := hroom1.at_ (k * 5 + 3) (by omega)
      obtain ⟨d4, hd4⟩ := hroom1.at_ (k * 5 + 4) (by omega)
      have hf0 := hroom1.frozen (k * 5)
      have hf1 := hroom1.frozen (k * 5 + 1)
      have hf2 := hroom1.frozen (k * 5 + 2)
      have hf3 := hroom1.frozen (k * 5 + 3)
      have hf4 := hroom1.frozen (k * 5 + 4)
      have hlen : (ss.take k).length = k := by rw [List.length_take, hr.1]; omega
      have hpush := hroom1.push (by rw [hlen]; exact hlt) s B1 n1 n1 B2 n2 n2 B3 n3 n3 (hm.from hroom.lt)
      rw [hlen, ← takeA_more hx.out] at hpush
      have HP := put hpush; clear hpush hlen g0 g1 g2 g3 g4 hb1 hroom hroom1 hm r1 r2 r3
      unfold cdV
      go_wp2
      go_roundw
      case rel => exact ⟨k + 1, by omega, by go_num, HP.out, ((((hbel1.setCell (by simp) _).setCell (by simp) _).setCell (by simp) _).setCell (by simp) _).setCell (by simp) _⟩
      case measure => simp [intOf]; omega
    · have hfin := put (show ss.take k = ss from List.take_of_length_le (by rw [hr.1]; omega))
      go_wp2
      go_ret
      exact ⟨_, rfl, ⟨_, rfl, Nat.le_refl _, by rw [hfin.out] at hroom; exact hroom, hr.1⟩, hbel⟩

structure Im where
  codes : List Cd
def imV (_ : Im) (A : Option Addr) (n c : Nat) : Value := .agg #[.slice A n c]
structure IsIm (w : World) (B : Nat) (p : Im) (A : Option Addr) (n : Nat) : Prop where
  codes : ReadsC w B A n p.codes
structure MIm (w : World) (L : Nat) (p : Im) (A : Option Addr) (n : Nat) : Prop where
  codes : MCds w L A n p.codes
def SmallIm (p : Im) : Prop := SmallI p.codes

set_option maxHeartbeats 1000000 in
set_option maxRecDepth 100000 in
theorem toIm_any (p : Im) (A1 : Option Addr) (n1 c1 : Nat) (w : World) (hr : IsIm w w.heap.size p A1 n1) (hs : SmallIm p) :
    Calls Tryz.prog 9 #[imV p A1 n1 c1] w fun e w' => ∃ B1, e = .returned (imV p B1 n1 n1) ∧ MIm w' w.heap.size p B1 n1 ∧ Below w.heap.size w w' := by
  obtain ⟨l1, l2⟩ := hs
  rw [hr.codes.1] at l1
  unfold imV
  go_enter Tryz.func9, Tryz.ntmps9
  go_wp2_with fail
  have hb0 : Below w.heap.size w (((w.alloc (.cells #[.slice A1 n1 c1] 24)).alloc (.cells #[.slice none 0 0] 36)).alloc (.cells #[.slice none 0 0] 36)) :=
    (((Below.refl _ _).alloc (Nat.le_refl _) _).alloc (by simp) _).alloc (by simp; omega) _
  have hx0 : Keep (((w.alloc (.cells #[.slice A1 n1 c1] 24)).alloc (.cells #[.slice none 0 0] 36)).alloc (.cells #[.slice none 0 0] 36)) w.heap.size #[.slice A1 n1 c1] 24 := ((Keep.new _ _ _).alloc _).alloc _
  have hy0 : Keep (((w.alloc (.cells #[.slice A1 n1 c1] 24)).alloc (.cells #[.slice none 0 0] 36)).alloc (.cells #[.slice none 0 0] 36)) (w.heap.size + 1) #[.slice none 0 0] 36 := by
    have := Keep.new (w.alloc (.cells #[.slice A1 n1 c1] 24)) #[.slice none 0 0] 36
    rw [World.size_alloc] at this
    exact this.alloc _
  have hz0 : Keep (((w.alloc (.cells #[.slice A1 n1 c1] 24)).alloc (.cells #[.slice none 0 0] 36)).alloc (.cells #[.slice none 0 0] 36)) (w.heap.size + 1 + 1) #[.slice none 0 0] 36 := by
    have := Keep.new ((w.alloc (.cells #[.slice A1 n1 c1] 24)).alloc (.cells #[.slice none 0 0] 36)) #[.slice none 0 0] 36
    rw [World.size_alloc, World.size_alloc] at this
    exact this
  generalize hW0 : ((w.alloc (.cells #[.slice A1 n1 c1] 24)).alloc (.cells #[.slice none 0 0] 36)).alloc (.cells #[.slice none 0 0] 36) = W0 at hb0 hx0 hy0 hz0 ⊢
  clear hW0
  refine (toCodes_any A1 n1 c1 p.codes _ (hr.codes.now hb0) l1 l2).mono ?_
  rintro e V0 ⟨B1, rfl, m1, hc0⟩
  have s0 := hb0.size
  have t0 := hc0.size
  have l0z := hz0.lt
  replace hx0 := hx0.below hc0
  replace hy0 := hy0.below hc0
  replace hz0 := hz0.below hc0
  replace hb0 : Below w.heap.size w V0 := hb0.trans (hc0.mono hb0.size)
  replace m1 := m1.same ((SameFrom.setCell V0 (w.heap.size + 1 + 1) 0 (.slice B1 n1 n1)).mono (by omega))
  have hx1 := hx0.other (g' := w.heap.size + 1 + 1) (by omega) 0 (.slice B1 n1 n1)
  have hy1 := hy0.other (g' := w.heap.size + 1 + 1) (by omega) 0 (.slice B1 n1 n1)
  have hz1 := hz0.set 0 (.slice B1 n1 n1)
  have q2 := hz0.cell 0
  have q3 := hz0.frozen 0
  simp at q2
  have hb1 : Below w.heap.size w (V0.setCell ⟨w.heap.size + 1 + 1, 0, none⟩ (.slice B1 n1 n1)) := hb0.setCell (by simp; omega) _
  have y0 := hy0.cell 0
  have f0 := hy0.frozen 0
  simp at  y0
  clear hx0 hy0 hz0 hb0 hc0 hx1
  go_wp2
  replace m1 := m1.same ((SameFrom.setCell _ (w.heap.size + 1) 0 (.slice B1 n1 n1)).mono (by omega))
  have hyF := (hy1.set 0 (.slice B1 n1 n1))
  have r0 := hyF.cell 0
  simp at r0
  have hbF := (hb1.setCell (p := ⟨w.heap.size + 1, 0, none⟩) (Nat.le_succ _) (.slice B1 n1 n1))
  clear hyF  y0 f0
  exact bodyPost_ret (v := .agg #[.slice B1 n1 n1]) (by simp [results, Tryz.results9, go_sem, r0]) rfl ⟨B1, rfl, ⟨m1.from (by omega)⟩, hbF⟩

theorem toImage_any (A : Option Addr) (n c : Nat) (cs : List Cd) (w : World) (hr : ReadsC w w.heap.size A n cs) (hs : SmallI cs) :
    Calls Tryz.prog 9 #[.agg #[.slice A n c]] w fun e w' => ∃ B, e = .returned (.agg #[.slice B n n]) ∧ MCds w' w.heap.size B n cs ∧ Below w.heap.size w w' :=
  (toIm_any ⟨cs⟩ A n c w ⟨hr⟩ hs).mono fun _ _ ⟨B, he, hm, hb⟩ => ⟨B, he, hm.codes, hb⟩

end Go.Proofs.YtpbkkjiikhjanaaGreatDoor

/-
  The laws' marks on a copied image: numbers over numbers, in the copy's own blocks alone. Contracts.
-/
namespace Go.Proofs.YtpbkkjiikhjanaaGreatDoor
open Go.RowKit Exs

/-- From block L on and below R numbers may have been written over numbers; all else is as it was. -/
structure Inked (L R : Nat) (w w' : World) : Prop where
  below : Below L w w'
  above : ∀ k, R ≤ k → k < w.heap.size → w'.heap[k]? = w.heap[k]?
  cells : ∀ (k : Nat) (cs : Array Value) (t : TypeId), w.heap[k]? = some (.cells cs t (0, 0)) → ∃ cs' : Array Value, w'.heap[k]? = some (.cells cs' t (0, 0)) ∧ cs'.size = cs.size ∧ ∀ (i : Nat) (v : Value), cs[i]? = some v → (∃ x y, v = .int .i64 x ∧ cs'[i]? = some (.int .i64 y)) ∨ cs'[i]? = some v
theorem Inked.refl (L R : Nat) (w : World) : Inked L R w w := ⟨Below.refl _ _, fun _ _ _ => rfl, fun _ cs _ h => ⟨cs, h, rfl, fun _ _ h => .inr h⟩⟩
theorem Inked.trans {L R : Nat} {a b c : World} (h : Inked L R a b) (k : Inked L R b c) : Inked L R a c := by
  refine ⟨h.below.trans k.below, fun i hi hs => (k.above i hi (by have := h.below.size; omega)).trans (h.above i hi hs), fun i cs t hc => ?_⟩
  obtain ⟨ds, h1, h2, h3⟩ := h.cells i cs t hc
  obtain ⟨es, k1, k2, k3⟩ := k.cells i ds t h1
  refine ⟨es, k1, k2.trans h2, fun j v hv => ?_⟩
  rcases h3 j v hv with ⟨x, y, rfl, hy⟩ | hy
  · rcases k3 j _ hy with ⟨_, z, _, hz⟩ | hz
    · exact .inl ⟨x, z, rfl, hz⟩
    · exact .inl ⟨x, y, rfl, hz⟩
  · exact k3 j v hy
theorem Inked.alloc {L R : Nat} {w w' : World} (h : Inked L R w w') (hL : L ≤ w'.heap.size) (o : Obj) : Inked L R w (w'.alloc o) := by
  refine ⟨h.below.alloc hL o, fun k hk hs => (Below.heap_alloc _ _ _ (by have := h.below.size; omega)).trans (h.above k hk hs), fun k cs t hc => ?_⟩
  obtain ⟨cs', h1, h2⟩ := h.cells k cs t hc
  exact ⟨cs', (Below.heap_alloc _ _ _ ((Array.getElem?_eq_some_iff.1 h1).1)).trans h1, h2⟩
theorem Inked.set {L R : Nat} {w w' : World} (h : Inked L R w w') {g i : Nat} {cs : Array Value} {t : TypeId} {x : Int} (hL : L ≤ g) (hR : g < R) (hg : w.heap[g]? = some (.cells cs t (0, 0))) (hc : cs[i]? = some (.int .i64 x)) (y : Int) :
    Inked L R w (w'.setCell ⟨g, i, none⟩ (.int .i64 y)) := by
  refine ⟨h.below.setCell hL _, fun k hk hs => (Below.heap_setCell _ _ _ _ (show k ≠ g by omega)).trans (h.above k hk hs), fun k ds u hd => ?_⟩
  obtain ⟨ds', h1, h2, h3⟩ := h.cells k ds u hd
  by_cases hkg : k = g
  · subst hkg
    rw [hg] at hd
    injection hd with hd
    injection hd with e1 e2 _
    subst e1 e2
    refine ⟨ds'.setIfInBounds i (.int .i64 y), heap_set h1, by simpa using h2, fun j v hv => ?_⟩
    by_cases hj : j = i
    · subst hj
      rw [hc] at hv
      injection hv with hv
      refine .inl ⟨x, y, hv.symm, ?_⟩
      have := (Array.getElem?_eq_some_iff.1 hc).1
      rw [Array.getElem?_setIfInBounds, if_pos rfl, if_pos (by omega)]
    · rw [Array.getElem?_setIfInBounds, if_neg (fun e => hj e.symm)]
      exact h3 j v hv
  · exact ⟨ds', (Below.heap_setCell _ _ _ _ hkg).trans h1, h2, h3⟩
theorem Inked.num {L R : Nat} {w w' : World} (h : Inked L R w w') {g i : Nat} {cs : Array Value} {t : TypeId} {x : Int} (hg : w.heap[g]? = some (.cells cs t (0, 0))) (hc : cs[i]? = some (.int .i64 x)) : ∃ y, w'.cell? ⟨g, i, none⟩ = some (.int .i64 y) := by
  obtain ⟨cs', h1, h2, h3⟩ := h.cells g cs t hg
  rw [cell_of_row w' g i cs' t (0, 0) h1]
  rcases h3 i _ hc with ⟨_, y, _, hy⟩ | hy
  · exact ⟨y, hy⟩
  · exact ⟨x, hy⟩
theorem Inked.slc {L R : Nat} {w w' : World} (h : Inked L R w w') {g i : Nat} {cs : Array Value} {t : TypeId} {A : Option Addr} {n c : Nat} (hg : w.heap[g]? = some (.cells cs t (0, 0))) (hc : cs[i]? = some (.slice A n c)) : w'.cell? ⟨g, i, none⟩ = some (.slice A n c) := by
  obtain ⟨cs', h1, h2, h3⟩ := h.cells g cs t hg
  rw [cell_of_row w' g i cs' t (0, 0) h1]
  rcases h3 i _ hc with ⟨_, y, hx, _⟩ | hy
  · cases hx
  · exact hy
theorem Inked.frozen {L R : Nat} {w w' : World} (h : Inked L R w w') {g : Nat} {cs : Array Value} {t : TypeId} (hg : w.heap[g]? = some (.cells cs t (0, 0))) (i : Nat) : w'.frozen? ⟨g, i, none⟩ = false := by
  obtain ⟨cs', h1, _⟩ := h.cells g cs t hg
  simp [World.frozen?, h1]

theorem Room.cells_ {w : World} {g : Nat} {t : TypeId} {c : Nat} {k : IntKind} {xs : List Int} (h : Room w g t c k xs) : ∃ cs : Array Value, w.heap[g]? = some (.cells cs t (0, 0)) ∧ ∀ j, j < xs.length → cs[j]? = some (.int k (xs.getD j 0)) := by
  have hc := h.cell
  obtain ⟨cs, h1, _⟩ := h
  refine ⟨cs, h1, fun j hj => ?_⟩
  rw [← hc j hj, cell_of_row w g j cs t (0, 0) h1]


def inkC (s : Cd) : Nat := 2 + s.sites.length + 2 * s.ins.length + 3 * s.rows.length
def inkCs : List Cd → Nat
  | [] => 0
  | s :: r => inkC s + inkCs r
theorem inkCs_append (a b : List Cd) : inkCs (a ++ b) = inkCs a + inkCs b := by induction a with | nil => simp [inkCs] | cons s r ih => simp [inkCs, ih]; omega
theorem inkCs_le : ∀ ss : List Cd, inkCs ss ≤ 3 * (ss.length + manyCs ss)
  | [] => by simp [inkCs]
  | s :: r => by have := inkCs_le r; simp only [inkCs, inkC, manyCs, manyC, List.length_cons]; omega
theorem inkCs_step {ss : List Cd} {k : Nat} {s : Cd} (h : ss[k]? = some s) : inkCs (ss.take (k + 1)) = inkCs (ss.take k) + inkC s ∧ inkCs (ss.take k) + inkC s ≤ inkCs ss := by
  have h1 : inkCs (ss.take (k + 1)) = inkCs (ss.take k) + inkC s := by rw [takeA_more h, inkCs_append]; simp [inkCs]
  refine ⟨h1, ?_⟩
  rw [← h1]
  conv => rhs; rw [← List.take_append_drop (k + 1) ss, inkCs_append]
  omega
end Go.Proofs.YtpbkkjiikhjanaaGreatDoor

/-
  A row of numbers of the call's own: the laws' marks on it, what a marked program leaves of it. Contracts.
-/
namespace Go.Proofs.YtpbkkjiikhjanaaGreatDoor
open Go.RowKit Exs

/-- The numbers 1, 2, .. -/
def ups (n : Nat) : List Int := (List.range n).map fun j => ((j + 1 : Nat) : Int)
theorem ups_more (n : Nat) : ups (n + 1) = ups n ++ [(n : Int) + 1] := by simp [ups, List.range_succ]
theorem ups_length (n : Nat) : (ups n).length = n := by simp [ups]
theorem ups_get {n i : Nat} (h : i < n) : (ups n).getD i 0 = (i : Int) + 1 := by
  simp [ups, List.getD, h]
theorem Room.none_ {w : World} {g : Nat} {t : TypeId} {c : Nat} {k : IntKind} {xs : List Int} (h : Room w g t c k xs) : Room w g t c k [] := by
  obtain ⟨cs, h1, h2, _⟩ := h
  exact ⟨cs, h1, h2, rfl⟩

theorem Nums.of_room {w : World} {B g : Nat} {t : TypeId} {c : Nat} {k : IntKind} {xs : List Int} (h : Room w g t c k xs) (hB : B ≤ g) (hl : xs.length ≤ c) (hc : c ≤ maxLen) : Nums w B t k (.slice (some ⟨g, 0, none⟩) xs.length c) xs := by
  obtain ⟨cs, h1, h2, h3⟩ := h
  exact ⟨by simp, .inr ⟨g, c, cs, rfl, hB, h1, hl, hc, by simpa using h2, by simpa using h3⟩⟩
theorem Nums.to_room {w : World} {B : Nat} {t : TypeId} {k : IntKind} {v : Value} {xs : List Int} (h : Nums w B t k v xs) : (v = .slice none 0 0 ∧ xs = []) ∨ ∃ g c, v = .slice (some ⟨g, 0, none⟩) xs.length c ∧ B ≤ g ∧ Room w g t c k xs ∧ xs.length ≤ c ∧ c ≤ maxLen := by
  rcases h.2 with ⟨rfl, hn⟩ | ⟨g, cap, cur, rfl, hB, hg, hnc, hm, hcs, htk⟩
  · exact .inl ⟨rfl, List.eq_nil_of_length_eq_zero hn⟩
  · exact .inr ⟨g, cap, rfl, hB, ⟨cur, hg, by simpa using hcs, by simpa using htk⟩, hnc, hm⟩
theorem Nums.inked {w w' : World} {B L R : Nat} {t : TypeId} {k : IntKind} {v : Value} {xs : List Int} (h : Nums w B t k v xs) (hR : R ≤ B) (hi : Inked L R w w') : Nums w' B t k v xs := by
  obtain ⟨h1, h2⟩ := h
  refine ⟨h1, ?_⟩
  rcases h2 with h2 | ⟨g, cap, cur, hv, hg, hh, r⟩
  · exact Or.inl h2
  · exact Or.inr ⟨g, cap, cur, hv, hg, (hi.above g (by omega) (Array.getElem?_eq_some_iff.1 hh).1).trans hh, r⟩

/-- Rows of one list are the same for the laws' comparing. -/
theorem eqNums_any (v v' : Value) (xs : List Int) (B B' : Nat) (w : World) (h : Nums w B 3 .i64 v xs) (h' : Nums w B' 3 .i64 v' xs) (hn : xs.length ≤ 1048576) :
    Calls Tryz.prog 39 #[v, v'] w fun e w' => e = .returned (.bool true) ∧ ∃ q, w' = w.drewN q := by
  obtain ⟨A, c, rfl, hr⟩ := h.reads
  obtain ⟨A', c', rfl, hr'⟩ := h'.reads
  exact eqInts_same A A' _ c c' xs w hr hr' hn
theorem Nums.drewN {w : World} {B : Nat} {t : TypeId} {k : IntKind} {v : Value} {xs : List Int} (h : Nums w B t k v xs) (q : Nat) : Nums (w.drewN q) B t k v xs := h
/-- A row that lies below L, while all below L stays. -/
theorem Nums.under {w w' : World} {B L : Nat} {t : TypeId} {k : IntKind} {v : Value} {xs : List Int} (h : Nums w B t k v xs) (hL : w.heap.size ≤ L) (hb : Below L w w') : Nums w' B t k v xs := h.belowNew (hb.mono hL)

end Go.Proofs.YtpbkkjiikhjanaaGreatDoor

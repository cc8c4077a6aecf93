/-
  Texts joined: Cod CoTo.
-/
import Derived.Test.YtpmpjiigmjnniaaJPrg
import Derived.Test.YtpmpjiigmjnniaaJOwn
import Derived.Test.YtpmpjiigmjnniaaJTokMem
/-
  Images in memory: codes, slices of them that are read. Over any program.
-/
namespace Go.Proofs.Ytpmpjiigmjnniaa
open Go.RowKit Exs

/-- A row of a code: from, to, pad. -/
abbrev Row3 := Int × Int × Int
structure Cd where
  params : Int
  vars : Int
  sites : List Int
  ins : List Token
  rows : List Row3

def flat3 (rs : List Row3) : List Int := rs.flatMap fun r => [r.1, r.2.1, r.2.2]
theorem flat3_length (rs : List Row3) : (flat3 rs).length = 3 * rs.length := by
  induction rs with
  | nil => rfl
  | cons t r ih => simp only [flat3, List.flatMap_cons, List.length_append, List.length_cons, List.length_nil] at *; omega
theorem flat3_at : ∀ {rs : List Row3} {j : Nat} {t : Row3}, rs[j]? = some t → (flat3 rs)[3 * j]? = some t.1 ∧ (flat3 rs)[3 * j + 1]? = some t.2.1 ∧ (flat3 rs)[3 * j + 2]? = some t.2.2
  | [], _, _, h => by simp at h
  | a :: r, 0, t, h => by simp at h; subst h; exact ⟨rfl, rfl, rfl⟩
  | a :: r, j + 1, t, h => by
    have := flat3_at (rs := r) (j := j) (t := t) (by simpa using h)
    rw [show 3 * (j + 1) = 3 * j + 1 + 1 + 1 by omega]
    simpa [flat3] using this
theorem flat3_snoc (rs : List Row3) (t : Row3) : flat3 (rs ++ [t]) = flat3 rs ++ [t.1] ++ [t.2.1] ++ [t.2.2] := by simp [flat3]
/-- The slice value '.slice A n c' reads as the rows rs, and lies below block B. -/
def ReadsR (w : World) (B : Nat) (A : Option Addr) (n : Nat) (rs : List Row3) : Prop := rs.length = n ∧ Reads w B .i64 A (3 * n) (flat3 rs)
section
variable {w w' : World} {B B' : Nat} {A : Option Addr} {n : Nat} {rs : List Row3}
theorem ReadsR.below (h : ReadsR w B A n rs) (hb : Below B w w') : ReadsR w' B A n rs := ⟨h.1, h.2.below hb⟩
theorem ReadsR.more (h : ReadsR w B A n rs) (hB : B ≤ B') : ReadsR w B' A n rs := ⟨h.1, h.2.more hB⟩
theorem ReadsR.at_ (h : ReadsR w B A n rs) {j : Nat} (hj : j < n) : ∃ b off x y z, A = some ⟨b, off, none⟩ ∧ b < B ∧ w.cell? ⟨b, off + j * 3, none⟩ = some (.int .i64 x) ∧ w.cell? ⟨b, off + j * 3 + 1, none⟩ = some (.int .i64 y) ∧ w.cell? ⟨b, off + j * 3 + 2, none⟩ = some (.int .i64 z) ∧ Hid (rs[j]? = some (x, y, z)) := by
  obtain ⟨b, off, rfl, hb, hc⟩ := h.2.2 (by omega)
  have hl : j < rs.length := by rw [h.1]; exact hj
  have hx := flat3_at (List.getElem?_eq_getElem hl)
  refine ⟨b, off, rs[j].1, rs[j].2.1, rs[j].2.2, rfl, hb, ?_, ?_, ?_, List.getElem?_eq_getElem hl⟩
  · rw [Nat.mul_comm]; exact hc _ _ hx.1
  · rw [Nat.mul_comm, Nat.add_assoc]; exact hc _ _ hx.2.1
  · rw [Nat.mul_comm, Nat.add_assoc]; exact hc _ _ hx.2.2
end
/-- The slice value '.slice A n c' reads as the codes ss, and lies, with all that it leads to, below block B. -/
def ReadsC (w : World) (B : Nat) (A : Option Addr) (n : Nat) (ss : List Cd) : Prop :=
  ss.length = n ∧ (0 < n → ∃ b off, A = some ⟨b, off, none⟩ ∧ b < B ∧ ∀ (j : Nat) (s : Cd), ss[j]? = some s →
    ∃ A1 n1 c1 A2 n2 c2 A3 n3 c3, w.cell? ⟨b, off + j * 5, none⟩ = some (.int .i64 s.params) ∧ w.cell? ⟨b, off + j * 5 + 1, none⟩ = some (.int .i64 s.vars) ∧ w.cell? ⟨b, off + j * 5 + 2, none⟩ = some (.slice A1 n1 c1) ∧
      w.cell? ⟨b, off + j * 5 + 3, none⟩ = some (.slice A2 n2 c2) ∧ w.cell? ⟨b, off + j * 5 + 4, none⟩ = some (.slice A3 n3 c3) ∧ Reads w B .i64 A1 n1 s.sites ∧ ReadsT w B A2 n2 s.ins ∧ ReadsR w B A3 n3 s.rows)

section
variable {w w' : World} {B B' : Nat} {A : Option Addr} {n : Nat} {ss : List Cd}
theorem ReadsC.below (h : ReadsC w B A n ss) (hb : Below B w w') : ReadsC w' B A n ss :=
  ⟨h.1, fun hn => by
    obtain ⟨b, off, rfl, hB, hc⟩ := h.2 hn
    refine ⟨b, off, rfl, hB, fun j s hs => ?_⟩
    obtain ⟨A1, n1, c1, A2, n2, c2, A3, n3, c3, h0, h1, h2, h3, h4, r1, r2, r3⟩ := hc j s hs
    exact ⟨A1, n1, c1, A2, n2, c2, A3, n3, c3, (hb.cell (p := ⟨b, _, none⟩) hB).trans h0, (hb.cell (p := ⟨b, _, none⟩) hB).trans h1, (hb.cell (p := ⟨b, _, none⟩) hB).trans h2, (hb.cell (p := ⟨b, _, none⟩) hB).trans h3, (hb.cell (p := ⟨b, _, none⟩) hB).trans h4, r1.below hb, r2.below hb, r3.below hb⟩⟩
theorem ReadsC.more (h : ReadsC w B A n ss) (hB : B ≤ B') : ReadsC w B' A n ss :=
  ⟨h.1, fun hn => by
    obtain ⟨b, off, rfl, hb, hc⟩ := h.2 hn
    refine ⟨b, off, rfl, by omega, fun j s hs => ?_⟩
    obtain ⟨A1, n1, c1, A2, n2, c2, A3, n3, c3, h0, h1, h2, h3, h4, r1, r2, r3⟩ := hc j s hs
    exact ⟨A1, n1, c1, A2, n2, c2, A3, n3, c3, h0, h1, h2, h3, h4, r1.more hB, r2.more hB, r3.more hB⟩⟩
theorem ReadsC.at_ (h : ReadsC w B A n ss) {j : Nat} (hj : j < n) : ∃ b off s A1 n1 c1 A2 n2 c2 A3 n3 c3, A = some ⟨b, off, none⟩ ∧ b < B ∧ w.cell? ⟨b, off + j * 5, none⟩ = some (.int .i64 s.params) ∧ w.cell? ⟨b, off + j * 5 + 1, none⟩ = some (.int .i64 s.vars) ∧ w.cell? ⟨b, off + j * 5 + 2, none⟩ = some (.slice A1 n1 c1) ∧
      w.cell? ⟨b, off + j * 5 + 3, none⟩ = some (.slice A2 n2 c2) ∧ w.cell? ⟨b, off + j * 5 + 4, none⟩ = some (.slice A3 n3 c3) ∧ Reads w B .i64 A1 n1 s.sites ∧ ReadsT w B A2 n2 s.ins ∧ ReadsR w B A3 n3 s.rows ∧ Hid (ss[j]? = some s) := by
  obtain ⟨b, off, rfl, hb, hc⟩ := h.2 (by omega)
  have hl : j < ss.length := by rw [h.1]; exact hj
  obtain ⟨A1, n1, c1, A2, n2, c2, A3, n3, c3, h0, h1, h2, h3, h4, r1, r2, r3⟩ := hc j _ (List.getElem?_eq_getElem hl)
  exact ⟨b, off, ss[j], A1, n1, c1, A2, n2, c2, A3, n3, c3, rfl, hb, h0, h1, h2, h3, h4, r1, r2, r3, List.getElem?_eq_getElem hl⟩
end

/-- A code, a function, as values. -/
def cdV (s : Cd) (A1 : Option Addr) (n1 c1 : Nat) (A2 : Option Addr) (n2 c2 : Nat) (A3 : Option Addr) (n3 c3 : Nat) : Value := .agg #[.int .i64 s.params, .int .i64 s.vars, .slice A1 n1 c1, .slice A2 n2 c2, .slice A3 n3 c3]
structure IsCd (w : World) (B : Nat) (s : Cd) (A1 : Option Addr) (n1 : Nat) (A2 : Option Addr) (n2 : Nat) (A3 : Option Addr) (n3 : Nat) : Prop where
  sites : Reads w B .i64 A1 n1 s.sites
  ins : ReadsT w B A2 n2 s.ins
  rows : ReadsR w B A3 n3 s.rows
theorem IsCd.below {w w' : World} {B : Nat} {s : Cd} {A1 : Option Addr} {n1 : Nat} {A2 : Option Addr} {n2 : Nat} {A3 : Option Addr} {n3 : Nat} (h : IsCd w B s A1 n1 A2 n2 A3 n3) (hb : Below B w w') : IsCd w' B s A1 n1 A2 n2 A3 n3 := ⟨h.sites.below hb, h.ins.below hb, h.rows.below hb⟩
theorem IsCd.more {w : World} {B B' : Nat} {s : Cd} {A1 : Option Addr} {n1 : Nat} {A2 : Option Addr} {n2 : Nat} {A3 : Option Addr} {n3 : Nat} (h : IsCd w B s A1 n1 A2 n2 A3 n3) (hB : B ≤ B') : IsCd w B' s A1 n1 A2 n2 A3 n3 := ⟨h.sites.more hB, h.ins.more hB, h.rows.more hB⟩
theorem IsCd.now {w w' : World} {s : Cd} {A1 : Option Addr} {n1 : Nat} {A2 : Option Addr} {n2 : Nat} {A3 : Option Addr} {n3 : Nat} (h : IsCd w w.heap.size s A1 n1 A2 n2 A3 n3) (hb : Below w.heap.size w w') : IsCd w' w'.heap.size s A1 n1 A2 n2 A3 n3 := (h.below hb).more hb.size
theorem ReadsC.now {w w' : World} {A : Option Addr} {n : Nat} {ss : List Cd} (h : ReadsC w w.heap.size A n ss) (hb : Below w.heap.size w w') : ReadsC w' w'.heap.size A n ss := (h.below hb).more hb.size
theorem ReadsR.now {w w' : World} {A : Option Addr} {n : Nat} {rs : List Row3} (h : ReadsR w w.heap.size A n rs) (hb : Below w.heap.size w w') : ReadsR w' w'.heap.size A n rs := (h.below hb).more hb.size
/-- Sizes within what the laws let through. -/
def SmallC (s : Cd) : Prop := s.sites.length ≤ 1048576 ∧ s.ins.length ≤ 1048576 ∧ s.rows.length ≤ 1048576
/-- How many values the laws count. -/
def manyC (s : Cd) : Nat := s.sites.length + s.ins.length + s.rows.length
def manyCs : List Cd → Nat
  | [] => 0
  | s :: r => manyC s + manyCs r
theorem manyCs_append (a b : List Cd) : manyCs (a ++ b) = manyCs a + manyCs b := by induction a with | nil => simp [manyCs] | cons s r ih => simp [manyCs, ih]; omega
theorem manyCs_mem {ss : List Cd} {s : Cd} (h : s ∈ ss) : manyC s ≤ manyCs ss := by
  induction ss with
  | nil => cases h
  | cons a r ih => rcases List.mem_cons.1 h with rfl | h; · simp [manyCs]
                   · have := ih h; simp [manyCs]; omega
def SmallI (cs : List Cd) : Prop := cs.length ≤ 1048576 ∧ ∀ c ∈ cs, SmallC c
theorem smallI_of {cs : List Cd} (h : cs.length + manyCs cs ≤ 1048576) : SmallI cs :=
  ⟨by omega, fun f hf => by have := manyCs_mem hf; unfold manyC at this; exact ⟨by omega, by omega, by omega⟩⟩
end Go.Proofs.Ytpmpjiigmjnniaa

/-
  The laws' copying of images: what is copied lies in blocks of its own.
-/
namespace Go.Proofs.Ytpmpjiigmjnniaa
open Go.RowKit Exs

def MToksI (w : World) (L : Nat) (A : Option Addr) (n : Nat) (ts : List Token) : Prop := ∃ g, A = some ⟨g, 0, none⟩ ∧ L ≤ g ∧ Room w g 69 (2 * n) .i64 (flat ts) ∧ ts.length = n
theorem MToksI.same {w w' : World} {L : Nat} {A : Option Addr} {n : Nat} {xs : List Token} (h : MToksI w L A n xs) (hs : SameFrom L w w') : MToksI w' L A n xs := by
  obtain ⟨g, e, hg, r, hl⟩ := h; exact ⟨g, e, hg, r.same (hs.mono hg), hl⟩
theorem MToksI.from {w : World} {L L' : Nat} {A : Option Addr} {n : Nat} {xs : List Token} (h : MToksI w L A n xs) (hL : L' ≤ L) : MToksI w L' A n xs := by
  obtain ⟨g, e, hg, r, hl⟩ := h; exact ⟨g, e, by omega, r, hl⟩
theorem MToksI.reads {w : World} {L : Nat} {A : Option Addr} {n : Nat} {xs : List Token} (h : MToksI w L A n xs) : ReadsT w w.heap.size A n xs := by
  obtain ⟨g, rfl, _, r, hl⟩ := h; exact r.readsT hl

def MRows (w : World) (L : Nat) (A : Option Addr) (n : Nat) (ts : List Row3) : Prop := ∃ g, A = some ⟨g, 0, none⟩ ∧ L ≤ g ∧ Room w g 71 (3 * n) .i64 (flat3 ts) ∧ ts.length = n
theorem MRows.same {w w' : World} {L : Nat} {A : Option Addr} {n : Nat} {xs : List Row3} (h : MRows w L A n xs) (hs : SameFrom L w w') : MRows w' L A n xs := by
  obtain ⟨g, e, hg, r, hl⟩ := h; exact ⟨g, e, hg, r.same (hs.mono hg), hl⟩
theorem MRows.from {w : World} {L L' : Nat} {A : Option Addr} {n : Nat} {xs : List Row3} (h : MRows w L A n xs) (hL : L' ≤ L) : MRows w L' A n xs := by
  obtain ⟨g, e, hg, r, hl⟩ := h; exact ⟨g, e, by omega, r, hl⟩
theorem Room.readsR {w : World} {g : Nat} {t : TypeId} {n : Nat} {ts : List Row3} (h : Room w g t (3 * n) .i64 (flat3 ts)) (hn : ts.length = n) : ReadsR w w.heap.size (some ⟨g, 0, none⟩) n ts :=
  ⟨hn, h.reads (by rw [flat3_length, hn])⟩
theorem MRows.reads {w : World} {L : Nat} {A : Option Addr} {n : Nat} {xs : List Row3} (h : MRows w L A n xs) : ReadsR w w.heap.size A n xs := by
  obtain ⟨g, rfl, _, r, hl⟩ := h; exact r.readsR hl
structure MCd (w : World) (L : Nat) (s : Cd) (A1 : Option Addr) (n1 : Nat) (A2 : Option Addr) (n2 : Nat) (A3 : Option Addr) (n3 : Nat) : Prop where
  sites : MInts w L A1 n1 s.sites
  ins : MToksI w L A2 n2 s.ins
  rows : MRows w L A3 n3 s.rows
theorem MCd.same {w w' : World} {L : Nat} {s : Cd} {A1 : Option Addr} {n1 : Nat} {A2 : Option Addr} {n2 : Nat} {A3 : Option Addr} {n3 : Nat} (h : MCd w L s A1 n1 A2 n2 A3 n3) (hs : SameFrom L w w') : MCd w' L s A1 n1 A2 n2 A3 n3 := ⟨h.sites.same hs, h.ins.same hs, h.rows.same hs⟩
theorem MCd.from {w : World} {L L' : Nat} {s : Cd} {A1 : Option Addr} {n1 : Nat} {A2 : Option Addr} {n2 : Nat} {A3 : Option Addr} {n3 : Nat} (h : MCd w L s A1 n1 A2 n2 A3 n3) (hL : L' ≤ L) : MCd w L' s A1 n1 A2 n2 A3 n3 := ⟨h.sites.from hL, h.ins.from hL, h.rows.from hL⟩

/-- Block g is a row of n codes of which the first ones are ss; what they lead to lies in later blocks. -/
def RoomC (w : World) (g n : Nat) (ss : List Cd) : Prop :=
  ∃ cs : Array Value, w.heap[g]? = some (.cells cs 39 (0, 0)) ∧ cs.size = n * 5 ∧ ∀ (j : Nat) (s : Cd), ss[j]? = some s → ∃ A1 n1 c1 A2 n2 c2 A3 n3 c3,
    cs[j * 5]? = some (.int .i64 s.params) ∧ cs[j * 5 + 1]? = some (.int .i64 s.vars) ∧ cs[j * 5 + 2]? = some (.slice A1 n1 c1) ∧ cs[j * 5 + 3]? = some (.slice A2 n2 c2) ∧ cs[j * 5 + 4]? = some (.slice A3 n3 c3) ∧ MCd w (g + 1) s A1 n1 A2 n2 A3 n3
theorem RoomC.lt {w : World} {g n : Nat} {ss : List Cd} (h : RoomC w g n ss) : g < w.heap.size := by
  obtain ⟨cs, h1, _⟩ := h; exact (Array.getElem?_eq_some_iff.1 h1).1
theorem RoomC.same {w w' : World} {g n : Nat} {ss : List Cd} (h : RoomC w g n ss) (hs : SameFrom g w w') : RoomC w' g n ss := by
  have hl := h.lt
  obtain ⟨cs, h1, h2, h3⟩ := h
  refine ⟨cs, (hs g (Nat.le_refl _) hl).trans h1, h2, fun j s hj => ?_⟩
  obtain ⟨A1, n1, c1, A2, n2, c2, A3, n3, c3, g0, g1, g2, g3, g4, m⟩ := h3 j s hj
  exact ⟨A1, n1, c1, A2, n2, c2, A3, n3, c3, g0, g1, g2, g3, g4, m.same (hs.mono (by omega))⟩
theorem RoomC.at_ {w : World} {g n : Nat} {ss : List Cd} (h : RoomC w g n ss) (j : Nat) (hj : j < n * 5) : ∃ v, w.cell? ⟨g, j, none⟩ = some v := by
  obtain ⟨cs, h1, h2, _⟩ := h
  exact ⟨cs[j], by rw [cell_of_row w g j cs 39 (0, 0) h1]; exact Array.getElem?_eq_getElem (by omega)⟩
theorem RoomC.frozen {w : World} {g n : Nat} {ss : List Cd} (h : RoomC w g n ss) (j : Nat) : w.frozen? ⟨g, j, none⟩ = false := by
  obtain ⟨cs, h1, _⟩ := h
  simp [World.frozen?, h1]
theorem RoomC.push {w : World} {g n : Nat} {ss : List Cd} (h : RoomC w g n ss) (hc : ss.length < n) (s : Cd) (A1 : Option Addr) (n1 c1 : Nat) (A2 : Option Addr) (n2 c2 : Nat) (A3 : Option Addr) (n3 c3 : Nat) (hm : MCd w (g + 1) s A1 n1 A2 n2 A3 n3) :
    RoomC (((((w.setCell ⟨g, ss.length * 5, none⟩ (.int .i64 s.params)).setCell ⟨g, ss.length * 5 + 1, none⟩ (.int .i64 s.vars)).setCell ⟨g, ss.length * 5 + 2, none⟩ (.slice A1 n1 c1)).setCell ⟨g, ss.length * 5 + 3, none⟩ (.slice A2 n2 c2)).setCell ⟨g, ss.length * 5 + 4, none⟩ (.slice A3 n3 c3)) g n (ss ++ [s]) := by
  have hsame : SameFrom (g + 1) w (((((w.setCell ⟨g, ss.length * 5, none⟩ (.int .i64 s.params)).setCell ⟨g, ss.length * 5 + 1, none⟩ (.int .i64 s.vars)).setCell ⟨g, ss.length * 5 + 2, none⟩ (.slice A1 n1 c1)).setCell ⟨g, ss.length * 5 + 3, none⟩ (.slice A2 n2 c2)).setCell ⟨g, ss.length * 5 + 4, none⟩ (.slice A3 n3 c3)) := by
    intro k hk _
    rw [Below.heap_setCell _ _ _ _ (show k ≠ g by omega), Below.heap_setCell _ _ _ _ (show k ≠ g by omega), Below.heap_setCell _ _ _ _ (show k ≠ g by omega), Below.heap_setCell _ _ _ _ (show k ≠ g by omega), Below.heap_setCell _ _ _ _ (show k ≠ g by omega)]
  obtain ⟨cs, h1, h2, h3⟩ := h
  refine ⟨_, heap_set (heap_set (heap_set (heap_set (heap_set h1)))), by simpa using h2, fun j s' hj => ?_⟩
  by_cases hl : j < ss.length
  · rw [List.getElem?_append_left hl] at hj
    obtain ⟨B1, m1, d1, B2, m2, d2, B3, m3, d3, g0, g1, g2, g3, g4, m⟩ := h3 j s' hj
    refine ⟨B1, m1, d1, B2, m2, d2, B3, m3, d3, ?_, ?_, ?_, ?_, ?_, m.same hsame⟩ <;> (simp only [Array.getElem?_setIfInBounds]; (repeat rw [if_neg (by omega)]); assumption)
  · have hj2 : j = ss.length := by
      have := (List.getElem?_eq_some_iff.1 hj).1
      simp at this; omega
    subst hj2
    rw [List.getElem?_append_right (Nat.le_refl _)] at hj
    simp at hj
    subst hj
    refine ⟨A1, n1, c1, A2, n2, c2, A3, n3, c3, ?_, ?_, ?_, ?_, ?_, hm.same hsame⟩ <;> (simp only [Array.getElem?_setIfInBounds, Array.size_setIfInBounds]; (repeat rw [if_neg (by omega)]); rw [if_pos trivial, if_pos (by omega)])
theorem RoomC.reads {w : World} {g n : Nat} {ss : List Cd} (h : RoomC w g n ss) (hn : ss.length = n) : ReadsC w w.heap.size (some ⟨g, 0, none⟩) n ss := by
  have hl := h.lt
  obtain ⟨cs, h1, h2, h3⟩ := h
  refine ⟨hn, fun _ => ⟨g, 0, rfl, hl, fun j s hj => ?_⟩⟩
  obtain ⟨A1, n1, c1, A2, n2, c2, A3, n3, c3, g0, g1, g2, g3, g4, m⟩ := h3 j s hj
  have hc := fun i => cell_of_row w g i cs 39 (0, 0) h1
  refine ⟨A1, n1, c1, A2, n2, c2, A3, n3, c3, ?_, ?_, ?_, ?_, ?_, m.sites.reads, m.ins.reads, m.rows.reads⟩ <;> (rw [Nat.zero_add, hc]; assumption)

def MCds (w : World) (L : Nat) (A : Option Addr) (n : Nat) (ss : List Cd) : Prop := ∃ g, A = some ⟨g, 0, none⟩ ∧ L ≤ g ∧ RoomC w g n ss ∧ ss.length = n
theorem MCds.same {w w' : World} {L : Nat} {A : Option Addr} {n : Nat} {xs : List Cd} (h : MCds w L A n xs) (hs : SameFrom L w w') : MCds w' L A n xs := by
  obtain ⟨g, e, hg, r, hl⟩ := h; exact ⟨g, e, hg, r.same (hs.mono hg), hl⟩
theorem MCds.from {w : World} {L L' : Nat} {A : Option Addr} {n : Nat} {xs : List Cd} (h : MCds w L A n xs) (hL : L' ≤ L) : MCds w L' A n xs := by
  obtain ⟨g, e, hg, r, hl⟩ := h; exact ⟨g, e, by omega, r, hl⟩
theorem MCds.reads {w : World} {L : Nat} {A : Option Addr} {n : Nat} {xs : List Cd} (h : MCds w L A n xs) : ReadsC w w.heap.size A n xs := by
  obtain ⟨g, rfl, _, r, hl⟩ := h; exact r.reads hl


end Go.Proofs.Ytpmpjiigmjnniaa

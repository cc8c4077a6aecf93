/-
  Images in memory: codes, slices of them that are read. Over any program.
-/
import Derived.Test.YtpbkkjiikhjanaaTokMem
namespace Go.Proofs.Ytpbkkjiikhjanaa
open Go.RowKit Exs

/-- A row of a code: from, to, pad. -/
abbrev Row3 := Int × Int × Int
structure Cd where
  params : Int
  vars : Int
  sites : List Int
  ins : List Token
  rows : List Row3

def flat3 (rs : List Row3) : List Int := rs.flatMap fun r => [r.1, r.2.1, r.2.2]
theorem flat3_length (rs : List Row3) : (flat3 rs).length = 3 * rs.length := by
  induction rs with
  | nil => rfl
  | cons t r ih => simp only [flat3, List.flatMap_cons, List.length_append, List.length_cons, List.length_nil] at *; omega
theorem flat3_at : ∀ {rs : List Row3} {j : Nat} {t : Row3}, rs[j]? = some t → (flat3 rs)[3 * j]? = some t.1 ∧ (flat3 rs)[3 * j + 1]? = some t.2.1 ∧ (flat3 rs)[3 * j + 2]? = some t.2.2
  | [], _, _, h => by simp at h
  | a :: r, 0, t, h => by simp at h; subst h; exact ⟨rfl, rfl, rfl⟩
  | a :: r, j + 1, t, h => by
    have := flat3_at (rs := r) (j := j) (t := t) (by simpa using h)
    rw [show 3 * (j + 1) = 3 * j + 1 + 1 + 1 by omega]
    simpa [flat3] using this
theorem flat3_snoc (rs : List Row3) (t : Row3) : flat3 (rs ++ [t]) = flat3 rs ++ [t.1] ++ [t.2.1] ++ [t.2.2] := by simp [flat3]
/-- The slice value '.slice A n c' reads as the rows rs, and lies below block B. -/
def ReadsR (w : World) (B : Nat) (A : Option Addr) (n : Nat) (rs : List Row3) : Prop := rs.length = n ∧ Reads w B .i64 A (3 * n) (flat3 rs)
section
variable {w w' : World} {B B' : Nat} {A : Option Addr} {n : Nat} {rs : List Row3}
theorem ReadsR.below (h : ReadsR w B A n rs) (hb : Below B w w') : ReadsR w' B A n rs := ⟨h.1, h.2.below hb⟩
theorem ReadsR.more (h : ReadsR w B A n rs) (hB : B ≤ B') : ReadsR w B' A n rs := ⟨h.1, h.2.more hB⟩
theorem ReadsR.at_ (h : ReadsR w B A n rs) {j : Nat} (hj : j < n) : ∃ b off x y z, A = some ⟨b, off, none⟩ ∧ b < B ∧ w.cell? ⟨b, off + j * 3, none⟩ = some (.int .i64 x) ∧ w.cell? ⟨b, off + j * 3 + 1, none⟩ = some (.int .i64 y) ∧ w.cell? ⟨b, off + j * 3 + 2, none⟩ = some (.int .i64 z) ∧ Hid (rs[j]? = some (x, y, z)) := by
  obtain ⟨b, off, rfl, hb, hc⟩ := h.2.2 (by omega)
  have hl : j < rs.length := by rw [h.1]; exact hj
  have hx := flat3_at (List.getElem?_eq_getElem hl)
  refine ⟨b, off, rs[j].1, rs[j].2.1, rs[j].2.2, rfl, hb, ?_, ?_, ?_, List.getElem?_eq_getElem hl⟩
  · rw [Nat.mul_comm]; exact hc _ _ hx.1
  · rw [Nat.mul_comm, Nat.add_assoc]; exact hc _ _ hx.2.1
  · rw [Nat.mul_comm, Nat.add_assoc]; exact hc _ _ hx.2.2
end
/-- The slice value '.slice A n c' reads as the codes ss, and lies, with all that it leads to, below block B. -/
def ReadsC (w : World) (B : Nat) (A : Option Addr) (n : Nat) (ss : List Cd) : Prop :=
  ss.length = n ∧ (0 < n → ∃ b off, A = some ⟨b, off, none⟩ ∧ b < B ∧ ∀ (j : Nat) (s : Cd), ss[j]? = some s →
    ∃ A1 n1 c1 A2 n2 c2 A3 n3 c3, w.cell? ⟨b, off + j * 5, none⟩ = some (.int .i64 s.params) ∧ w.cell? ⟨b, off + j * 5 + 1, none⟩ = some (.int .i64 s.vars) ∧ w.cell? ⟨b, off + j * 5 + 2, none⟩ = some (.slice A1 n1 c1) ∧
      w.cell? ⟨b, off + j * 5 + 3, none⟩ = some (.slice A2 n2 c2) ∧ w.cell? ⟨b, off + j * 5 + 4, none⟩ = some (.slice A3 n3 c3) ∧ Reads w B .i64 A1 n1 s.sites ∧ ReadsT w B A2 n2 s.ins ∧ ReadsR w B A3 n3 s.rows)

section
variable {w w' : World} {B B' : Nat} {A : Option Addr} {n : Nat} {ss : List Cd}
theorem ReadsC.below (h : ReadsC w B A n ss) (hb : Below B w w') : ReadsC w' B A n ss :=
  ⟨h.1, fun hn => by
    obtain ⟨b, off, rfl, hB, hc⟩ := h.2 hn
    refine ⟨b, off, rfl, hB, fun j s hs => ?_⟩
    obtain ⟨A1, n1, c1, A2, n2, c2, A3, n3, c3, h0, h1, h2, h3, h4, r1, r2, r3⟩ := hc j s hs
    exact ⟨A1, n1, c1, A2, n2, c2, A3, n3, c3, (hb.cell (p := ⟨b, _, none⟩) hB).trans h0, (hb.cell (p := ⟨b, _, none⟩) hB).trans h1, (hb.cell (p := ⟨b, _, none⟩) hB).trans h2, (hb.cell (p := ⟨b, _, none⟩) hB).trans h3, (hb.cell (p := ⟨b, _, none⟩) hB).trans h4, r1.below hb, r2.below hb, r3.below hb⟩⟩
theorem ReadsC.more (h : ReadsC w B A n ss) (hB : B ≤ B') : ReadsC w B' A n ss :=
  ⟨h.1, fun hn => by
    obtain ⟨b, off, rfl, hb, hc⟩ := h.2 hn
    refine ⟨b, off, rfl, by omega, fun j s hs => ?_⟩
    obtain ⟨A1, n1, c1, A2, n2, c2, A3, n3, c3, h0, h1, h2, h3, h4, r1, r2, r3⟩ := hc j s hs
    exact ⟨A1, n1, c1, A2, n2, c2, A3, n3, c3, h0, h1, h2, h3, h4, r1.more hB, r2.more hB, r3.more hB⟩⟩
theorem ReadsC.at_ (h : ReadsC w B A n ss) {j : Nat} (hj : j < n) : ∃ b off s A1 n1 c1 A2 n2 c2 A3 n3 c3, A = some ⟨b, off, none⟩ ∧ b < B ∧ w.cell? ⟨b, off + j * 5, none⟩ = some (.int .i64 s.params) ∧ w.cell? ⟨b, off + j * 5 + 1, none⟩ = some (.int .i64 s.vars) ∧ w.cell? ⟨b, off + j * 5 + 2, none⟩ = some (.slice A1 n1 c1) ∧
      w.cell? ⟨b, off + j * 5 + 3, none⟩ = some (.slice A2 n2 c2) ∧ w.cell? ⟨b, off + j * 5 + 4, none⟩ = some (.slice A3 n3 c3) ∧ Reads w B .i64 A1 n1 s.sites ∧ ReadsT w B A2 n2 s.ins ∧ ReadsR w B A3 n3 s.rows ∧ Hid (ss[j]? = some s) := by
  obtain ⟨b, off, rfl, hb, hc⟩ := h.2 (by omega)
  have hl : j < ss.length := by rw [h.1]; exact hj
  obtain ⟨A1, n1, c1, A2, n2, c2, A3, n3, c3, h0, h1, h2, h3, h4, r1, r2, r3⟩ := hc j _ (List.getElem?_eq_getElem hl)
  exact ⟨b, off, ss[j], A1, n1, c1, A2, n2, c2, A3, n3, c3, rfl, hb, h0, h1, h2, h3, h4, r1, r2, r3, List.getElem?_eq_getElem hl⟩
end

theorem takeA_more {α : Type} {ts : List α} {k : Nat} {t : α} (h : ts[k]? = some t) : ts.take (k + 1) = ts.take k ++ [t] := by
  rw [List.take_add_one, h]; rfl
theorem mem_of_at {α : Type} {ts : List α} {k : Nat} {t : α} (h : ts[k]? = some t) : t ∈ ts := List.mem_of_getElem? h
/-- A code, a function, as values. -/
def cdV (s : Cd) (A1 : Option Addr) (n1 c1 : Nat) (A2 : Option Addr) (n2 c2 : Nat) (A3 : Option Addr) (n3 c3 : Nat) : Value := .agg #[.int .i64 s.params, .int .i64 s.vars, .slice A1 n1 c1, .slice A2 n2 c2, .slice A3 n3 c3]
structure IsCd (w : World) (B : Nat) (s : Cd) (A1 : Option Addr) (n1 : Nat) (A2 : Option Addr) (n2 : Nat) (A3 : Option Addr) (n3 : Nat) : Prop where
  sites : Reads w B .i64 A1 n1 s.sites
  ins : ReadsT w B A2 n2 s.ins
  rows : ReadsR w B A3 n3 s.rows
theorem IsCd.below {w w' : World} {B : Nat} {s : Cd} {A1 : Option Addr} {n1 : Nat} {A2 : Option Addr} {n2 : Nat} {A3 : Option Addr} {n3 : Nat} (h : IsCd w B s A1 n1 A2 n2 A3 n3) (hb : Below B w w') : IsCd w' B s A1 n1 A2 n2 A3 n3 := ⟨h.sites.below hb, h.ins.below hb, h.rows.below hb⟩
theorem IsCd.more {w : World} {B B' : Nat} {s : Cd} {A1 : Option Addr} {n1 : Nat} {A2 : Option Addr} {n2 : Nat} {A3 : Option Addr} {n3 : Nat} (h : IsCd w B s A1 n1 A2 n2 A3 n3) (hB : B ≤ B') : IsCd w B' s A1 n1 A2 n2 A3 n3 := ⟨h.sites.more hB, h.ins.more hB, h.rows.more hB⟩
theorem IsCd.now {w w' : World} {s : Cd} {A1 : Option Addr} {n1 : Nat} {A2 : Option Addr} {n2 : Nat} {A3 : Option Addr} {n3 : Nat} (h : IsCd w w.heap.size s A1 n1 A2 n2 A3 n3) (hb : Below w.heap.size w w') : IsCd w' w'.heap.size s A1 n1 A2 n2 A3 n3 := (h.below hb).more hb.size
theorem ReadsC.now {w w' : World} {A : Option Addr} {n : Nat} {ss : List Cd} (h : ReadsC w w.heap.size A n ss) (hb : Below w.heap.size w w') : ReadsC w' w'.heap.size A n ss := (h.below hb).more hb.size
theorem Reads.now {w w' : World} {k : IntKind} {A : Option Addr} {n : Nat} {xs : List Int} (h : Reads w w.heap.size k A n xs) (hb : Below w.heap.size w w') : Reads w' w'.heap.size k A n xs := (h.below hb).more hb.size
theorem ReadsT.now {w w' : World} {A : Option Addr} {n : Nat} {ts : List Token} (h : ReadsT w w.heap.size A n ts) (hb : Below w.heap.size w w') : ReadsT w' w'.heap.size A n ts := (h.below hb).more hb.size

theorem ReadsR.now {w w' : World} {A : Option Addr} {n : Nat} {rs : List Row3} (h : ReadsR w w.heap.size A n rs) (hb : Below w.heap.size w w') : ReadsR w' w'.heap.size A n rs := (h.below hb).more hb.size
/-- Sizes within what the laws let through. -/
def SmallC (s : Cd) : Prop := s.sites.length ≤ 1048576 ∧ s.ins.length ≤ 1048576 ∧ s.rows.length ≤ 1048576
/-- How many values the laws count. -/
def manyC (s : Cd) : Nat := s.sites.length + s.ins.length + s.rows.length
def manyCs : List Cd → Nat
  | [] => 0
  | s :: r => manyC s + manyCs r
theorem manyCs_append (a b : List Cd) : manyCs (a ++ b) = manyCs a + manyCs b := by induction a with | nil => simp [manyCs] | cons s r ih => simp [manyCs, ih]; omega
theorem manyCs_mem {ss : List Cd} {s : Cd} (h : s ∈ ss) : manyC s ≤ manyCs ss := by
  induction ss with
  | nil => cases h
  | cons a r ih => rcases List.mem_cons.1 h with rfl | h; · simp [manyCs]
                   · have := ih h; simp [manyCs]; omega
def SmallI (cs : List Cd) : Prop := cs.length ≤ 1048576 ∧ ∀ c ∈ cs, SmallC c
theorem smallI_of {cs : List Cd} (h : cs.length + manyCs cs ≤ 1048576) : SmallI cs :=
  ⟨by omega, fun f hf => by have := manyCs_mem hf; unfold manyC at this; exact ⟨by omega, by omega, by omega⟩⟩
theorem below_drewN {B : Nat} {a w : World} (h : Below B a w) (n : Nat) : Below B a (w.drewN n) := ⟨h.os, h.tape, h.output, h.size, h.block⟩
theorem beq_of {a b : Int} (h : a ≠ b) : (a == b) = false := by simpa using h
theorem Nums.belowNew {w w' : World} {B : Nat} {e : TypeId} {k : IntKind} {v : Value} {xs : List Int} (h : Nums w B e k v xs) (hb : Below w.heap.size w w') : Nums w' B e k v xs := by
  obtain ⟨h1, h2⟩ := h
  refine ⟨h1, ?_⟩
  rcases h2 with h2 | ⟨g, cap, cur, hv, hg, hh, r⟩
  · exact Or.inl h2
  · exact Or.inr ⟨g, cap, cur, hv, hg, (hb.block g (Array.getElem?_eq_some_iff.1 hh).1).trans hh, r⟩
theorem Nums.reads {w : World} {B : Nat} {e : TypeId} {k : IntKind} {v : Value} {xs : List Int} (h : Nums w B e k v xs) : ∃ A c, v = .slice A xs.length c ∧ Reads w w.heap.size k A xs.length xs := by
  rcases h.2 with ⟨rfl, hn⟩ | ⟨g, cap, cur, rfl, _, hg, _, _, _, htk⟩
  · obtain rfl : xs = [] := List.eq_nil_of_length_eq_zero hn
    exact ⟨none, 0, rfl, rfl, fun h => absurd h (by simp)⟩
  · refine ⟨_, _, rfl, rfl, fun _ => ⟨g, 0, rfl, (Array.getElem?_eq_some_iff.1 hg).1, fun j x hx => ?_⟩⟩
    have hj : j < xs.length := (List.getElem?_eq_some_iff.1 hx).1
    have := World.ownsRow.cellAt h j (by omega)
    rw [Nat.zero_add, this]
    simp [hx]

theorem Nums.more {w : World} {B B' : Nat} {e : TypeId} {k : IntKind} {v : Value} {xs : List Int} (h : Nums w B e k v xs) (hB : B' ≤ B) : Nums w B' e k v xs := by
  obtain ⟨h1, h2⟩ := h
  refine ⟨h1, ?_⟩
  rcases h2 with h2 | ⟨g, cap, cur, hv, hg, r⟩
  · exact Or.inl h2
  · exact Or.inr ⟨g, cap, cur, hv, by omega, r⟩


end Go.Proofs.Ytpbkkjiikhjanaa

/-
  Programs in memory: statements, functions, slices of them that are read. Over any program.
-/
import Derived.Test.YtaogdaoiijmmhaaTokMem
namespace Go.Proofs.Ytaogdaoiijmmhaa
open Go.RowKit Exs

structure St where
  kind : Int
  n : Int
  ex : List Token
  th : List Int
  el : List Int

structure Fc where
  params : Int
  vars : Int
  body : List Int
  stmts : List St

/-- The slice value '.slice A n c' reads as the statements ss, and lies, with all that it leads to, below block B. -/
def ReadsS (w : World) (B : Nat) (A : Option Addr) (n : Nat) (ss : List St) : Prop :=
  ss.length = n ∧ (0 < n → ∃ b off, A = some ⟨b, off, none⟩ ∧ b < B ∧ ∀ (j : Nat) (s : St), ss[j]? = some s →
    ∃ A1 n1 c1 A2 n2 c2 A3 n3 c3, w.cell? ⟨b, off + j * 5, none⟩ = some (.int .i64 s.kind) ∧ w.cell? ⟨b, off + j * 5 + 1, none⟩ = some (.int .i64 s.n) ∧ w.cell? ⟨b, off + j * 5 + 2, none⟩ = some (.slice A1 n1 c1) ∧
      w.cell? ⟨b, off + j * 5 + 3, none⟩ = some (.slice A2 n2 c2) ∧ w.cell? ⟨b, off + j * 5 + 4, none⟩ = some (.slice A3 n3 c3) ∧ ReadsT w B A1 n1 s.ex ∧ Reads w B .i64 A2 n2 s.th ∧ Reads w B .i64 A3 n3 s.el)

def ReadsF (w : World) (B : Nat) (A : Option Addr) (n : Nat) (fs : List Fc) : Prop :=
  fs.length = n ∧ (0 < n → ∃ b off, A = some ⟨b, off, none⟩ ∧ b < B ∧ ∀ (j : Nat) (f : Fc), fs[j]? = some f →
    ∃ A1 n1 c1 A2 n2 c2, w.cell? ⟨b, off + j * 4, none⟩ = some (.int .i64 f.params) ∧ w.cell? ⟨b, off + j * 4 + 1, none⟩ = some (.int .i64 f.vars) ∧ w.cell? ⟨b, off + j * 4 + 2, none⟩ = some (.slice A1 n1 c1) ∧
      w.cell? ⟨b, off + j * 4 + 3, none⟩ = some (.slice A2 n2 c2) ∧ Reads w B .i64 A1 n1 f.body ∧ ReadsS w B A2 n2 f.stmts)

section
variable {w w' : World} {B B' : Nat} {A : Option Addr} {n : Nat} {ss : List St} {fs : List Fc}
theorem ReadsS.below (h : ReadsS w B A n ss) (hb : Below B w w') : ReadsS w' B A n ss :=
  ⟨h.1, fun hn => by
    obtain ⟨b, off, rfl, hB, hc⟩ := h.2 hn
    refine ⟨b, off, rfl, hB, fun j s hs => ?_⟩
    obtain ⟨A1, n1, c1, A2, n2, c2, A3, n3, c3, h0, h1, h2, h3, h4, r1, r2, r3⟩ := hc j s hs
    exact ⟨A1, n1, c1, A2, n2, c2, A3, n3, c3, (hb.cell (p := ⟨b, _, none⟩) hB).trans h0, (hb.cell (p := ⟨b, _, none⟩) hB).trans h1, (hb.cell (p := ⟨b, _, none⟩) hB).trans h2, (hb.cell (p := ⟨b, _, none⟩) hB).trans h3, (hb.cell (p := ⟨b, _, none⟩) hB).trans h4, r1.below hb, r2.below hb, r3.below hb⟩⟩
theorem ReadsS.more (h : ReadsS w B A n ss) (hB : B ≤ B') : ReadsS w B' A n ss :=
  ⟨h.1, fun hn => by
    obtain ⟨b, off, rfl, hb, hc⟩ := h.2 hn
    refine ⟨b, off, rfl, by omega, fun j s hs => ?_⟩
    obtain ⟨A1, n1, c1, A2, n2, c2, A3, n3, c3, h0, h1, h2, h3, h4, r1, r2, r3⟩ := hc j s hs
    exact ⟨A1, n1, c1, A2, n2, c2, A3, n3, c3, h0, h1, h2, h3, h4, r1.more hB, r2.more hB, r3.more hB⟩⟩
theorem ReadsS.at_ (h : ReadsS w B A n ss) {j : Nat} (hj : j < n) : ∃ b off s A1 n1 c1 A2 n2 c2 A3 n3 c3, A = some ⟨b, off, none⟩ ∧ b < B ∧ w.cell? ⟨b, off + j * 5, none⟩ = some (.int .i64 s.kind) ∧ w.cell? ⟨b, off + j * 5 + 1, none⟩ = some (.int .i64 s.n) ∧ w.cell? ⟨b, off + j * 5 + 2, none⟩ = some (.slice A1 n1 c1) ∧
      w.cell? ⟨b, off + j * 5 + 3, none⟩ = some (.slice A2 n2 c2) ∧ w.cell? ⟨b, off + j * 5 + 4, none⟩ = some (.slice A3 n3 c3) ∧ ReadsT w B A1 n1 s.ex ∧ Reads w B .i64 A2 n2 s.th ∧ Reads w B .i64 A3 n3 s.el ∧ Hid (ss[j]? = some s) := by
  obtain ⟨b, off, rfl, hb, hc⟩ := h.2 (by omega)
  have hl : j < ss.length := by rw [h.1]; exact hj
  obtain ⟨A1, n1, c1, A2, n2, c2, A3, n3, c3, h0, h1, h2, h3, h4, r1, r2, r3⟩ := hc j _ (List.getElem?_eq_getElem hl)
  exact ⟨b, off, ss[j], A1, n1, c1, A2, n2, c2, A3, n3, c3, rfl, hb, h0, h1, h2, h3, h4, r1, r2, r3, List.getElem?_eq_getElem hl⟩
theorem ReadsF.below (h : ReadsF w B A n fs) (hb : Below B w w') : ReadsF w' B A n fs :=
  ⟨h.1, fun hn => by
    obtain ⟨b, off, rfl, hB, hc⟩ := h.2 hn
    refine ⟨b, off, rfl, hB, fun j s hs => ?_⟩
    obtain ⟨A1, n1, c1, A2, n2, c2, h0, h1, h2, h3, r1, r2⟩ := hc j s hs
    exact ⟨A1, n1, c1, A2, n2, c2, (hb.cell (p := ⟨b, _, none⟩) hB).trans h0, (hb.cell (p := ⟨b, _, none⟩) hB).trans h1, (hb.cell (p := ⟨b, _, none⟩) hB).trans h2, (hb.cell (p := ⟨b, _, none⟩) hB).trans h3, r1.below hb, r2.below hb⟩⟩
theorem ReadsF.more (h : ReadsF w B A n fs) (hB : B ≤ B') : ReadsF w B' A n fs :=
  ⟨h.1, fun hn => by
    obtain ⟨b, off, rfl, hb, hc⟩ := h.2 hn
    refine ⟨b, off, rfl, by omega, fun j s hs => ?_⟩
    obtain ⟨A1, n1, c1, A2, n2, c2, h0, h1, h2, h3, r1, r2⟩ := hc j s hs
    exact ⟨A1, n1, c1, A2, n2, c2, h0, h1, h2, h3, r1.more hB, r2.more hB⟩⟩
theorem ReadsF.at_ (h : ReadsF w B A n fs) {j : Nat} (hj : j < n) : ∃ b off f A1 n1 c1 A2 n2 c2, A = some ⟨b, off, none⟩ ∧ b < B ∧ w.cell? ⟨b, off + j * 4, none⟩ = some (.int .i64 f.params) ∧ w.cell? ⟨b, off + j * 4 + 1, none⟩ = some (.int .i64 f.vars) ∧ w.cell? ⟨b, off + j * 4 + 2, none⟩ = some (.slice A1 n1 c1) ∧
      w.cell? ⟨b, off + j * 4 + 3, none⟩ = some (.slice A2 n2 c2) ∧ Reads w B .i64 A1 n1 f.body ∧ ReadsS w B A2 n2 f.stmts ∧ Hid (fs[j]? = some f) := by
  obtain ⟨b, off, rfl, hb, hc⟩ := h.2 (by omega)
  have hl : j < fs.length := by rw [h.1]; exact hj
  obtain ⟨A1, n1, c1, A2, n2, c2, h0, h1, h2, h3, r1, r2⟩ := hc j _ (List.getElem?_eq_getElem hl)
  exact ⟨b, off, fs[j], A1, n1, c1, A2, n2, c2, rfl, hb, h0, h1, h2, h3, r1, r2, List.getElem?_eq_getElem hl⟩
end

/-- A statement, a function, as values. -/
def stV (s : St) (A1 : Option Addr) (n1 c1 : Nat) (A2 : Option Addr) (n2 c2 : Nat) (A3 : Option Addr) (n3 c3 : Nat) : Value := .agg #[.int .i64 s.kind, .int .i64 s.n, .slice A1 n1 c1, .slice A2 n2 c2, .slice A3 n3 c3]
def fcV (f : Fc) (A1 : Option Addr) (n1 c1 : Nat) (A2 : Option Addr) (n2 c2 : Nat) : Value := .agg #[.int .i64 f.params, .int .i64 f.vars, .slice A1 n1 c1, .slice A2 n2 c2]
structure IsSt (w : World) (B : Nat) (s : St) (A1 : Option Addr) (n1 : Nat) (A2 : Option Addr) (n2 : Nat) (A3 : Option Addr) (n3 : Nat) : Prop where
  ex : ReadsT w B A1 n1 s.ex
  th : Reads w B .i64 A2 n2 s.th
  el : Reads w B .i64 A3 n3 s.el
structure IsFc (w : World) (B : Nat) (f : Fc) (A1 : Option Addr) (n1 : Nat) (A2 : Option Addr) (n2 : Nat) : Prop where
  body : Reads w B .i64 A1 n1 f.body
  stmts : ReadsS w B A2 n2 f.stmts
theorem IsSt.below {w w' : World} {B : Nat} {s : St} {A1 : Option Addr} {n1 : Nat} {A2 : Option Addr} {n2 : Nat} {A3 : Option Addr} {n3 : Nat} (h : IsSt w B s A1 n1 A2 n2 A3 n3) (hb : Below B w w') : IsSt w' B s A1 n1 A2 n2 A3 n3 := ⟨h.ex.below hb, h.th.below hb, h.el.below hb⟩
theorem IsSt.more {w : World} {B B' : Nat} {s : St} {A1 : Option Addr} {n1 : Nat} {A2 : Option Addr} {n2 : Nat} {A3 : Option Addr} {n3 : Nat} (h : IsSt w B s A1 n1 A2 n2 A3 n3) (hB : B ≤ B') : IsSt w B' s A1 n1 A2 n2 A3 n3 := ⟨h.ex.more hB, h.th.more hB, h.el.more hB⟩
theorem IsFc.below {w w' : World} {B : Nat} {f : Fc} {A1 : Option Addr} {n1 : Nat} {A2 : Option Addr} {n2 : Nat} (h : IsFc w B f A1 n1 A2 n2) (hb : Below B w w') : IsFc w' B f A1 n1 A2 n2 := ⟨h.body.below hb, h.stmts.below hb⟩
theorem IsFc.more {w : World} {B B' : Nat} {f : Fc} {A1 : Option Addr} {n1 : Nat} {A2 : Option Addr} {n2 : Nat} (h : IsFc w B f A1 n1 A2 n2) (hB : B ≤ B') : IsFc w B' f A1 n1 A2 n2 := ⟨h.body.more hB, h.stmts.more hB⟩
/-- At a later world, below its own end. -/
theorem IsFc.now {w w' : World} {f : Fc} {A1 : Option Addr} {n1 : Nat} {A2 : Option Addr} {n2 : Nat} (h : IsFc w w.heap.size f A1 n1 A2 n2) (hb : Below w.heap.size w w') : IsFc w' w'.heap.size f A1 n1 A2 n2 := (h.below hb).more hb.size
theorem IsSt.now {w w' : World} {s : St} {A1 : Option Addr} {n1 : Nat} {A2 : Option Addr} {n2 : Nat} {A3 : Option Addr} {n3 : Nat} (h : IsSt w w.heap.size s A1 n1 A2 n2 A3 n3) (hb : Below w.heap.size w w') : IsSt w' w'.heap.size s A1 n1 A2 n2 A3 n3 := (h.below hb).more hb.size
theorem ReadsF.now {w w' : World} {A : Option Addr} {n : Nat} {fs : List Fc} (h : ReadsF w w.heap.size A n fs) (hb : Below w.heap.size w w') : ReadsF w' w'.heap.size A n fs := (h.below hb).more hb.size
theorem ReadsS.now {w w' : World} {A : Option Addr} {n : Nat} {ss : List St} (h : ReadsS w w.heap.size A n ss) (hb : Below w.heap.size w w') : ReadsS w' w'.heap.size A n ss := (h.below hb).more hb.size
theorem Reads.now {w w' : World} {k : IntKind} {A : Option Addr} {n : Nat} {xs : List Int} (h : Reads w w.heap.size k A n xs) (hb : Below w.heap.size w w') : Reads w' w'.heap.size k A n xs := (h.below hb).more hb.size
theorem ReadsT.now {w w' : World} {A : Option Addr} {n : Nat} {ts : List Token} (h : ReadsT w w.heap.size A n ts) (hb : Below w.heap.size w w') : ReadsT w' w'.heap.size A n ts := (h.below hb).more hb.size

/-- Sizes within what the laws let through. -/
def SmallS (s : St) : Prop := s.ex.length ≤ 1048576 ∧ s.th.length ≤ 1048576 ∧ s.el.length ≤ 1048576
def SmallF (f : Fc) : Prop := f.body.length ≤ 1048576 ∧ f.stmts.length ≤ 1048576 ∧ ∀ s ∈ f.stmts, SmallS s
def SmallP (fs : List Fc) : Prop := fs.length ≤ 1048576 ∧ ∀ f ∈ fs, SmallF f

/-- How many values the laws count. -/
def manyS (s : St) : Nat := s.ex.length + s.th.length + s.el.length
def manySs : List St → Nat
  | [] => 0
  | s :: r => manyS s + manySs r
def manyF (f : Fc) : Nat := f.body.length + (f.stmts.length + manySs f.stmts)
def manyFs : List Fc → Nat
  | [] => 0
  | f :: r => manyF f + manyFs r
theorem manySs_append (a b : List St) : manySs (a ++ b) = manySs a + manySs b := by induction a with | nil => simp [manySs] | cons s r ih => simp [manySs, ih]; omega
theorem manyFs_append (a b : List Fc) : manyFs (a ++ b) = manyFs a + manyFs b := by induction a with | nil => simp [manyFs] | cons s r ih => simp [manyFs, ih]; omega
theorem manySs_mem {ss : List St} {s : St} (h : s ∈ ss) : manyS s ≤ manySs ss := by
  induction ss with
  | nil => cases h
  | cons a r ih => rcases List.mem_cons.1 h with rfl | h; · simp [manySs]
                   · have := ih h; simp [manySs]; omega
theorem manyFs_mem {fs : List Fc} {f : Fc} (h : f ∈ fs) : manyF f ≤ manyFs fs := by
  induction fs with
  | nil => cases h
  | cons a r ih => rcases List.mem_cons.1 h with rfl | h; · simp [manyFs]
                   · have := ih h; simp [manyFs]; omega
theorem smallF_of {f : Fc} (h : manyF f ≤ 1048576) : SmallF f := by
  unfold manyF at h
  refine ⟨by omega, by omega, fun s hs => ?_⟩
  have := manySs_mem hs
  unfold manyS at this
  exact ⟨by omega, by omega, by omega⟩
theorem smallP_of {fs : List Fc} (h : fs.length + manyFs fs ≤ 1048576) : SmallP fs :=
  ⟨by omega, fun f hf => smallF_of (by have := manyFs_mem hf; omega)⟩

theorem takeA_more {α : Type} {ts : List α} {k : Nat} {t : α} (h : ts[k]? = some t) : ts.take (k + 1) = ts.take k ++ [t] := by
  rw [List.take_add_one, h]; rfl
theorem mem_of_at {α : Type} {ts : List α} {k : Nat} {t : α} (h : ts[k]? = some t) : t ∈ ts := List.mem_of_getElem? h

end Go.Proofs.Ytaogdaoiijmmhaa

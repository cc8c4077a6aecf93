/-
  The program's blocks of statements in memory; what a statement without blocks does; how long a block is.
-/
import Derived.Test.YtpmpjiigmjnniaaJLowS
namespace Go.Proofs.Ytpmpjiigmjnniaa
open Go.RowKit Exs

theorem Inss.same {w w' : World} {B : Nat} {v : Value} {ts : List Token} (h : Inss w B v ts) (hs : ∀ b, v.ownBlock = some b → w'.heap[b]? = w.heap[b]?) : Inss w' B v ts := by
  refine ⟨h.1, ?_⟩
  rcases h.2 with h0 | ⟨g, cap, cur, hv, hB, hh, r⟩
  · exact .inl h0
  · exact .inr ⟨g, cap, cur, hv, hB, (hs g (by rw [hv]; rfl)).trans hh, r⟩

/-- A row of instructions in memory that lies in blocks of a set. -/
def InsAt (W : World) (S : Nat → Prop) (v : Value) (ts : List Token) : Prop := Inss W 0 v ts ∧ ∀ b, v.ownBlock = some b → S b
theorem InsAt.kept {W W' : World} {S : Nat → Prop} {v : Value} {ts : List Token} (h : InsAt W S v ts) (hs : ∀ b, S b → W'.heap[b]? = W.heap[b]?) : InsAt W' S v ts := ⟨h.1.same fun b hb => hs b (h.2 b hb), h.2⟩
theorem InsAt.more {W : World} {S S' : Nat → Prop} {v : Value} {ts : List Token} (h : InsAt W S v ts) (hs : ∀ b, S b → S' b) : InsAt W S' v ts := ⟨h.1, fun b hb => hs b (h.2 b hb)⟩
/-- A block of statements in memory: a row of interface values from a place on. -/
def HoldsLo (W : World) (S : Nat → Prop) : Option Addr → Nat → Lo → Prop
  | _, _, .nil => True
  | A, i, .plain c r => (∃ g o v, A = some ⟨g, o, none⟩ ∧ S g ∧ W.cell? ⟨g, o + i, none⟩ = some (.iface 113 v) ∧ InsAt W S v c) ∧ HoldsLo W S A (i + 1) r
  | A, i, .ifs e t l r => (∃ g o v At nt ct Al nl cl, A = some ⟨g, o, none⟩ ∧ S g ∧ W.cell? ⟨g, o + i, none⟩ = some (.iface 115 (.agg #[v, .slice At nt ct, .slice Al nl cl])) ∧ InsAt W S v e ∧ nt = t.many ∧ nl = l.many ∧ HoldsLo W S At 0 t ∧ HoldsLo W S Al 0 l) ∧ HoldsLo W S A (i + 1) r
  | A, i, .whl e t r => (∃ g o v At nt ct, A = some ⟨g, o, none⟩ ∧ S g ∧ W.cell? ⟨g, o + i, none⟩ = some (.iface 117 (.agg #[v, .slice At nt ct])) ∧ InsAt W S v e ∧ nt = t.many ∧ HoldsLo W S At 0 t) ∧ HoldsLo W S A (i + 1) r
theorem cell_same {W W' : World} {g o : Nat} (h : W'.heap[g]? = W.heap[g]?) : W'.cell? ⟨g, o, none⟩ = W.cell? ⟨g, o, none⟩ := by
  unfold World.cell?
  simp only [h]
theorem HoldsLo.kept {W W' : World} {S : Nat → Prop} (hs : ∀ b, S b → W'.heap[b]? = W.heap[b]?) : ∀ (b : Lo) (A : Option Addr) (i : Nat), HoldsLo W S A i b → HoldsLo W' S A i b
  | .nil, _, _, _ => trivial
  | .plain _ r, _, _, ⟨⟨g, o, v, h1, h2, h3, h4⟩, h5⟩ => ⟨⟨g, o, v, h1, h2, (cell_same (hs g h2)).trans h3, h4.kept hs⟩, HoldsLo.kept hs r _ _ h5⟩
  | .ifs _ t l r, _, _, ⟨⟨g, o, v, At, nt, ct, Al, nl, cl, h1, h2, h3, h4, h5, h6, h7, h8⟩, h9⟩ =>
    ⟨⟨g, o, v, At, nt, ct, Al, nl, cl, h1, h2, (cell_same (hs g h2)).trans h3, h4.kept hs, h5, h6, HoldsLo.kept hs t _ _ h7, HoldsLo.kept hs l _ _ h8⟩, HoldsLo.kept hs r _ _ h9⟩
  | .whl _ t r, _, _, ⟨⟨g, o, v, At, nt, ct, h1, h2, h3, h4, h5, h6⟩, h7⟩ => ⟨⟨g, o, v, At, nt, ct, h1, h2, (cell_same (hs g h2)).trans h3, h4.kept hs, h5, HoldsLo.kept hs t _ _ h6⟩, HoldsLo.kept hs r _ _ h7⟩
theorem HoldsLo.more {W : World} {S S' : Nat → Prop} (hs : ∀ b, S b → S' b) : ∀ (b : Lo) (A : Option Addr) (i : Nat), HoldsLo W S A i b → HoldsLo W S' A i b
  | .nil, _, _, _ => trivial
  | .plain _ r, _, _, ⟨⟨g, o, v, h1, h2, h3, h4⟩, h5⟩ => ⟨⟨g, o, v, h1, hs g h2, h3, h4.more hs⟩, HoldsLo.more hs r _ _ h5⟩
  | .ifs _ t l r, _, _, ⟨⟨g, o, v, At, nt, ct, Al, nl, cl, h1, h2, h3, h4, h5, h6, h7, h8⟩, h9⟩ =>
    ⟨⟨g, o, v, At, nt, ct, Al, nl, cl, h1, hs g h2, h3, h4.more hs, h5, h6, HoldsLo.more hs t _ _ h7, HoldsLo.more hs l _ _ h8⟩, HoldsLo.more hs r _ _ h9⟩
  | .whl _ t r, _, _, ⟨⟨g, o, v, At, nt, ct, h1, h2, h3, h4, h5, h6⟩, h7⟩ => ⟨⟨g, o, v, At, nt, ct, h1, hs g h2, h3, h4.more hs, h5, HoldsLo.more hs t _ _ h6⟩, HoldsLo.more hs r _ _ h7⟩

/-- What a statement without blocks does behind its expression. -/
def doesL (k m : Int) : List Token :=
  if k = 1 then [(3, m)] else if k = 2 then [(8, 0)] else if k = 4 then [(13, 0)] else if k = 5 then [(15, 0), (16, 0)] else if k = 6 then [(14, 0)] else [(9, 0)]

set_option maxHeartbeats 1000000 in
set_option maxRecDepth 100000 in
theorem lowDoes_any (k m : Int) (v1 v2 v3 : Value) (w : World) :
    Calls Try.prog 69 #[.agg #[.int .i64 k, .int .i64 m, v1, v2, v3]] w fun e w' => ∃ v, e = .returned v ∧ Inss w' w.heap.size v (doesL k m) ∧ Below w.heap.size w w' := by
  have hb0 : Below w.heap.size w (w.alloc (.cells #[.int .i64 k, .int .i64 m, v1, v2, v3] 66)) := (Below.refl _ _).alloc (Nat.le_refl _) _
  by_cases h1 : k = 1
  · subst h1
    have hd : doesL 1 m = [(3, m)] := rfl
    rw [hd]
    go_enter Try.func69, Try.ntmps69
    go_wp2
    have hI := Inss.lit1 (w.alloc (.cells #[.int .i64 1, .int .i64 m, v1, v2, v3] 66)) 3 m
    simp only [World.size_alloc] at hI
    have hB := hb0.alloc hb0.size (.cells #[.int .i64 (3), .int .i64 (m)] 69)
    go_ret
    exact ⟨_, rfl, hI.under (Nat.le_succ _), hB⟩
  by_cases h2 : k = 2
  · subst h2
    have hd : doesL 2 m = [(8, 0)] := rfl
    rw [hd]
    go_enter Try.func69, Try.ntmps69
    go_wp2
    have hI := Inss.lit1 (w.alloc (.cells #[.int .i64 2, .int .i64 m, v1, v2, v3] 66)) 8 0
    simp only [World.size_alloc] at hI
    have hB := hb0.alloc hb0.size (.cells #[.int .i64 (8), .int .i64 (0)] 69)
    go_ret
    exact ⟨_, rfl, hI.under (Nat.le_succ _), hB⟩
  by_cases h4 : k = 4
  · subst h4
    have hd : doesL 4 m = [(13, 0)] := rfl
    rw [hd]
    go_enter Try.func69, Try.ntmps69
    go_wp2
    have hI := Inss.lit1 (w.alloc (.cells #[.int .i64 4, .int .i64 m, v1, v2, v3] 66)) 13 0
    simp only [World.size_alloc] at hI
    have hB := hb0.alloc hb0.size (.cells #[.int .i64 (13), .int .i64 (0)] 69)
    go_ret
    exact ⟨_, rfl, hI.under (Nat.le_succ _), hB⟩
  by_cases h5 : k = 5
  · subst h5
    have hd : doesL 5 m = [(15, 0), (16, 0)] := rfl
    rw [hd]
    go_enter Try.func69, Try.ntmps69
    go_wp2
    have hI := Inss.lit2 (w.alloc (.cells #[.int .i64 5, .int .i64 m, v1, v2, v3] 66)) 15 0 16 0
    simp only [World.size_alloc] at hI
    have hB := hb0.alloc hb0.size (.cells #[.int .i64 15, .int .i64 0, .int .i64 16, .int .i64 0] 69)
    go_ret
    exact ⟨_, rfl, hI.under (Nat.le_succ _), hB⟩
  by_cases h6 : k = 6
  · subst h6
    have hd : doesL 6 m = [(14, 0)] := rfl
    rw [hd]
    go_enter Try.func69, Try.ntmps69
    go_wp2
    have hI := Inss.lit1 (w.alloc (.cells #[.int .i64 6, .int .i64 m, v1, v2, v3] 66)) 14 0
    simp only [World.size_alloc] at hI
    have hB := hb0.alloc hb0.size (.cells #[.int .i64 (14), .int .i64 (0)] 69)
    go_ret
    exact ⟨_, rfl, hI.under (Nat.le_succ _), hB⟩
  · have hd : doesL k m = [(9, 0)] := by simp [doesL, h1, h2, h4, h5, h6]
    rw [hd]
    go_enter Try.func69, Try.ntmps69
    go_wp2
    have hI := Inss.lit1 (w.alloc (.cells #[.int .i64 k, .int .i64 m, v1, v2, v3] 66)) 9 0
    simp only [World.size_alloc] at hI
    have hB := hb0.alloc hb0.size (.cells #[.int .i64 (9), .int .i64 (0)] 69)
    go_ret
    exact ⟨_, rfl, hI.under (Nat.le_succ _), hB⟩

end Go.Proofs.Ytpmpjiigmjnniaa

/-
  Rows of statements of the call's own, what they lead to, and frames.
  Where the drawing of statements stands within a round: what is kept from step to step.
  A statement appended to a row, one set in a row, a row read.
  The drawing of statements: from a call within a statement back to it.
  The reference's drawing of statements: what it gives.
  Rows of functions of the call's own, and what they lead to.
  The reference's drawing of programs: its contract.
  While a program is drawn: one more function, and the end.
-/
import Derived.Test.YtfdijeeilfhjeaaPkC
import Derived.Test.YtfdijeeilfhjeaaPkB
import Derived.Maps.AppendAt
import Derived.Deep.RegionLaw
namespace Go.Proofs.Ytfdijeeilfhjeaa
open Go.RowKit Exs

/-- All but the blocks of X are as they were. -/
structure KeptX (X : Nat → Prop) (w w' : World) : Prop where
  os : w'.os = w.os
  tape : w'.tape = w.tape
  output : w'.output = w.output
  size : w.heap.size ≤ w'.heap.size
  block : ∀ k, k < w.heap.size → ¬ X k → w'.heap[k]? = w.heap[k]?
theorem KeptX.refl (X : Nat → Prop) (w : World) : KeptX X w w := ⟨rfl, rfl, rfl, Nat.le_refl _, fun _ _ _ => rfl⟩
theorem KeptX.trans {X : Nat → Prop} {a b c : World} (h : KeptX X a b) (k : KeptX X b c) : KeptX X a c :=
  ⟨k.os.trans h.os, k.tape.trans h.tape, k.output.trans h.output, Nat.le_trans h.size k.size, fun i hi hx => (k.block i (Nat.lt_of_lt_of_le hi h.size) hx).trans (h.block i hi hx)⟩
/-- Behind a frame whose blocks are those of this one, or new. -/
theorem KeptX.trans' {X Y : Nat → Prop} {a b c : World} (h : KeptX X a b) (k : KeptX Y b c) (hY : ∀ i, i < a.heap.size → Y i → X i) : KeptX X a c :=
  ⟨k.os.trans h.os, k.tape.trans h.tape, k.output.trans h.output, Nat.le_trans h.size k.size, fun i hi hx => (k.block i (Nat.lt_of_lt_of_le hi h.size) (fun hy => hx (hY i hi hy))).trans (h.block i hi hx)⟩
theorem KeptX.alloc {X : Nat → Prop} {a b : World} (h : KeptX X a b) (o : Obj) : KeptX X a (b.alloc o) :=
  h.trans ⟨rfl, rfl, rfl, by simp, fun i hi _ => Below.heap_alloc _ _ _ hi⟩
theorem KeptX.of_grownBy {X : Nat → Prop} {w w' : World} {r : Option Nat} (h : w.grownBy w' r) (hr : ∀ k, r = some k → X k) : KeptX X w w' :=
  ⟨h.os, h.tape, h.output, h.size, fun k hk hx => h.block k hk (fun e => hx (hr k e.symm))⟩
theorem KeptX.set {X : Nat → Prop} {a b : World} (h : KeptX X a b) {g : Nat} (hg : X g ∨ a.heap.size ≤ g) (i : Nat) (v : Value) : KeptX X a (b.setCell ⟨g, i, none⟩ v) :=
  ⟨h.os, h.tape, h.output, by simpa [World.setCell] using h.size, fun k hk hx => (Below.heap_setCell _ _ _ _ (show k ≠ g from fun e => by subst e; rcases hg with hg | hg; exact hx hg; omega)).trans (h.block k hk hx)⟩
theorem KeptX.keep {X : Nat → Prop} {w w' : World} (h : KeptX X w w') {g : Nat} {cs : Array Value} {t : TypeId} (hk : Keep w g cs t) (hx : ¬ X g) : Keep w' g cs t := (h.block g hk.lt hx).trans hk
theorem KeptX.row {X : Nat → Prop} {w w' : World} (h : KeptX X w w') {B : Nat} {e : TypeId} {size n : Nat} {v : Value} {xs : List Value} (ho : w.ownsRow B e size v n xs) (hx : ∀ g, v.ownBlock = some g → ¬ X g) : w'.ownsRow B e size v n xs := by
  refine ⟨ho.1, ?_⟩
  rcases ho.2 with h0 | ⟨g, cap, cur, hv, hB, hg, r⟩
  · exact .inl h0
  · exact .inr ⟨g, cap, cur, hv, hB, (h.block g (Array.getElem?_eq_some_iff.1 hg).1 (hx g (by rw [hv]; rfl))).trans hg, r⟩
/-- The blocks of X hold no ints and no tokens. -/
def TagX (w : World) (X : Nat → Prop) : Prop := ∀ k cs t fz, X k → w.heap[k]? = some (.cells cs t fz) → t ≠ 3 ∧ t ≠ 107
theorem TagX.row {w : World} {X : Nat → Prop} (h : TagX w X) {B : Nat} {e : TypeId} {size n : Nat} {v : Value} {xs : List Value} (ho : w.ownsRow B e size v n xs) (he : e = 3 ∨ e = 107) : ∀ g, v.ownBlock = some g → ¬ X g := by
  intro g hg hx
  rcases ho.2 with ⟨rfl, _⟩ | ⟨g', cap, cur, rfl, _, hh, _⟩
  · simp [Value.ownBlock] at hg
  · simp [Value.ownBlock] at hg
    subst hg
    have := h g' _ _ _ hx hh
    rcases he with rfl | rfl
    · exact this.1 rfl
    · exact this.2 rfl
theorem Nums.keptX {w w' : World} {X : Nat → Prop} {B : Nat} {v : Value} {xs : List Int} (h : Nums w B 3 .i64 v xs) (hk : KeptX X w w') (ht : TagX w X) : Nums w' B 3 .i64 v xs := hk.row h (ht.row h (.inl rfl))
theorem Toks.keptX {w w' : World} {X : Nat → Prop} {B : Nat} {v : Value} {ts : List Token} (h : Toks w B v ts) (hk : KeptX X w w') (ht : TagX w X) : Toks w' B v ts := hk.row h (ht.row h (.inr rfl))

/-- A statement's five cells. -/
structure C5 where
  k : Int
  n : Int
  v1 : Value
  v2 : Value
  v3 : Value
def cells5 (c : C5) : List Value := [.int .i64 c.k, .int .i64 c.n, c.v1, c.v2, c.v3]
def flat5 (cs : List C5) : List Value := cs.flatMap cells5
theorem flat5_length : ∀ cs : List C5, (flat5 cs).length = cs.length * 5
  | [] => rfl
  | c :: r => by have := flat5_length r; simp only [flat5, List.flatMap_cons, List.length_append, List.length_cons] at *; simp only [cells5, List.length_cons, List.length_nil]; omega
theorem flat5_snoc (cs : List C5) (c : C5) : flat5 (cs ++ [c]) = flat5 cs ++ cells5 c := by simp [flat5]
theorem flat5_at : ∀ {cs : List C5} {j : Nat} {c : C5}, cs[j]? = some c → ∀ i, i < 5 → (flat5 cs)[j * 5 + i]? = (cells5 c)[i]?
  | [], j, c, h, i, hi => by simp at h
  | d :: r, 0, c, h, i, hi => by
    simp at h
    subst h
    rw [Nat.zero_mul, Nat.zero_add]
    simp only [flat5, List.flatMap_cons]
    rw [List.getElem?_append_left (by simp [cells5]; omega)]
  | d :: r, j + 1, c, h, i, hi => by
    have ih := flat5_at (cs := r) (j := j) (c := c) (by simpa using h) i hi
    simp only [flat5, List.flatMap_cons]
    rw [List.getElem?_append_right (by simp [cells5]; omega)]
    rw [show (j + 1) * 5 + i - (cells5 d).length = j * 5 + i by simp [cells5]; omega]
    exact ih
theorem flat5_set : ∀ {cs : List C5} {j : Nat} (c : C5), j < cs.length → (((((flat5 cs).set (j * 5) (.int .i64 c.k)).set (j * 5 + 1) (.int .i64 c.n)).set (j * 5 + 2) c.v1).set (j * 5 + 3) c.v2).set (j * 5 + 4) c.v3 = flat5 (cs.set j c)
  | [], j, c, h => by simp at h
  | d :: r, 0, c, h => by
    simp [flat5, cells5]
  | d :: r, j + 1, c, h => by
    have ih := flat5_set (cs := r) (j := j) c (by simpa using h)
    have hl : (cells5 d).length = 5 := rfl
    rw [List.set_cons_succ]
    simp only [flat5, List.flatMap_cons] at ih ⊢
    rw [← ih]
    rw [show (j + 1) * 5 = (cells5 d).length + j * 5 by rw [hl]; omega]
    simp only [Nat.add_assoc, List.set_append_right (h := Nat.le_add_right _ _), Nat.add_sub_cancel_left]

/-- What a statement's slices are. -/
def Leads (w : World) (B : Nat) (c : C5) : Prop := (∃ ts, Toks w B c.v1 ts ∧ ts.length ≤ 100) ∧ (∃ xs, Nums w B 3 .i64 c.v2 xs ∧ xs.length ≤ 100) ∧ ∃ ys, Nums w B 3 .i64 c.v3 ys ∧ ys.length ≤ 100
theorem Leads.keptX {w w' : World} {X : Nat → Prop} {B : Nat} {c : C5} (h : Leads w B c) (hk : KeptX X w w') (ht : TagX w X) : Leads w' B c := by
  obtain ⟨⟨ts, h1, l1⟩, ⟨xs, h2, l2⟩, ys, h3, l3⟩ := h
  exact ⟨⟨ts, h1.keptX hk ht, l1⟩, ⟨xs, h2.keptX hk ht, l2⟩, ys, h3.keptX hk ht, l3⟩
/-- A row of statements of the call's own. -/
structure Sts (w : World) (B : Nat) (v : Value) (cs : List C5) : Prop where
  own : w.ownsRow B 106 5 v cs.length (flat5 cs)
  leads : ∀ c ∈ cs, Leads w B c
theorem Sts.nil (w : World) (B : Nat) : Sts w B (.slice none 0 0) [] := ⟨World.ownsRow_nil _ _ _ _, by simp⟩
theorem Sts.keptX {w w' : World} {X : Nat → Prop} {B : Nat} {v : Value} {cs : List C5} (h : Sts w B v cs) (hk : KeptX X w w') (ht : TagX w X) (hx : ∀ g, v.ownBlock = some g → ¬ X g) : Sts w' B v cs :=
  ⟨hk.row h.own hx, fun c hc => (h.leads c hc).keptX hk ht⟩
theorem Sts.shape {w : World} {B : Nat} {v : Value} {cs : List C5} (h : Sts w B v cs) : (v = .slice none 0 0 ∧ cs = []) ∨ ∃ g c, v = .slice (some ⟨g, 0, none⟩) cs.length c := by
  rcases h.own.2 with ⟨rfl, h0⟩ | ⟨g, cap, cur, rfl, _⟩
  · exact .inl ⟨rfl, List.eq_nil_of_length_eq_zero h0⟩
  · exact .inr ⟨_, _, rfl⟩
theorem Sts.slice {w : World} {B : Nat} {v : Value} {cs : List C5} (h : Sts w B v cs) : ∃ A c, v = .slice A cs.length c := by
  rcases h.shape with ⟨rfl, rfl⟩ | ⟨g, c, rfl⟩
  · exact ⟨none, 0, rfl⟩
  · exact ⟨_, _, rfl⟩
theorem Sts.at_ {w : World} {B : Nat} {g n cap : Nat} {cs : List C5} (h : Sts w B (.slice (some ⟨g, 0, none⟩) n cap) cs) {j : Nat} (hj : j < cs.length) :
    ∃ c, cs[j]? = some c ∧ w.cell? ⟨g, j * 5, none⟩ = some (.int .i64 c.k) ∧ w.cell? ⟨g, j * 5 + 1, none⟩ = some (.int .i64 c.n) ∧ w.cell? ⟨g, j * 5 + 2, none⟩ = some c.v1 ∧ w.cell? ⟨g, j * 5 + 3, none⟩ = some c.v2 ∧ w.cell? ⟨g, j * 5 + 4, none⟩ = some c.v3 ∧ (∀ i, w.frozen? ⟨g, i, none⟩ = false) := by
  obtain ⟨c, hc⟩ : ∃ c, cs[j]? = some c := ⟨_, List.getElem?_eq_getElem hj⟩
  have hown := h.own
  have hn : n = cs.length := by rcases hown.2 with ⟨h0, _⟩ | ⟨g', cap', cur, hv, _⟩; cases h0; injection hv
  rw [hn] at hown
  have hcell := fun i (hi : i < 5) => (World.ownsRow.cellAt hown (j * 5 + i) (by omega)).trans (flat5_at hc i hi)
  exact ⟨c, hc, hcell 0 (by omega), hcell 1 (by omega), hcell 2 (by omega), hcell 3 (by omega), hcell 4 (by omega), fun i => World.ownsRow.frozenAt hown i⟩

end Go.Proofs.Ytfdijeeilfhjeaa
namespace Go.Proofs.Ytfdijeeilfhjeaa
open Go.RowKit Exs

/-- What does not change while statements are drawn. -/
structure Fix where
  w0 : World
  B : Nat
  gc : Nat
  gf : Nat
  A : Option Addr
  n : Nat
  c : Nat
  pr : Int
  vs : Int
  sv0 : Value
  p : Nat
  np : Nat
  cp : Nat
  ps : List Int
  R : Nat → Prop
/-- The blocks that may turn. -/
def Fix.X (F : Fix) (k : Nat) : Prop := k = F.gc ∨ k = F.gf ∨ some k = F.sv0.ownBlock
structure Fix.Ok (F : Fix) : Prop where
  hf : F.gf ≠ F.gc
  hp : F.p ≠ F.gc
  hpf : F.p ≠ F.gf
  hB : F.B ≤ F.w0.heap.size
  hgB : F.gc < F.B
  hfB : F.B ≤ F.gf
  hgc : F.gc < F.w0.heap.size
  hpl : F.p < F.w0.heap.size
  hgf : F.gf < F.w0.heap.size
  row : ∀ k, F.sv0.ownBlock = some k → k < F.w0.heap.size ∧ k ≠ F.gc ∧ k ≠ F.gf

/-- The statement leads to ints in block k. -/
def IntRow (c : C5) (k : Nat) : Prop := c.v2.ownBlock = some k ∨ c.v3.ownBlock = some k
/-- Between statements. -/
structure Out (F : Fix) (W : World) (T : Nat) (sv : Value) (cs : List C5) (bv : Value) (xs : List Int) : Prop where
  cur : Cur W F.gc F.A F.n F.c T
  box : Keep W F.gf #[.int .i64 F.pr, .int .i64 F.vs, .slice none 0 0, sv] 58
  sts : Sts W F.B sv cs
  pars : Pars W F.p F.np F.cp F.ps
  blk : Nums W F.w0.heap.size 3 .i64 bv xs
  kept : KeptX F.X F.w0 W
  row : sv.ownBlock = F.sv0.ownBlock ∨ ∀ k, sv.ownBlock = some k → F.w0.heap.size ≤ k
  news : ∀ x ∈ cs, ∀ k, IntRow x k → k < F.w0.heap.size → F.R k
  apart : ∀ x ∈ cs, ∀ k, bv.ownBlock = some k → ¬ IntRow x k

/-- Blocks of the state that are no ints and no tokens. -/
def Out.Y (F : Fix) (sv : Value) (k : Nat) : Prop := k = F.gc ∨ k = F.gf ∨ some k = sv.ownBlock
section
variable {F : Fix} {W W' : World} {T T' : Nat} {sv : Value} {cs : List C5} {bv : Value} {xs : List Int}
theorem Sts.tag {w : World} {B : Nat} {v : Value} {cs : List C5} (h : Sts w B v cs) {k : Nat} (hk : some k = v.ownBlock) : ∃ cells, w.heap[k]? = some (.cells cells 106 (0, 0)) := by
  rcases h.own.2 with ⟨rfl, _⟩ | ⟨g, cap, cur, rfl, _, hh, _⟩
  · simp [Value.ownBlock] at hk
  · simp [Value.ownBlock] at hk
    subst hk
    exact ⟨_, hh⟩
theorem Out.tags (h : Out F W T sv cs bv xs) : TagX W (Out.Y F sv) := by
  rintro k ds t fz (rfl | rfl | hk) hh
  · obtain ⟨_, _, _, hg, _⟩ := h.cur
    rw [hg] at hh
    injection hh with hh
    injection hh with _ hh _
    subst hh
    exact ⟨by decide, by decide⟩
  · have hg := h.box
    unfold Keep at hg
    rw [hg] at hh
    injection hh with hh
    injection hh with _ hh _
    subst hh
    exact ⟨by decide, by decide⟩
  · obtain ⟨ce, hg⟩ := h.sts.tag hk
    rw [hg] at hh
    injection hh with hh
    injection hh with _ hh _
    subst hh
    exact ⟨by decide, by decide⟩
theorem Out.rowNe (h : Out F W T sv cs bv xs) {k : Nat} (hk : sv.ownBlock = some k) : k ≠ F.gc ∧ k ≠ F.gf := by
  obtain ⟨ce, hg⟩ := h.sts.tag hk.symm
  refine ⟨fun e => ?_, fun e => ?_⟩
  · subst e
    obtain ⟨_, _, _, hh, _⟩ := h.cur
    rw [hg] at hh; injection hh with hh; injection hh with _ hh _; exact absurd hh (by decide)
  · subst e
    have hh := h.box
    unfold Keep at hh
    rw [hg] at hh; injection hh with hh; injection hh with _ hh _; exact absurd hh (by decide)
theorem Out.pNot (h : Out F W T sv cs bv xs) (ok : F.Ok) : ¬ Out.Y F sv F.p := by
  rintro (e | e | e)
  · exact ok.hp e
  · exact ok.hpf e
  · obtain ⟨ce, hg⟩ := h.sts.tag e
    obtain ⟨ds, hh, _⟩ := h.pars.row
    rw [hg] at hh; injection hh with hh; injection hh with _ hh _; exact absurd hh (by decide)
theorem Pars.keptX {X : Nat → Prop} {w w' : World} {p np cp : Nat} {ps : List Int} (h : Pars w p np cp ps) (hk : KeptX X w w') (hx : ¬ X p) : Pars w' p np cp ps := by
  have hl := h.row.lt
  obtain ⟨ds, h1, h2, h3⟩ := h.row
  exact ⟨⟨ds, (hk.block p hl hx).trans h1, h2, h3⟩, h.len, h.cap, h.one, h.five, h.vals⟩
theorem Cur.keptX {X : Nat → Prop} {w w' : World} {g : Nat} {A : Option Addr} {n c T : Nat} (h : Cur w g A n c T) (hk : KeptX X w w') (hx : ∀ k, k ≤ g → ¬ X k) : Cur w' g A n c T := by
  have hl := h.lt
  obtain ⟨t, z, bs, h1, h2, h3, h4, h5, h6, h7⟩ := h
  refine ⟨t, z, bs, (hk.block g hl (hx g (Nat.le_refl _))).trans h1, h2, h3, h4, h5, ⟨h6.1, fun hn => ?_⟩, h7⟩
  obtain ⟨b, off, e1, e2, e3⟩ := h6.2 hn
  exact ⟨b, off, e1, e2, fun j y hy => (World.cell?_of_block (a := ⟨b, off + j, none⟩) (hk.block b (by omega) (hx b (by omega)))).trans (e3 j y hy)⟩
/-- The cursor has moved. -/
theorem Out.cursor (h : Out F W T sv cs bv xs) (ok : F.Ok) (hg : W.grownBy W' (some F.gc)) (hc : Cur W' F.gc F.A F.n F.c T') : Out F W' T' sv cs bv xs := by
  have hk : KeptX (fun k => k = F.gc) W W' := KeptX.of_grownBy hg (fun k e => by injection e with e; exact e.symm)
  have htag : TagX W (fun k => k = F.gc) := fun k ds t fz hx hh => h.tags k ds t fz (.inl hx) hh
  exact ⟨hc, hk.keep h.box ok.hf, h.sts.keptX hk htag (fun g hg' => (h.rowNe hg').1), h.pars.keptX hk ok.hp, h.blk.keptX hk htag, h.kept.trans' hk (fun i _ e => .inl e), h.row, h.news, h.apart⟩
theorem Out.below (h : Out F W T sv cs bv xs) (hb : Below W.heap.size W W') : Out F W' T sv cs bv xs := by
  have hk : KeptX (fun _ => False) W W' := ⟨hb.os, hb.tape, hb.output, hb.size, fun k hk _ => hb.block k hk⟩
  have htag : TagX W (fun _ => False) := fun _ _ _ _ hx => hx.elim
  exact ⟨h.cur.below hb h.cur.lt, hk.keep h.box (fun x => x), h.sts.keptX hk htag (fun _ _ x => x), h.pars.keptX hk (fun x => x), h.blk.keptX hk htag, h.kept.trans' hk (fun _ _ x => x.elim), h.row, h.news, h.apart⟩
theorem Out.alloc (h : Out F W T sv cs bv xs) (o : Obj) : Out F (W.alloc o) T sv cs bv xs := h.below ((Below.refl _ _).alloc (Nat.le_refl _) o)
theorem Out.more (h : Out F W T sv cs bv xs) (hT : T ≤ T') : Out F W T' sv cs bv xs := ⟨h.cur.more hT, h.box, h.sts, h.pars, h.blk, h.kept, h.row, h.news, h.apart⟩
/-- A block that is none of the state's has been written. -/
theorem Out.write (h : Out F W T sv cs bv xs) (ok : F.Ok) {g : Nat} {ds : Array Value} {t : TypeId} (hk : Keep W g ds t) (ht : t = 106) (hne : sv.ownBlock ≠ some g) (hnew : F.w0.heap.size ≤ g) (i : Nat) (v : Value) : Out F (W.setCell ⟨g, i, none⟩ v) T sv cs bv xs := by
  have hkX : KeptX (fun k => k = g) W (W.setCell ⟨g, i, none⟩ v) := KeptX.set (KeptX.refl (fun k => k = g) W) (.inl rfl) i v
  have htag : TagX W (fun k => k = g) := by
    rintro k es u fz rfl hh
    unfold Keep at hk
    rw [hk] at hh; injection hh with hh; injection hh with _ hh _
    subst hh
    subst ht
    exact ⟨by decide, by decide⟩
  have hgc : F.gc ≠ g := by have := ok.hgc; omega
  have hgf : F.gf ≠ g := by have := ok.hgf; omega
  have hpg : ¬ F.p = g := by
    intro e
    obtain ⟨es, hh, _⟩ := h.pars.row
    unfold Keep at hk
    rw [e, hk] at hh; injection hh with hh; injection hh with _ hh _
    subst ht
    exact absurd hh (by decide)
  have hcur : Cur (W.setCell ⟨g, i, none⟩ v) F.gc F.A F.n F.c T := by
    have hlt := h.cur.lt
    obtain ⟨q, z, bs, h1, h2, h3, h4, h5, h6, h7⟩ := h.cur
    have hle := ok.hgc
    exact ⟨q, z, bs, (Below.heap_setCell _ _ _ _ hgc).trans h1, h2, h3, h4, h5, h6.below ((Below.refl F.gc W).setCell (p := ⟨g, i, none⟩) (by show F.gc ≤ g; omega) v), h7⟩
  exact ⟨hcur, hkX.keep h.box hgf, h.sts.keptX hkX htag (fun k hk' e => hne (by rw [hk', e])), h.pars.keptX hkX hpg, h.blk.keptX hkX htag, h.kept.trans' hkX (fun j hj e => by subst e; omega), h.row, h.news, h.apart⟩
end

/-- One more number in the block. -/
theorem Out.pushed {F : Fix} {W w' : World} {T : Nat} {sv : Value} {cs : List C5} {bv bv' : Value} {xs ys : List Int} (h : Out F W T sv cs bv xs) (ok : F.Ok) (hn : Nums w' F.w0.heap.size 3 .i64 bv' ys) (hg : W.grownBy w' bv.ownBlock) (hat : bv'.ownBlock = bv.ownBlock ∨ ∀ k, bv'.ownBlock = some k → W.heap.size ≤ k) : Out F w' T sv cs bv' ys := by
  have hk : KeptX (fun k => some k = bv.ownBlock) W w' := KeptX.of_grownBy hg (fun k e => e.symm)
  have hnew : ∀ k, some k = bv.ownBlock → F.w0.heap.size ≤ k := fun k e => (World.ownsRow.lt h.blk k e.symm).1
  have htag : ∀ k, some k = bv.ownBlock → ∃ ce, W.heap[k]? = some (.cells ce 3 (0, 0)) := by
    intro k e
    rcases h.blk.2 with ⟨rfl, _⟩ | ⟨g, cap, cur, rfl, _, hh, _⟩
    · simp [Value.ownBlock] at e
    · simp [Value.ownBlock] at e; subst e; exact ⟨_, hh⟩
  have hgc := ok.hgc
  have hgf := ok.hgf
  have hrow : ∀ k, sv.ownBlock = some k → ¬ some k = bv.ownBlock := by
    intro k h1 h2
    obtain ⟨c1, e1⟩ := h.sts.tag h1.symm
    obtain ⟨c2, e2⟩ := htag k h2
    rw [e1] at e2; injection e2 with e2; injection e2 with _ e2 _; exact absurd e2 (by decide)
  have hld : ∀ x ∈ cs, Leads w' F.B x := by
    intro x hx
    obtain ⟨⟨ts, h1, l1⟩, ⟨zs, h2, l2⟩, ws, h3, l3⟩ := h.sts.leads x hx
    refine ⟨⟨ts, hk.row h1 ?_, l1⟩, ⟨zs, hk.row h2 (fun k e1 e2 => h.apart x hx k e2.symm (.inl e1)), l2⟩, ws, hk.row h3 (fun k e1 e2 => h.apart x hx k e2.symm (.inr e1)), l3⟩
    intro k e1 e2
    obtain ⟨c2, e3⟩ := htag k e2
    rcases h1.2 with ⟨e, _⟩ | ⟨g, cap, cur, e, _, hh, _⟩
    · rw [e] at e1; simp [Value.ownBlock] at e1
    · rw [e] at e1; simp [Value.ownBlock] at e1; subst e1
      rw [e3] at hh; injection hh with hh; injection hh with _ hh _; exact absurd hh (by decide)
  have hpp : ¬ some F.p = bv.ownBlock := fun e => by have := hnew _ e; have := ok.hpl; omega
  refine ⟨h.cur.keptX hk (fun k hk' e => by have := hnew k e; omega), hk.keep h.box (fun e => by have := hnew _ e; omega), ⟨hk.row h.sts.own hrow, hld⟩, h.pars.keptX hk hpp, hn, h.kept.trans' hk (fun i hi e => by have := hnew i e; omega), h.row, h.news, ?_⟩
  intro x hx k hk' hr
  rcases hat with e | e
  · rw [e] at hk'; exact h.apart x hx k hk' hr
  · have h1 := e k hk'
    obtain ⟨_, ⟨zs, h2, _⟩, ws, h3, _⟩ := h.sts.leads x hx
    rcases hr with hr | hr
    · have := (World.ownsRow.lt h2 k hr).2; omega
    · have := (World.ownsRow.lt h3 k hr).2; omega

/-- Within a statement: it lies in a box of its own. -/
structure Mid (F : Fix) (W : World) (T : Nat) (sv : Value) (cs : List C5) (bv : Value) (xs : List Int) (gs : Nat) (x : C5) : Prop where
  out : Out F W T sv cs bv xs
  s : Keep W gs #[.int .i64 x.k, .int .i64 x.n, x.v1, x.v2, x.v3] 106
  leads : Leads W F.B x
  ne : sv.ownBlock ≠ some gs
  new : F.w0.heap.size ≤ gs
  xnews : ∀ k, IntRow x k → k < F.w0.heap.size → F.R k
  xapart : ∀ k, bv.ownBlock = some k → ¬ IntRow x k
section
variable {F : Fix} {W W' : World} {T T' : Nat} {sv : Value} {cs : List C5} {bv : Value} {xs : List Int} {gs : Nat} {x : C5}
theorem Mid.cursor (h : Mid F W T sv cs bv xs gs x) (ok : F.Ok) (hg : W.grownBy W' (some F.gc)) (hc : Cur W' F.gc F.A F.n F.c T') : Mid F W' T' sv cs bv xs gs x := by
  have hk : KeptX (fun k => k = F.gc) W W' := KeptX.of_grownBy hg (fun k e => by injection e with e; exact e.symm)
  have htag : TagX W (fun k => k = F.gc) := fun k ds t fz hx hh => h.out.tags k ds t fz (.inl hx) hh
  exact ⟨h.out.cursor ok hg hc, hk.keep h.s (by have := ok.hgc; have := h.new; omega), h.leads.keptX hk htag, h.ne, h.new, h.xnews, h.xapart⟩
theorem Mid.below (h : Mid F W T sv cs bv xs gs x) (hb : Below W.heap.size W W') : Mid F W' T sv cs bv xs gs x := by
  have hk : KeptX (fun _ => False) W W' := ⟨hb.os, hb.tape, hb.output, hb.size, fun k hk _ => hb.block k hk⟩
  have htag : TagX W (fun _ => False) := fun _ _ _ _ hx => hx.elim
  exact ⟨h.out.below hb, h.s.below hb, h.leads.keptX hk htag, h.ne, h.new, h.xnews, h.xapart⟩
theorem Mid.alloc (h : Mid F W T sv cs bv xs gs x) (o : Obj) : Mid F (W.alloc o) T sv cs bv xs gs x := h.below ((Below.refl _ _).alloc (Nat.le_refl _) o)
theorem Mid.more (h : Mid F W T sv cs bv xs gs x) (hT : T ≤ T') : Mid F W T' sv cs bv xs gs x := ⟨h.out.more hT, h.s, h.leads, h.ne, h.new, h.xnews, h.xapart⟩
/-- One cell of the statement is set. -/
theorem Mid.set (h : Mid F W T sv cs bv xs gs x) (ok : F.Ok) (x' : C5) (i : Nat) (v : Value) (hx : (#[Value.int .i64 x.k, .int .i64 x.n, x.v1, x.v2, x.v3]).setIfInBounds i v = #[.int .i64 x'.k, .int .i64 x'.n, x'.v1, x'.v2, x'.v3]) (hl : Leads W F.B x') (hn1 : ∀ k, IntRow x' k → k < F.w0.heap.size → F.R k) (hn2 : ∀ k, bv.ownBlock = some k → ¬ IntRow x' k) : Mid F (W.setCell ⟨gs, i, none⟩ v) T sv cs bv xs gs x' := by
  have hkX : KeptX (fun k => k = gs) W (W.setCell ⟨gs, i, none⟩ v) := KeptX.set (KeptX.refl (fun k => k = gs) W) (.inl rfl) i v
  have htag : TagX W (fun k => k = gs) := by
    rintro k es u fz rfl hh
    have hk := h.s
    unfold Keep at hk
    rw [hk] at hh; injection hh with hh; injection hh with _ hh _
    subst hh
    exact ⟨by decide, by decide⟩
  exact ⟨h.out.write ok h.s rfl h.ne h.new i v, by rw [← hx]; exact h.s.set i v, hl.keptX hkX htag, h.ne, h.new, hn1, hn2⟩
end

end Go.Proofs.Ytfdijeeilfhjeaa
namespace Go.Proofs.Ytfdijeeilfhjeaa
open Go.RowKit Exs

theorem toks_one {w : World} {B : Nat} {v : Value} {ts : List Token} (h : Toks w B v ts) : v.oneCell' = true := by
  rcases h.2 with ⟨rfl, _⟩ | ⟨_, _, _, rfl, _⟩ <;> rfl
theorem nums_one {w : World} {B : Nat} {v : Value} {xs : List Int} (h : Nums w B 3 .i64 v xs) : v.oneCell' = true := by
  rcases h.2 with ⟨rfl, _⟩ | ⟨_, _, _, rfl, _⟩ <;> rfl
theorem leads_one {w : World} {B : Nat} {c : C5} (h : Leads w B c) : ∀ u ∈ cells5 c, u.oneCell' = true := by
  obtain ⟨⟨_, h1, _⟩, ⟨_, h2, _⟩, _, h3, _⟩ := h
  intro u hu
  simp [cells5] at hu
  rcases hu with rfl | rfl | rfl | rfl | rfl
  · rfl
  · rfl
  · exact toks_one h1
  · exact nums_one h2
  · exact nums_one h3
theorem Leads.shape {w : World} {B : Nat} {c : C5} (h : Leads w B c) : ∃ A1 n1 c1 A2 n2 c2 A3 n3 c3, c.v1 = .slice A1 n1 c1 ∧ c.v2 = .slice A2 n2 c2 ∧ c.v3 = .slice A3 n3 c3 := by
  obtain ⟨⟨_, h1, _⟩, ⟨_, h2, _⟩, _, h3, _⟩ := h
  obtain ⟨A1, c1, e1, _⟩ := h1.reads
  obtain ⟨A2, c2, e2, _⟩ := h2.reads
  obtain ⟨A3, c3, e3, _⟩ := h3.reads
  exact ⟨A1, _, c1, A2, _, c2, A3, _, c3, e1, e2, e3⟩

/-- 'append(ss, s)' at a step of a region that draws. -/
theorem step_append_stmt {w : World} {ops : Array Oper} {o : Oper} {a : Act} {K : Act → World → Prop} {Q : Exit → Act → World → Prop} {E : Prop} (hgd : o.guard = none) (s x : Operand)
    (ho : o.op = .call { callee := .builtin .append, args := #[s, x], argTypes := #[56, 56] })
    (B : Nat) (v : Value) (cs : List C5) (hs : a.eval s = v) (hown : Sts w B v cs) (hB : B ≤ w.heap.size) (g0 : Nat) (c : C5) (hx : a.eval x = .slice (some ⟨g0, 0, none⟩) 1 1)
    (hk : Keep w g0 #[.int .i64 c.k, .int .i64 c.n, c.v1, c.v2, c.v3] 106) (hl : Leads w B c) (hlen : cs.length ≤ 1000)
    (h : ∀ v' w', Sts w' B v' (cs ++ [c]) → w.grownBy w' v.ownBlock → (v'.ownBlock = v.ownBlock ∨ v'.ownBlock = some w.heap.size) → K (a.put o.dst v') w') : if Region.wanted o (yielded ops a.tmps) = true then Oper.wp Try.prog o a w K Q else E := by
  have hw : Region.wanted o (yielded ops a.tmps) = true := by simp [Region.wanted, hgd]
  rw [if_pos hw]
  obtain ⟨i0, hi, hz0, hz1, hz2⟩ := info_parts Try.info106
  obtain ⟨v', w', hr, h2, h3, _, h5⟩ := run_append_own_at (P := Try.prog) w B 56 o.type 106 i0 _ 5 _ Try.underlying56 hi hz0 hz1 hz2 rfl (by decide) v cs.length _ hown.own ⟨g0, 0, none⟩ 1 1 (cells5 c) rfl (by
    intro j u hj
    have hadd : (⟨g0, 0, none⟩ : Addr).add j = ⟨g0, j, none⟩ := by unfold Addr.add; split <;> simp_all
    rw [hadd, hk.cell j]
    rw [← hj]
    simp [cells5]) (leads_one hl) (by unfold maxLen; omega) (by omega) hB
  have hkX : KeptX (fun k => some k = v.ownBlock) w w' := KeptX.of_grownBy h3 (fun k e => e.symm)
  have htag : TagX w (fun k => some k = v.ownBlock) := by
    intro k ds t fz hx hh
    obtain ⟨ce, hg⟩ := hown.tag hx
    rw [hg] at hh; injection hh with hh; injection hh with _ hh _
    subst hh
    exact ⟨by decide, by decide⟩
  unfold Oper.wp execOp
  simp only [ho, resolve, invoke, builtin, Sem.run_bind, Sem.run_pure, Result.andThen_ok, List.map_toArray, List.map_cons, List.map_nil, hs, hx, hr]
  refine h v' w' ⟨by rw [flat5_snoc, List.length_append]; exact h2, fun d hd => ?_⟩ h3 h5
  rcases List.mem_append.1 hd with hd | hd
  · exact (hown.leads d hd).keptX hkX htag
  · simp at hd; subst hd; exact hl.keptX hkX htag

/-- 'append(ss, s)' in a list of operations. -/
theorem wpList_append_stmt {w : World} {ops : Array Oper} {rest : List Oper} {o : Oper} {a : Act} {Q : Exit → Act → World → Prop} (hgd : o.guard = none) (s x : Operand)
    (ho : o.op = .call { callee := .builtin .append, args := #[s, x], argTypes := #[56, 56] })
    (B : Nat) (v : Value) (cs : List C5) (hs : a.eval s = v) (hown : Sts w B v cs) (hB : B ≤ w.heap.size) (g0 : Nat) (c : C5) (hx : a.eval x = .slice (some ⟨g0, 0, none⟩) 1 1)
    (hk : Keep w g0 #[.int .i64 c.k, .int .i64 c.n, c.v1, c.v2, c.v3] 106) (hl : Leads w B c) (hlen : cs.length ≤ 1000)
    (h : ∀ v' w', Sts w' B v' (cs ++ [c]) → w.grownBy w' v.ownBlock → (v'.ownBlock = v.ownBlock ∨ v'.ownBlock = some w.heap.size) → wpList Try.prog ops Q rest (a.put o.dst v') w') : wpList Try.prog ops Q (o :: rest) a w := by
  refine wpList_plain hgd fun K hK => ?_
  obtain ⟨i0, hi, hz0, hz1, hz2⟩ := info_parts Try.info106
  obtain ⟨v', w', hr, h2, h3, _, h5⟩ := run_append_own_at (P := Try.prog) w B 56 o.type 106 i0 _ 5 _ Try.underlying56 hi hz0 hz1 hz2 rfl (by decide) v cs.length _ hown.own ⟨g0, 0, none⟩ 1 1 (cells5 c) rfl (by
    intro j u hj
    have hadd : (⟨g0, 0, none⟩ : Addr).add j = ⟨g0, j, none⟩ := by unfold Addr.add; split <;> simp_all
    rw [hadd, hk.cell j]
    rw [← hj]
    simp [cells5]) (leads_one hl) (by unfold maxLen; omega) (by omega) hB
  have hkX : KeptX (fun k => some k = v.ownBlock) w w' := KeptX.of_grownBy h3 (fun k e => e.symm)
  have htag : TagX w (fun k => some k = v.ownBlock) := by
    intro k ds t fz hx hh
    obtain ⟨ce, hg⟩ := hown.tag hx
    rw [hg] at hh; injection hh with hh; injection hh with _ hh _
    subst hh
    exact ⟨by decide, by decide⟩
  unfold Oper.wp execOp
  simp only [ho, resolve, invoke, builtin, Sem.run_bind, Sem.run_pure, Result.andThen_ok, List.map_toArray, List.map_cons, List.map_nil, hs, hx, hr]
  refine hK _ _ (h v' w' ⟨by rw [flat5_snoc, List.length_append]; exact h2, fun d hd => ?_⟩ h3 h5)
  rcases List.mem_append.1 hd with hd | hd
  · exact (hown.leads d hd).keptX hkX htag
  · simp at hd; subst hd; exact hl.keptX hkX htag

/-- A statement is set in a row. -/
theorem Sts.put {w : World} {B g n cap : Nat} {cs : List C5} (h : Sts w B (.slice (some ⟨g, 0, none⟩) n cap) cs) {j : Nat} (hj : j < cs.length) (c : C5) (hl : Leads w B c) :
    Sts (((((w.setCell ⟨g, j * 5, none⟩ (.int .i64 c.k)).setCell ⟨g, j * 5 + 1, none⟩ (.int .i64 c.n)).setCell ⟨g, j * 5 + 2, none⟩ c.v1).setCell ⟨g, j * 5 + 3, none⟩ c.v2).setCell ⟨g, j * 5 + 4, none⟩ c.v3) B (.slice (some ⟨g, 0, none⟩) n cap) (cs.set j c) ∧
      KeptX (fun k => k = g) w (((((w.setCell ⟨g, j * 5, none⟩ (.int .i64 c.k)).setCell ⟨g, j * 5 + 1, none⟩ (.int .i64 c.n)).setCell ⟨g, j * 5 + 2, none⟩ c.v1).setCell ⟨g, j * 5 + 3, none⟩ c.v2).setCell ⟨g, j * 5 + 4, none⟩ c.v3) := by
  have hn : n = cs.length := by rcases h.own.2 with ⟨h0, _⟩ | ⟨g', cap', cur, hv, _⟩; cases h0; injection hv
  have hown := h.own
  rw [hn] at hown ⊢
  have s1 := (World.ownsRow.stored hown (j * 5) (.int .i64 c.k)).1
  have s2 := (World.ownsRow.stored s1 (j * 5 + 1) (.int .i64 c.n)).1
  have s3 := (World.ownsRow.stored s2 (j * 5 + 2) c.v1).1
  have s4 := (World.ownsRow.stored s3 (j * 5 + 3) c.v2).1
  have s5 := (World.ownsRow.stored s4 (j * 5 + 4) c.v3).1
  rw [flat5_set c hj] at s5
  have hkX : KeptX (fun k => k = g) w (((((w.setCell ⟨g, j * 5, none⟩ (.int .i64 c.k)).setCell ⟨g, j * 5 + 1, none⟩ (.int .i64 c.n)).setCell ⟨g, j * 5 + 2, none⟩ c.v1).setCell ⟨g, j * 5 + 3, none⟩ c.v2).setCell ⟨g, j * 5 + 4, none⟩ c.v3) :=
    KeptX.set (KeptX.set (KeptX.set (KeptX.set (KeptX.set (KeptX.refl (fun k => k = g) w) (.inl rfl) _ _) (.inl rfl) _ _) (.inl rfl) _ _) (.inl rfl) _ _) (.inl rfl) _ _
  have htag : TagX w (fun k => k = g) := by
    rintro k ds t fz rfl hh
    obtain ⟨ce, hg⟩ := h.tag (k := k) rfl
    rw [hg] at hh; injection hh with hh; injection hh with _ hh _
    subst hh
    exact ⟨by decide, by decide⟩
  refine ⟨⟨by rw [List.length_set]; exact s5, fun d hd => ?_⟩, hkX⟩
  rcases List.mem_or_eq_of_mem_set hd with hd | rfl
  · exact (h.leads d hd).keptX hkX htag
  · exact hl.keptX hkX htag

theorem pick_list {α β : Type} {R : α → β → Prop} : ∀ (cs : List α), (∀ c ∈ cs, ∃ s, R c s) → ∃ ss : List β, ss.length = cs.length ∧ ∀ (j : Nat) (c : α) (s : β), cs[j]? = some c → ss[j]? = some s → R c s
  | [], _ => ⟨[], rfl, by simp⟩
  | a :: r, h => by
    obtain ⟨s, hs⟩ := h a (by simp)
    obtain ⟨ss, h1, h2⟩ := pick_list r (fun c hc => h c (by simp [hc]))
    refine ⟨s :: ss, by simp [h1], fun j c s' hc hs' => ?_⟩
    cases j with
    | zero => simp at hc hs'; subst hc hs'; exact hs
    | succ j => exact h2 j c s' (by simpa using hc) (by simpa using hs')
/-- What a statement's cells read as. -/
structure Told5 (w : World) (c : C5) (s : St) : Prop where
  k : s.kind = c.k
  n : s.n = c.n
  ex : ∃ A m d, c.v1 = .slice A m d ∧ ReadsT w w.heap.size A m s.ex
  th : ∃ A m d, c.v2 = .slice A m d ∧ Reads w w.heap.size .i64 A m s.th
  el : ∃ A m d, c.v3 = .slice A m d ∧ Reads w w.heap.size .i64 A m s.el
  small : SmallS s
theorem Leads.told {w : World} {B : Nat} {c : C5} (h : Leads w B c) : ∃ s, Told5 w c s := by
  obtain ⟨⟨ts, h1, l1⟩, ⟨xs, h2, l2⟩, ys, h3, l3⟩ := h
  obtain ⟨A1, c1, e1, r1⟩ := h1.reads
  obtain ⟨A2, c2, e2, r2⟩ := h2.reads
  obtain ⟨A3, c3, e3, r3⟩ := h3.reads
  exact ⟨⟨c.k, c.n, ts, xs, ys⟩, rfl, rfl, ⟨_, _, _, e1, r1⟩, ⟨_, _, _, e2, r2⟩, ⟨_, _, _, e3, r3⟩, by show ts.length ≤ _; omega, by show xs.length ≤ _; omega, by show ys.length ≤ _; omega⟩
theorem Sts.reads {w : World} {B : Nat} {v : Value} {cs : List C5} (h : Sts w B v cs) : ∃ A d ss, v = .slice A cs.length d ∧ ReadsS w w.heap.size A cs.length ss ∧ ∀ s ∈ ss, SmallS s := by
  obtain ⟨ss, hl, hs⟩ := pick_list (R := Told5 w) cs (fun c hc => (h.leads c hc).told)
  have hsm : ∀ s ∈ ss, SmallS s := by
    intro s hs'
    obtain ⟨j, hj⟩ := List.getElem?_of_mem hs'
    have hjl := (List.getElem?_eq_some_iff.1 hj).1
    exact (hs j _ s (List.getElem?_eq_getElem (by omega)) hj).small
  rcases h.shape with ⟨rfl, rfl⟩ | ⟨g, d, rfl⟩
  · exact ⟨none, 0, ss, rfl, ⟨by simpa using hl, fun hn => absurd hn (by simp)⟩, hsm⟩
  · refine ⟨_, d, ss, rfl, ⟨hl, fun hn => ⟨g, 0, rfl, (World.ownsRow.lt h.own g rfl).2, fun j s hj => ?_⟩⟩, hsm⟩
    have hjl := (List.getElem?_eq_some_iff.1 hj).1
    obtain ⟨c, hc, q0, q1, q2, q3, q4, _⟩ := h.at_ (j := j) (by omega)
    obtain ⟨t1, t2, ⟨A1, m1, d1, e1, r1⟩, ⟨A2, m2, d2, e2, r2⟩, ⟨A3, m3, d3, e3, r3⟩, _⟩ := hs j c s hc hj
    rw [e1] at q2
    rw [e2] at q3
    rw [e3] at q4
    simp only [Nat.zero_add]
    exact ⟨A1, m1, d1, A2, m2, d2, A3, m3, d3, by rw [t1]; exact q0, by rw [t2]; exact q1, q2, q3, q4, r1, r2, r3⟩

end Go.Proofs.Ytfdijeeilfhjeaa
namespace Go.Proofs.Ytfdijeeilfhjeaa
open Go.RowKit Exs

def stp : Nat → Nat
  | 0 => 300
  | d + 1 => 320 + 6 * stp d
/-- How far the cursor moves at most. -/
def cost (d : Nat) : Nat := 10 + 3 * stp d
theorem stp_le {d : Nat} (h : d ≤ 2) : 300 ≤ stp d ∧ stp d ≤ 13040 := by
  rcases d with _ | _ | _ | d
  all_goals (simp only [stp]; omega)

def Fix.at (F : Fix) (W : World) (sv : Value) (cs : List C5) : Fix := { F with w0 := W, sv0 := sv, R := fun k => ∃ x ∈ cs, IntRow x k }
section
variable {F : Fix} {W W' : World} {T T' : Nat} {sv sv' : Value} {cs cs' : List C5} {bv v : Value} {bs xs : List Int} {gs : Nat} {x : C5}
theorem Out.fresh (h : Out F W T sv cs bv bs) : Out (F.at W sv cs) W T sv cs (.slice none 0 0) [] :=
  ⟨h.cur, h.box, h.sts, h.pars, Nums.nil _ _ _ _, KeptX.refl _ _, .inl rfl, fun x hx k hk _ => ⟨x, hx, hk⟩, fun _ _ k hk => by simp [Value.ownBlock] at hk⟩
theorem Out.okAt (h : Out F W T sv cs bv bs) (ok : F.Ok) : (F.at W sv cs).Ok :=
  ⟨ok.hf, ok.hp, ok.hpf, Nat.le_trans ok.hB h.kept.size, ok.hgB, ok.hfB, h.cur.lt, h.pars.row.lt, h.box.lt, fun k hk => ⟨(World.ownsRow.lt h.sts.own k hk).2, (h.rowNe hk).1, (h.rowNe hk).2⟩⟩
theorem Out.back (h : Out F W T sv cs bv bs) (ok : F.Ok) (h' : Out (F.at W sv cs) W' T' sv' cs' v xs) : Out F W' T' sv' cs' bv bs ∧ Nums W' F.B 3 .i64 v xs := by
  have hk : KeptX (Out.Y F sv) W W' := h'.kept
  refine ⟨⟨h'.cur, h'.box, h'.sts, h'.pars, h.blk.keptX hk h.tags, h.kept.trans' hk ?_, ?_, ?_, ?_⟩, h'.blk.more (Nat.le_trans ok.hB h.kept.size)⟩
  · rintro i hi (e | e | e)
    · exact .inl e
    · exact .inr (.inl e)
    · rcases h.row with hr | hr
      · rw [hr] at e; exact .inr (.inr e)
      · have := hr i e.symm; omega
  · rcases h'.row with hr | hr
    · have hr' : sv'.ownBlock = sv.ownBlock := hr
      rw [hr']; exact h.row
    · exact .inr fun k hk => Nat.le_trans h.kept.size (hr k hk)
  · intro x hx k hk' hlt
    obtain ⟨x', hx', hr'⟩ := h'.news x hx k hk' (Nat.lt_of_lt_of_le hlt h.kept.size)
    exact h.news x' hx' k hr' hlt
  · intro x hx k hk' hr
    have hlt : k < W.heap.size := (World.ownsRow.lt h.blk k hk').2
    obtain ⟨x', hx', hr'⟩ := h'.news x hx k hr hlt
    exact h.apart x' hx' k hk' hr'
theorem Mid.back (h : Mid F W T sv cs bv bs gs x) (ok : F.Ok) (h' : Out (F.at W sv cs) W' T' sv' cs' v xs) : Mid F W' T' sv' cs' bv bs gs x ∧ Nums W' F.B 3 .i64 v xs := by
  have hk : KeptX (Out.Y F sv) W W' := h'.kept
  obtain ⟨h1, h2⟩ := h.out.back ok h'
  refine ⟨⟨h1, hk.keep h.s ?_, h.leads.keptX hk h.out.tags, ?_, h.new, h.xnews, h.xapart⟩, h2⟩
  · rintro (e | e | e)
    · have := ok.hgc; have := h.new; omega
    · have := ok.hgf; have := h.new; omega
    · exact h.ne e.symm
  · intro e
    rcases h'.row with hr | hr
    · have hr' : sv'.ownBlock = sv.ownBlock := hr
      rw [hr'] at e; exact h.ne e
    · have h1 : W.heap.size ≤ gs := hr gs e
      have h2 := h.s.lt
      omega
/-- Behind the append of the statement. -/
theorem Mid.appended {w' : World} (h : Mid F W T sv cs bv bs gs x) (ok : F.Ok) (hs : Sts w' F.B sv' (cs ++ [x])) (hg : (W.alloc (.cells #[.int .i64 x.k, .int .i64 x.n, x.v1, x.v2, x.v3] 106)).grownBy w' sv.ownBlock) (hat : sv'.ownBlock = sv.ownBlock ∨ sv'.ownBlock = some (W.heap.size + 1)) :
    Mid F (w'.setCell ⟨F.gf, 3, none⟩ sv') T sv' (cs ++ [x]) bv bs gs x := by
  have hm := h.alloc (.cells #[.int .i64 x.k, .int .i64 x.n, x.v1, x.v2, x.v3] 106)
  have hk : KeptX (Out.Y F sv) _ w' := KeptX.of_grownBy hg (fun k e => .inr (.inr e.symm))
  have hkr : KeptX (fun k => some k = sv.ownBlock) _ w' := KeptX.of_grownBy hg (fun k e => e.symm)
  have hbox' : Keep w' F.gf #[.int .i64 F.pr, .int .i64 F.vs, .slice none 0 0, sv] 58 := hkr.keep hm.out.box (fun e => (hm.out.rowNe e.symm).2 rfl)
  have hkS : KeptX (Out.Y F sv) _ (w'.setCell ⟨F.gf, 3, none⟩ sv') := hk.set (.inl (.inr (.inl rfl))) 3 sv'
  have hkF : KeptX (fun k => k = F.gf) w' (w'.setCell ⟨F.gf, 3, none⟩ sv') := KeptX.set (KeptX.refl (fun k => k = F.gf) w') (.inl rfl) 3 sv'
  have htF : TagX w' (fun k => k = F.gf) := by
    rintro k ds t fz rfl hh
    unfold Keep at hbox'
    rw [hbox'] at hh; injection hh with hh; injection hh with _ hh _
    subst hh
    exact ⟨by decide, by decide⟩
  have hrow : ∀ k, sv'.ownBlock = some k → k ≠ F.gf := by
    intro k hk' e
    subst e
    obtain ⟨ce, hh⟩ := hs.tag hk'.symm
    unfold Keep at hbox'
    rw [hbox'] at hh; injection hh with hh; injection hh with _ hh _; exact absurd hh (by decide)
  have hgsl := h.s.lt
  have hlow : ∀ k, k ≤ F.gc → ¬ (k = F.gf ∨ some k = sv.ownBlock) := by
    rintro k hk' (e | e)
    · have := ok.hgB; have := ok.hfB; omega
    · have := (World.ownsRow.lt hm.out.sts.own k e.symm).1; have := ok.hgB; omega
  have hkZ : KeptX (fun k => k = F.gf ∨ some k = sv.ownBlock) _ (w'.setCell ⟨F.gf, 3, none⟩ sv') := (KeptX.of_grownBy hg (fun k e => .inr e.symm) : KeptX (fun k => k = F.gf ∨ some k = sv.ownBlock) _ w').set (.inl (.inl rfl)) 3 sv'
  have hcur : Cur (w'.setCell ⟨F.gf, 3, none⟩ sv') F.gc F.A F.n F.c T := hm.out.cur.keptX hkZ hlow
  have hts := hm.out.tags
  refine ⟨⟨hcur, ?_, hs.keptX hkF htF hrow, hm.out.pars.keptX hkS (hm.out.pNot ok), hm.out.blk.keptX hkS hts, hm.out.kept.trans' hkS ?_, ?_, ?_, ?_⟩, ?_, hm.leads.keptX hkS hts, ?_, h.new, h.xnews, h.xapart⟩
  · exact hbox'.set 3 sv'
  · rintro i hi (e | e | e)
    · exact .inl e
    · exact .inr (.inl e)
    · rcases h.out.row with hr | hr
      · rw [hr] at e; exact .inr (.inr e)
      · have := hr i e.symm; omega
  · rcases hat with e | e
    · rw [e]; exact h.out.row
    · refine .inr fun k hk' => ?_
      rw [e] at hk'
      injection hk' with hk'
      have := h.out.kept.size
      omega
  · intro z hz k hk' hlt
    rcases List.mem_append.1 hz with hz | hz
    · exact h.out.news z hz k hk' hlt
    · simp at hz; subst hz; exact h.xnews k hk' hlt
  · intro z hz k hk'
    rcases List.mem_append.1 hz with hz | hz
    · exact h.out.apart z hz k hk'
    · simp at hz; subst hz; exact h.xapart k hk'
  · refine hkS.keep hm.s ?_
    rintro (e | e | e)
    · have := ok.hgc; have := h.new; omega
    · have := ok.hgf; have := h.new; omega
    · exact h.ne e.symm
  · intro e'
    rcases hat with e | e
    · rw [e] at e'; exact h.ne e'
    · rw [e] at e'; injection e' with e'; omega
end

end Go.Proofs.Ytfdijeeilfhjeaa
namespace Go.Proofs.Ytfdijeeilfhjeaa
open Go.RowKit Exs

/-- What a call that draws statements gives. -/
def GivesS (F : Fix) (T : Nat) (len : Nat) (e : Ending) (w' : World) : Prop :=
  ∃ (v : Value) (xs : List Int) (sv' : Value) (cs' : List C5), e = .returned v ∧ Out F w' T sv' cs' v xs ∧ xs.length ≤ 3 ∧ len ≤ cs'.length ∧ cs'.length ≤ 12 ∧ (len = 0 → 1 ≤ xs.length)

theorem leads_new (W : World) (B : Nat) (k n : Int) : Leads W B ⟨k, n, .slice none 0 0, .slice none 0 0, .slice none 0 0⟩ :=
  ⟨⟨[], Toks.nil _ _, by simp⟩, ⟨[], Nums.nil _ _ _ _, by simp⟩, [], Nums.nil _ _ _ _, by simp⟩
theorem Out.open {F : Fix} {W : World} {T : Nat} {sv : Value} {cs : List C5} {bv : Value} {xs : List Int} (h : Out F W T sv cs bv xs) (hs : F.w0.heap.size ≤ W.heap.size) (k : Int) :
    Mid F (W.alloc (.cells #[.int .i64 k, .int .i64 0, .slice none 0 0, .slice none 0 0, .slice none 0 0] 106)) T sv cs bv xs W.heap.size ⟨k, 0, .slice none 0 0, .slice none 0 0, .slice none 0 0⟩ :=
  ⟨h.alloc _, Keep.new _ _ _, leads_new _ _ _ _, fun e => by have := (World.ownsRow.lt h.sts.own _ e).2; omega, hs, fun k hk => by simp [IntRow, Value.ownBlock] at hk, fun k _ hk => by simp [IntRow, Value.ownBlock] at hk⟩

theorem noInt (a b : Int) (v : Value) (k : Nat) : ¬ IntRow ⟨a, b, v, .slice none 0 0, .slice none 0 0⟩ k := by simp [IntRow, Value.ownBlock]

theorem Nums.cur {W W' : World} {B : Nat} {v : Value} {xs : List Int} {g : Nat} {A : Option Addr} {n c T : Nat} (h : Nums W B 3 .i64 v xs) (hc : Cur W g A n c T) (hg : W.grownBy W' (some g)) : Nums W' B 3 .i64 v xs := by
  refine h.keptX (X := fun k => k = g) (KeptX.of_grownBy hg (fun k e => by injection e with e; exact e.symm)) ?_
  rintro k ds t fz rfl hh
  obtain ⟨_, _, _, hg', _⟩ := hc
  rw [hg'] at hh; injection hh with hh; injection hh with _ hh _
  subst hh
  exact ⟨by decide, by decide⟩
theorem Nums.put70 {W : World} {B : Nat} {v : Value} {xs : List Int} {g : Nat} {cs : Array Value} (h : Nums W B 3 .i64 v xs) (hk : Keep W g cs 106) (i : Nat) (u : Value) : Nums (W.setCell ⟨g, i, none⟩ u) B 3 .i64 v xs := by
  refine h.keptX (X := fun k => k = g) (KeptX.set (KeptX.refl (fun k => k = g) W) (.inl rfl) i u) ?_
  rintro k ds t fz rfl hh
  unfold Keep at hk
  rw [hk] at hh; injection hh with hh; injection hh with _ hh _
  subst hh
  exact ⟨by decide, by decide⟩
theorem far_two {d : Nat} (h : d ≤ 2) : far d ≤ 190 ∧ most d ≤ 100 := by
  rcases d with _ | _ | _ | d
  all_goals (simp only [far, most]; omega)

set_option maxHeartbeats 400000 in
theorem pick_free (g : Nat) (A : Option Addr) (n c T : Nat) (m : Int) (w : World) (hc : Cur w g A n c T) (hT : T ≤ 900000) (h2 : m ≤ 65536) :
    Calls Try.prog 69 #[.pointer (some ⟨g, 0, none⟩), .int .i64 m] w (Gives .i64 0 65535 g A n c (T + 2) w) := by
  by_cases hm : m ≤ 1
  · go_enter Try.func69, Try.ntmps69
    go_wp2
    go_ret
    exact ⟨0, by omega, by omega, rfl, hc.more (by omega), World.grownBy.refl _ _⟩
  · exact (pick_any g A n c T m w hc hT (by omega) h2).mono fun e w' ⟨x, h0, h1, h3, h4, h5⟩ => ⟨x, h0, by omega, h3, h4, h5⟩
/-- One more number in the block. -/
theorem Mid.pushed {F : Fix} {W w' : World} {T : Nat} {sv : Value} {cs : List C5} {bv bv' : Value} {xs ys : List Int} {gs : Nat} {x : C5} (h : Mid F W T sv cs bv xs gs x) (ok : F.Ok) (hn : Nums w' F.w0.heap.size 3 .i64 bv' ys) (hg : W.grownBy w' bv.ownBlock) (hat : bv'.ownBlock = bv.ownBlock ∨ ∀ k, bv'.ownBlock = some k → W.heap.size ≤ k) : Mid F w' T sv cs bv' ys gs x := by
  have hk : KeptX (fun k => some k = bv.ownBlock) W w' := KeptX.of_grownBy hg (fun k e => e.symm)
  have htag : ∀ k, some k = bv.ownBlock → ∃ ce, W.heap[k]? = some (.cells ce 3 (0, 0)) := by
    intro k e
    rcases h.out.blk.2 with ⟨rfl, _⟩ | ⟨g, cap, cur, rfl, _, hh, _⟩
    · simp [Value.ownBlock] at e
    · simp [Value.ownBlock] at e; subst e; exact ⟨_, hh⟩
  refine ⟨h.out.pushed ok hn hg hat, hk.keep h.s ?_, ?_, h.ne, h.new, h.xnews, ?_⟩
  · intro e
    obtain ⟨ce, hh⟩ := htag _ e
    have hs := h.s
    unfold Keep at hs
    rw [hs] at hh; injection hh with hh; injection hh with _ hh _; exact absurd hh (by decide)
  · obtain ⟨⟨ts, h1, l1⟩, ⟨zs, h2, l2⟩, ws, h3, l3⟩ := h.leads
    refine ⟨⟨ts, hk.row h1 ?_, l1⟩, ⟨zs, hk.row h2 (fun k e1 e2 => h.xapart k e2.symm (.inl e1)), l2⟩, ws, hk.row h3 (fun k e1 e2 => h.xapart k e2.symm (.inr e1)), l3⟩
    intro k e1 e2
    obtain ⟨c2, e3⟩ := htag k e2
    rcases h1.2 with ⟨e, _⟩ | ⟨g, cap, cur, e, _, hh, _⟩
    · rw [e] at e1; simp [Value.ownBlock] at e1
    · rw [e] at e1; simp [Value.ownBlock] at e1; subst e1
      rw [e3] at hh; injection hh with hh; injection hh with _ hh _; exact absurd hh (by decide)
  · intro k hk' hr
    rcases hat with e | e
    · rw [e] at hk'; exact h.xapart k hk' hr
    · have h1 := e k hk'
      obtain ⟨_, ⟨zs, h2, _⟩, ws, h3, _⟩ := h.leads
      rcases hr with hr | hr
      · have := (World.ownsRow.lt h2 k hr).2; omega
      · have := (World.ownsRow.lt h3 k hr).2; omega

/-- The statement is put into the row. -/
theorem Mid.putRow {F : Fix} {W : World} {T : Nat} {g n cap : Nat} {cs : List C5} {bv : Value} {xs : List Int} {gs : Nat} {x : C5} (h : Mid F W T (.slice (some ⟨g, 0, none⟩) n cap) cs bv xs gs x) (ok : F.Ok) {j : Nat} (hj : j < cs.length) :
    Out F (((((W.setCell ⟨g, j * 5, none⟩ (.int .i64 x.k)).setCell ⟨g, j * 5 + 1, none⟩ (.int .i64 x.n)).setCell ⟨g, j * 5 + 2, none⟩ x.v1).setCell ⟨g, j * 5 + 3, none⟩ x.v2).setCell ⟨g, j * 5 + 4, none⟩ x.v3) T (.slice (some ⟨g, 0, none⟩) n cap) (cs.set j x) bv xs := by
  obtain ⟨hs, hk⟩ := h.out.sts.put hj x h.leads
  have hne := h.out.rowNe (k := g) rfl
  have htag : TagX W (fun k => k = g) := fun k ds t fz e hh => h.out.tags k ds t fz (.inr (.inr (by rw [e]; rfl))) hh
  have hlow : ∀ k, k ≤ F.gc → ¬ k = g := fun k hk' e => by have := (World.ownsRow.lt h.out.sts.own g rfl).1; have := ok.hgB; omega
  refine ⟨h.out.cur.keptX hk hlow, hk.keep h.out.box (fun e => hne.2 e.symm), hs, h.out.pars.keptX hk (fun e => h.out.pNot ok (.inr (.inr (by rw [e]; rfl)))), h.out.blk.keptX hk htag, h.out.kept.trans' hk ?_, h.out.row, ?_, ?_⟩
  · rintro i hi rfl
    rcases h.out.row with hr | hr
    · exact .inr (.inr (by rw [← hr]; rfl))
    · have := hr i rfl; omega
  · intro z hz k hk' hlt
    rcases List.mem_or_eq_of_mem_set hz with hz | rfl
    · exact h.out.news z hz k hk' hlt
    · exact h.xnews k hk' hlt
  · intro z hz k hk'
    rcases List.mem_or_eq_of_mem_set hz with hz | rfl
    · exact h.out.apart z hz k hk'
    · exact h.xapart k hk'

end Go.Proofs.Ytfdijeeilfhjeaa
namespace Go.Proofs.Ytfdijeeilfhjeaa
open Go.RowKit Exs

/-- A function's four cells. -/
structure C4 where
  p : Int
  v : Int
  b : Value
  s : Value
def cells4 (c : C4) : List Value := [.int .i64 c.p, .int .i64 c.v, c.b, c.s]
def flat4 (cs : List C4) : List Value := cs.flatMap cells4
theorem flat4_length : ∀ cs : List C4, (flat4 cs).length = cs.length * 4
  | [] => rfl
  | c :: r => by have := flat4_length r; simp only [flat4, List.flatMap_cons, List.length_append, List.length_cons] at *; simp only [cells4, List.length_cons, List.length_nil]; omega
theorem flat4_snoc (cs : List C4) (c : C4) : flat4 (cs ++ [c]) = flat4 cs ++ cells4 c := by simp [flat4]
theorem flat4_at : ∀ {cs : List C4} {j : Nat} {c : C4}, cs[j]? = some c → ∀ i, i < 4 → (flat4 cs)[j * 4 + i]? = (cells4 c)[i]?
  | [], j, c, h, i, hi => by simp at h
  | d :: r, 0, c, h, i, hi => by
    simp at h
    subst h
    rw [Nat.zero_mul, Nat.zero_add]
    simp only [flat4, List.flatMap_cons]
    rw [List.getElem?_append_left (by simp [cells4]; omega)]
  | d :: r, j + 1, c, h, i, hi => by
    have ih := flat4_at (cs := r) (j := j) (c := c) (by simpa using h) i hi
    simp only [flat4, List.flatMap_cons]
    rw [List.getElem?_append_right (by simp [cells4]; omega)]
    rw [show (j + 1) * 4 + i - (cells4 d).length = j * 4 + i by simp [cells4]; omega]
    exact ih
theorem flat4_set : ∀ {cs : List C4} {j : Nat} (c : C4) (i : Nat) (u : Value), j < cs.length → i < 4 → cs[j]? = some c → ∀ c' : C4, (cells4 c).set i u = cells4 c' → (flat4 cs).set (j * 4 + i) u = flat4 (cs.set j c')
  | [], j, c, i, u, h, hi, hc, c', e => by simp at h
  | d :: r, 0, c, i, u, h, hi, hc, c', e => by
    simp at hc
    subst hc
    simp only [flat4, List.flatMap_cons, List.set_cons_zero, Nat.zero_mul, Nat.zero_add]
    rw [List.set_append_left _ _ (by simp [cells4]; omega), e]
  | d :: r, j + 1, c, i, u, h, hi, hc, c', e => by
    have ih := flat4_set (cs := r) (j := j) c i u (by simpa using h) hi (by simpa using hc) c' e
    have hl : (cells4 d).length = 4 := rfl
    rw [List.set_cons_succ]
    simp only [flat4, List.flatMap_cons] at ih ⊢
    rw [← ih, show (j + 1) * 4 + i = (cells4 d).length + (j * 4 + i) by rw [hl]; omega]
    rw [List.set_append_right _ _ (by omega), Nat.add_sub_cancel_left]

/-- What a function's slices are. lo: how many statements its body has at least. -/
def LeadsF (w : World) (B lo : Nat) (c : C4) : Prop := (∃ xs, Nums w B 3 .i64 c.b xs ∧ lo ≤ xs.length ∧ xs.length ≤ 100) ∧ ∃ cs, Sts w B c.s cs ∧ cs.length ≤ 100
theorem LeadsF.keptX {w w' : World} {X : Nat → Prop} {B lo : Nat} {c : C4} (h : LeadsF w B lo c) (hk : KeptX X w w') (ht : TagX w X) (hx : ∀ k cs t fz, X k → w.heap[k]? = some (.cells cs t fz) → t ≠ 106) : LeadsF w' B lo c := by
  obtain ⟨⟨xs, h1, l0, l1⟩, cs, h2, l2⟩ := h
  refine ⟨⟨xs, h1.keptX hk ht, l0, l1⟩, cs, h2.keptX hk ht (fun g hg hX => ?_), l2⟩
  obtain ⟨ce, hh⟩ := h2.tag hg.symm
  exact hx g _ _ _ hX hh rfl
/-- A row of functions of the call's own. -/
structure Fns (w : World) (B lo : Nat) (v : Value) (cs : List C4) : Prop where
  own : w.ownsRow B 58 4 v cs.length (flat4 cs)
  leads : ∀ c ∈ cs, LeadsF w B lo c
theorem Fns.nil (w : World) (B lo : Nat) : Fns w B lo (.slice none 0 0) [] := ⟨World.ownsRow_nil _ _ _ _, by simp⟩
theorem Fns.tag {w : World} {B lo : Nat} {v : Value} {cs : List C4} (h : Fns w B lo v cs) {k : Nat} (hk : some k = v.ownBlock) : ∃ cells, w.heap[k]? = some (.cells cells 58 (0, 0)) := by
  rcases h.own.2 with ⟨rfl, _⟩ | ⟨g, cap, cur, rfl, _, hh, _⟩
  · simp [Value.ownBlock] at hk
  · simp [Value.ownBlock] at hk
    subst hk
    exact ⟨_, hh⟩
theorem Fns.keptX {w w' : World} {X : Nat → Prop} {B lo : Nat} {v : Value} {cs : List C4} (h : Fns w B lo v cs) (hk : KeptX X w w') (ht : TagX w X) (hx : ∀ k cs t fz, X k → w.heap[k]? = some (.cells cs t fz) → t ≠ 106) (hr : ∀ g, v.ownBlock = some g → ¬ X g) : Fns w' B lo v cs :=
  ⟨hk.row h.own hr, fun c hc => (h.leads c hc).keptX hk ht hx⟩
theorem Fns.below {w w' : World} {B lo : Nat} {v : Value} {cs : List C4} (h : Fns w B lo v cs) (hb : Below w.heap.size w w') : Fns w' B lo v cs :=
  h.keptX (X := fun _ => False) ⟨hb.os, hb.tape, hb.output, hb.size, fun k hk _ => hb.block k hk⟩ (fun _ _ _ _ hx => hx.elim) (fun _ _ _ _ hx => hx.elim) (fun _ _ x => x)
theorem Fns.shape {w : World} {B lo : Nat} {v : Value} {cs : List C4} (h : Fns w B lo v cs) : (v = .slice none 0 0 ∧ cs = []) ∨ ∃ g c, v = .slice (some ⟨g, 0, none⟩) cs.length c := by
  rcases h.own.2 with ⟨rfl, h0⟩ | ⟨g, cap, cur, rfl, _⟩
  · exact .inl ⟨rfl, List.eq_nil_of_length_eq_zero h0⟩
  · exact .inr ⟨_, _, rfl⟩
theorem Fns.at_ {w : World} {B lo : Nat} {g n cap : Nat} {cs : List C4} (h : Fns w B lo (.slice (some ⟨g, 0, none⟩) n cap) cs) {j : Nat} (hj : j < cs.length) :
    ∃ c, cs[j]? = some c ∧ w.cell? ⟨g, j * 4, none⟩ = some (.int .i64 c.p) ∧ w.cell? ⟨g, j * 4 + 1, none⟩ = some (.int .i64 c.v) ∧ w.cell? ⟨g, j * 4 + 2, none⟩ = some c.b ∧ w.cell? ⟨g, j * 4 + 3, none⟩ = some c.s ∧ (∀ i, w.frozen? ⟨g, i, none⟩ = false) := by
  obtain ⟨c, hc⟩ : ∃ c, cs[j]? = some c := ⟨_, List.getElem?_eq_getElem hj⟩
  have hown := h.own
  have hn : n = cs.length := by rcases hown.2 with ⟨h0, _⟩ | ⟨g', cap', cur, hv, _⟩; cases h0; injection hv
  rw [hn] at hown
  have hcell := fun i (hi : i < 4) => (World.ownsRow.cellAt hown (j * 4 + i) (by omega)).trans (flat4_at hc i hi)
  exact ⟨c, hc, hcell 0 (by omega), hcell 1 (by omega), hcell 2 (by omega), hcell 3 (by omega), fun i => World.ownsRow.frozenAt hown i⟩
theorem LeadsF.one {w : World} {B lo : Nat} {c : C4} (h : LeadsF w B lo c) : ∀ u ∈ cells4 c, u.oneCell' = true := by
  obtain ⟨⟨_, h1, _⟩, _, h2, _⟩ := h
  intro u hu
  simp [cells4] at hu
  rcases hu with rfl | rfl | rfl | rfl
  · rfl
  · rfl
  · exact nums_one h1
  · rcases h2.own.2 with ⟨e, _⟩ | ⟨_, _, _, e, _⟩ <;> rw [e] <;> rfl

set_option maxRecDepth 100000 in
/-- 'append(fs, f)' in a list of operations. -/
theorem wpList_append_func {w : World} {ops : Array Oper} {rest : List Oper} {o : Oper} {a : Act} {Q : Exit → Act → World → Prop} (hgd : o.guard = none) (s x : Operand)
    (ho : o.op = .call { callee := .builtin .append, args := #[s, x], argTypes := #[42, 42] })
    (B lo : Nat) (v : Value) (cs : List C4) (hs : a.eval s = v) (hown : Fns w B lo v cs) (hB : B ≤ w.heap.size) (g0 : Nat) (c : C4) (hx : a.eval x = .slice (some ⟨g0, 0, none⟩) 1 1)
    (hk : Keep w g0 #[.int .i64 c.p, .int .i64 c.v, c.b, c.s] 58) (hl : LeadsF w B lo c) (hlen : cs.length ≤ 1000)
    (h : ∀ v' w', Fns w' B lo v' (cs ++ [c]) → w.grownBy w' v.ownBlock → (v'.ownBlock = v.ownBlock ∨ v'.ownBlock = some w.heap.size) → wpList Try.prog ops Q rest (a.put o.dst v') w') : wpList Try.prog ops Q (o :: rest) a w := by
  refine wpList_plain hgd fun K hK => ?_
  obtain ⟨i0, hi, hz0, hz1, hz2⟩ := info_parts Try.info58
  obtain ⟨v', w', hr, h2, h3, _, h5⟩ := run_append_own_at (P := Try.prog) w B 42 o.type 58 i0 _ 4 _ Try.underlying42 hi hz0 hz1 hz2 rfl (by decide) v cs.length _ hown.own ⟨g0, 0, none⟩ 1 1 (cells4 c) rfl (by
    intro j u hj
    have hadd : (⟨g0, 0, none⟩ : Addr).add j = ⟨g0, j, none⟩ := by unfold Addr.add; split <;> simp_all
    rw [hadd, hk.cell j]
    rw [← hj]
    simp [cells4]) (LeadsF.one hl) (by unfold maxLen; omega) (by omega) hB
  have hkX : KeptX (fun k => some k = v.ownBlock) w w' := KeptX.of_grownBy h3 (fun k e => e.symm)
  have htag : ∀ k ds t fz, some k = v.ownBlock → w.heap[k]? = some (.cells ds t fz) → t = 58 := by
    intro k ds t fz hx hh
    obtain ⟨ce, hg⟩ := hown.tag hx
    rw [hg] at hh; injection hh with hh; injection hh with _ hh _
    exact hh.symm
  have ht1 : TagX w (fun k => some k = v.ownBlock) := fun k ds t fz hx hh => by rw [htag k ds t fz hx hh]; exact ⟨by decide, by decide⟩
  have ht2 : ∀ k ds t fz, some k = v.ownBlock → w.heap[k]? = some (.cells ds t fz) → t ≠ 106 := fun k ds t fz hx hh => by rw [htag k ds t fz hx hh]; decide
  unfold Oper.wp execOp
  simp only [ho, resolve, invoke, builtin, Sem.run_bind, Sem.run_pure, Result.andThen_ok, List.map_toArray, List.map_cons, List.map_nil, hs, hx, hr]
  refine hK _ _ (h v' w' ⟨by rw [flat4_snoc, List.length_append]; exact h2, fun d hd => ?_⟩ h3 h5)
  rcases List.mem_append.1 hd with hd | hd
  · exact (hown.leads d hd).keptX hkX ht1 ht2
  · simp at hd; subst hd; exact hl.keptX hkX ht1 ht2

/-- A row of functions, read. -/
theorem Fns.reads {w : World} {B lo : Nat} {v : Value} {cs : List C4} (h : Fns w B lo v cs) : ∃ A d fs, v = .slice A cs.length d ∧ ReadsF w w.heap.size A cs.length fs ∧ ∀ f ∈ fs, SmallF f := by
  have htold : ∀ c ∈ cs, ∃ f : Fc, f.params = c.p ∧ f.vars = c.v ∧ (∃ A m d, c.b = .slice A m d ∧ Reads w w.heap.size .i64 A m f.body) ∧ (∃ A m d, c.s = .slice A m d ∧ ReadsS w w.heap.size A m f.stmts) ∧ SmallF f := by
    intro c hc
    obtain ⟨⟨xs, h1, _, l1⟩, es, h2, l2⟩ := h.leads c hc
    obtain ⟨A1, d1, e1, r1⟩ := h1.reads
    obtain ⟨A2, d2, ss, e2, r2, hsm⟩ := h2.reads
    have hl2 := r2.1
    exact ⟨⟨c.p, c.v, xs, ss⟩, rfl, rfl, ⟨_, _, _, e1, r1⟩, ⟨_, _, _, e2, r2⟩, by show xs.length ≤ _; omega, by show ss.length ≤ _; omega, hsm⟩
  obtain ⟨fs, hl, hs⟩ := pick_list cs htold
  have hsm : ∀ f ∈ fs, SmallF f := by
    intro f hf
    obtain ⟨j, hj⟩ := List.getElem?_of_mem hf
    have hjl := (List.getElem?_eq_some_iff.1 hj).1
    exact (hs j _ f (List.getElem?_eq_getElem (by omega)) hj).2.2.2.2
  rcases h.shape with ⟨rfl, rfl⟩ | ⟨g, d, rfl⟩
  · exact ⟨none, 0, fs, rfl, ⟨by simpa using hl, fun hn => absurd hn (by simp)⟩, hsm⟩
  · refine ⟨_, d, fs, rfl, ⟨hl, fun hn => ⟨g, 0, rfl, (World.ownsRow.lt h.own g rfl).2, fun j f hj => ?_⟩⟩, hsm⟩
    have hjl := (List.getElem?_eq_some_iff.1 hj).1
    obtain ⟨c, hc, q0, q1, q2, q3, _⟩ := h.at_ (j := j) (by omega)
    obtain ⟨t1, t2, ⟨A1, m1, d1, e1, r1⟩, ⟨A2, m2, d2, e2, r2⟩, _⟩ := hs j c f hc hj
    rw [e1] at q2
    rw [e2] at q3
    simp only [Nat.zero_add]
    exact ⟨A1, m1, d1, A2, m2, d2, by rw [t1]; exact q0, by rw [t2]; exact q1, q2, q3, r1, r2⟩

end Go.Proofs.Ytfdijeeilfhjeaa
namespace Go.Proofs.Ytfdijeeilfhjeaa
open Go.RowKit Exs

set_option maxHeartbeats 400000 in
theorem l1Least_any (a b : Int) (w : World) : Calls Try.prog 126 #[.int .i64 a, .int .i64 b] w fun e w' => e = .returned (.int .i64 (min a b)) ∧ w = w' := by
  by_cases h : a < b
  · have hm := put (show min a b = a by omega)
    go_enter Try.func126, Try.ntmps126
    go_wp2
    go_ret
    exact ⟨ret_int hm.out.symm, rfl⟩
  · have hm := put (show min a b = b by omega)
    go_enter Try.func126, Try.ntmps126
    go_wp2
    go_ret
    exact ⟨ret_int hm.out.symm, rfl⟩

/-- What a call that draws a program gives. -/
def GivesP (g : Nat) (A : Option Addr) (n c T : Nat) (w : World) (e : Ending) (w' : World) : Prop :=
  ∃ (v : Value) (fs : List C4), e = .returned (.agg #[v]) ∧ Fns w' w.heap.size 1 v fs ∧ 1 ≤ fs.length ∧ fs.length ≤ 5 ∧ Cur w' g A n c T ∧ w.grownBy w' (some g)

/-- While a program is drawn. -/
structure PSt (w : World) (gc : Nat) (A : Option Addr) (n c T : Nat) (gp p np cp : Nat) (ps : List Int) (wr : World) (fv : Value) (fs : List C4) : Prop where
  cur : Cur wr gc A n c T
  res : Keep wr w.heap.size #[.slice none 0 0] 44
  box : Keep wr gp #[fv] 44
  fns : Fns wr w.heap.size 1 fv fs
  pars : Pars wr p np cp ps
  kept : KeptX (fun k => k = gc) w wr
  ngp : w.heap.size < gp
  ngp2 : w.heap.size < p
section
variable {w : World} {gc : Nat} {A : Option Addr} {n c T T' gp p np cp : Nat} {ps : List Int} {wr w' : World} {fv : Value} {fs : List C4}
theorem PSt.cursor (h : PSt w gc A n c T gp p np cp ps wr fv fs) (hgc : gc < w.heap.size) (hg : wr.grownBy w' (some gc)) (hc : Cur w' gc A n c T') : PSt w gc A n c T' gp p np cp ps w' fv fs := by
  have hk : KeptX (fun k => k = gc) wr w' := KeptX.of_grownBy hg (fun k e => by injection e with e; exact e.symm)
  have htag : ∀ k ds t fz, k = gc → wr.heap[k]? = some (.cells ds t fz) → t = 100 := by
    rintro k ds t fz rfl hh
    obtain ⟨_, _, _, hg', _⟩ := h.cur
    rw [hg'] at hh; injection hh with hh; injection hh with _ hh _
    exact hh.symm
  have ht1 : TagX wr (fun k => k = gc) := fun k ds t fz hx hh => by rw [htag k ds t fz hx hh]; exact ⟨by decide, by decide⟩
  have h1 := h.ngp
  have h2 := h.ngp2
  exact ⟨hc, hk.keep h.res (by omega), hk.keep h.box (by omega), h.fns.keptX hk ht1 (fun k ds t fz hx hh => by rw [htag k ds t fz hx hh]; decide) (fun g hg' e => by have := (World.ownsRow.lt h.fns.own g hg').1; omega), h.pars.keptX hk (by omega), h.kept.trans hk, h1, h2⟩
theorem PSt.below (h : PSt w gc A n c T gp p np cp ps wr fv fs) (hb : Below wr.heap.size wr w') : PSt w gc A n c T gp p np cp ps w' fv fs := by
  have hk : KeptX (fun _ => False) wr w' := ⟨hb.os, hb.tape, hb.output, hb.size, fun k hk _ => hb.block k hk⟩
  exact ⟨h.cur.below hb h.cur.lt, h.res.below hb, h.box.below hb, h.fns.below hb, h.pars.keptX hk (fun x => x), h.kept.trans' hk (fun _ _ x => x.elim), h.ngp, h.ngp2⟩
theorem PSt.alloc (h : PSt w gc A n c T gp p np cp ps wr fv fs) (o : Obj) : PSt w gc A n c T gp p np cp ps (wr.alloc o) fv fs := h.below ((Below.refl _ _).alloc (Nat.le_refl _) o)
theorem PSt.more (h : PSt w gc A n c T gp p np cp ps wr fv fs) (hT : T ≤ T') : PSt w gc A n c T' gp p np cp ps wr fv fs := ⟨h.cur.more hT, h.res, h.box, h.fns, h.pars, h.kept, h.ngp, h.ngp2⟩
/-- The state that the drawing of statements begins with. -/
def PSt.fix (w : World) (gc : Nat) (A : Option Addr) (n c : Nat) (p np cp : Nat) (ps : List Int) (W : World) (gf : Nat) (pr vs : Int) : Fix := ⟨W, w.heap.size, gc, gf, A, n, c, pr, vs, .slice none 0 0, p, np, cp, ps, fun _ => False⟩
theorem PSt.start (h : PSt w gc A n c T gp p np cp ps wr fv fs) (hgc : gc < w.heap.size) {gf : Nat} {pr vs : Int} (hf : Keep wr gf #[.int .i64 pr, .int .i64 vs, .slice none 0 0, .slice none 0 0] 58) (hgf : w.heap.size ≤ gf) :
    (PSt.fix w gc A n c p np cp ps wr gf pr vs).Ok ∧ Out (PSt.fix w gc A n c p np cp ps wr gf pr vs) wr T (.slice none 0 0) [] (.slice none 0 0) [] := by
  have hpf : p ≠ gf := by
    intro e
    obtain ⟨ds, hh, _⟩ := h.pars.row
    unfold Keep at hf
    rw [e, hf] at hh; injection hh with hh; injection hh with _ hh _; exact absurd hh (by decide)
  have h2 := h.ngp2
  refine ⟨⟨by show gf ≠ gc; omega, by show p ≠ gc; omega, hpf, h.kept.size, hgc, hgf, h.cur.lt, h.pars.row.lt, hf.lt, fun k hk => by simp [PSt.fix, Value.ownBlock] at hk⟩, ⟨h.cur, hf, Sts.nil _ _, h.pars, Nums.nil _ _ _ _, KeptX.refl _ _, .inl rfl, by simp, by simp⟩⟩
/-- Behind the drawing of statements. -/
theorem PSt.drawn (h : PSt w gc A n c T gp p np cp ps wr fv fs) (hgc : gc < w.heap.size) {gf : Nat} {pr vs : Int} (hgf : w.heap.size ≤ gf) (hbox : gp ≠ gf) (hres : w.heap.size ≠ gf) (hfv : ∀ k, fv.ownBlock = some k → k ≠ gf) (hfk : Keep wr gf #[.int .i64 pr, .int .i64 vs, .slice none 0 0, .slice none 0 0] 58)
    {sv' v : Value} {cs' : List C5} {xs : List Int} (ho : Out (PSt.fix w gc A n c p np cp ps wr gf pr vs) w' T' sv' cs' v xs) (hx : 1 ≤ xs.length) (hx3 : xs.length ≤ 3) (h12 : cs'.length ≤ 12) (hnew : ∀ k, k < w.heap.size → k ≠ gf) :
    PSt w gc A n c T' gp p np cp ps (w'.setCell ⟨gf, 2, none⟩ v) fv fs ∧ Keep (w'.setCell ⟨gf, 2, none⟩ v) gf #[.int .i64 pr, .int .i64 vs, v, sv'] 58 ∧ LeadsF (w'.setCell ⟨gf, 2, none⟩ v) w.heap.size 1 ⟨pr, vs, v, sv'⟩ := by
  have hk0 : KeptX (fun k => k = gc ∨ k = gf) wr w' := by
    refine ⟨ho.kept.os, ho.kept.tape, ho.kept.output, ho.kept.size, fun k hk hx' => ho.kept.block k hk ?_⟩
    rintro (e | e | e)
    · exact hx' (.inl e)
    · exact hx' (.inr e)
    · simp [PSt.fix, Value.ownBlock] at e
  have hk : KeptX (fun k => k = gc ∨ k = gf) wr (w'.setCell ⟨gf, 2, none⟩ v) := hk0.set (.inl (.inr rfl)) 2 v
  have htag : ∀ k ds t fz, (k = gc ∨ k = gf) → wr.heap[k]? = some (.cells ds t fz) → t = 100 ∨ t = 58 := by
    rintro k ds t fz (rfl | rfl) hh
    · obtain ⟨_, _, _, hg', _⟩ := h.cur
      rw [hg'] at hh; injection hh with hh; injection hh with _ hh _
      exact .inl hh.symm
    · unfold Keep at hfk
      rw [hfk] at hh; injection hh with hh; injection hh with _ hh _
      exact .inr hh.symm
  have ht1 : TagX wr (fun k => k = gc ∨ k = gf) := fun k ds t fz hx hh => by rcases htag k ds t fz hx hh with rfl | rfl <;> exact ⟨by decide, by decide⟩
  have ht2 : ∀ k ds t fz, (k = gc ∨ k = gf) → wr.heap[k]? = some (.cells ds t fz) → t ≠ 106 := fun k ds t fz hx hh => by rcases htag k ds t fz hx hh with rfl | rfl <;> decide
  have h1 := h.ngp
  have h2 := h.ngp2
  have hbx : Keep w' gf #[.int .i64 pr, .int .i64 vs, .slice none 0 0, sv'] 58 := ho.box
  have hkS : KeptX (fun k => k = gf) w' (w'.setCell ⟨gf, 2, none⟩ v) := KeptX.set (KeptX.refl (fun k => k = gf) w') (.inl rfl) 2 v
  have htS : TagX w' (fun k => k = gf) := by
    rintro k ds t fz rfl hh
    unfold Keep at hbx
    rw [hbx] at hh; injection hh with hh; injection hh with _ hh _
    subst hh
    exact ⟨by decide, by decide⟩
  have hpf : p ≠ gf := by
    intro e
    obtain ⟨ds, hh, _⟩ := h.pars.row
    unfold Keep at hfk
    rw [e, hfk] at hh; injection hh with hh; injection hh with _ hh _; exact absurd hh (by decide)
  have hcur : Cur (w'.setCell ⟨gf, 2, none⟩ v) gc A n c T' := (show Cur w' gc A n c T' from ho.cur).keptX hkS (fun k hk' e => by omega)
  have hrows : ∀ g, sv'.ownBlock = some g → ¬ g = gf := fun g hg e => (ho.rowNe hg).2 e
  refine ⟨⟨hcur, hk.keep h.res (by rintro (e | e); omega; exact hres e), hk.keep h.box (by rintro (e | e); omega; exact hbox e), h.fns.keptX hk ht1 ht2 (fun g hg e => by rcases e with e | e; (have := (World.ownsRow.lt h.fns.own g hg).1; omega); exact hfv g hg e), h.pars.keptX hk (by rintro (e | e); omega; exact hpf e), h.kept.trans' hk (fun i hi e => by rcases e with e | e; exact e; exact absurd e (hnew i hi)), h1, h2⟩, hbx.set 2 v, ⟨xs, ?_, hx, by omega⟩, cs', (show Sts w' w.heap.size sv' cs' from ho.sts).keptX hkS htS hrows, by omega⟩
  exact (show Nums w' wr.heap.size 3 .i64 v xs from ho.blk).keptX hkS htS |>.more h.kept.size
end

end Go.Proofs.Ytfdijeeilfhjeaa
namespace Go.Proofs.Ytfdijeeilfhjeaa
open Go.RowKit Exs

section
variable {w : World} {gc : Nat} {A : Option Addr} {n c T T' gp p np cp : Nat} {ps : List Int} {wr w' : World} {fv v' : Value} {fs : List C4}
theorem Keep.tagNe {w : World} {g : Nat} {cs ce : Array Value} {t u : TypeId} (h : Keep w g cs t) (h' : w.heap[g]? = some (.cells ce u (0, 0))) : t = u := by
  unfold Keep at h
  rw [h] at h'; injection h' with h'; injection h' with _ h' _
/-- One more function has been appended, and the slice stored. -/
theorem PSt.pushed (h : PSt w gc A n c T gp p np cp ps wr fv fs) (hgc : gc < w.heap.size) {x : C4} (hs : Fns w' w.heap.size 1 v' (fs ++ [x])) (hg : wr.grownBy w' fv.ownBlock) :
    PSt w gc A n c T gp p np cp ps (w'.setCell ⟨gp, 0, none⟩ v') v' (fs ++ [x]) := by
  have hk : KeptX (fun k => some k = fv.ownBlock) wr w' := KeptX.of_grownBy hg (fun k e => e.symm)
  have htag : ∀ k, some k = fv.ownBlock → ∃ ce, wr.heap[k]? = some (.cells ce 58 (0, 0)) := fun k hk => h.fns.tag hk
  have h1 := h.ngp
  have h2 := h.ngp2
  have hlo : ∀ k, some k = fv.ownBlock → w.heap.size ≤ k := fun k hk => (World.ownsRow.lt h.fns.own k hk.symm).1
  have hres : ¬ some w.heap.size = fv.ownBlock := fun e => by
    obtain ⟨ce, hh⟩ := htag _ e
    exact absurd (h.res.tagNe hh) (by decide)
  have hbx : ¬ some gp = fv.ownBlock := fun e => by
    obtain ⟨ce, hh⟩ := htag _ e
    exact absurd (h.box.tagNe hh) (by decide)
  have hp : ¬ some p = fv.ownBlock := fun e => by
    obtain ⟨ce, hh⟩ := htag _ e
    obtain ⟨ds, hd, _⟩ := h.pars.row
    rw [hh] at hd; injection hd with hd; injection hd with _ hd _
    exact absurd hd (by decide)
  have hcur : Cur w' gc A n c T := h.cur.keptX hk (fun k hk' e => by have := hlo k e; omega)
  have hb' := hk.keep h.box hbx
  have hS : KeptX (fun k => k = gp) w' (w'.setCell ⟨gp, 0, none⟩ v') := KeptX.set (KeptX.refl (fun k => k = gp) w') (.inl rfl) 0 v'
  have hT : ∀ k ds t fz, k = gp → w'.heap[k]? = some (.cells ds t fz) → t = 44 := by
    rintro k ds t fz rfl hh
    unfold Keep at hb'
    rw [hb'] at hh; injection hh with hh; injection hh with _ hh _
    exact hh.symm
  have ht1 : TagX w' (fun k => k = gp) := fun k ds t fz hx hh => by rw [hT k ds t fz hx hh]; exact ⟨by decide, by decide⟩
  have hpar' := h.pars.keptX hk hp
  have hpg : ¬ p = gp := fun e => by
    obtain ⟨ds, hd, _⟩ := hpar'.row
    rw [e] at hd
    exact absurd (hb'.tagNe (ce := ds) hd) (by decide)
  refine ⟨hcur.keptX hS (fun k hk' e => by omega), hS.keep (hk.keep h.res hres) (by omega), by simpa using hb'.set 0 v', hs.keptX hS ht1 (fun k ds t fz hx hh => by rw [hT k ds t fz hx hh]; decide) (fun g hg' e => ?_), hpar'.keptX hS hpg, ?_, h1, h2⟩
  · obtain ⟨ce, hh⟩ := hs.tag hg'.symm
    subst e
    exact absurd (hb'.tagNe hh) (by decide)
  · exact (h.kept.trans' hk (fun i hi e => by have := hlo i e; omega)).set (.inr (by omega)) 0 v'
/-- The end. -/
theorem PSt.done (h : PSt w gc A n c T gp p np cp ps wr fv fs) (h1 : 1 ≤ fs.length) (h5 : fs.length ≤ 5) (hgc : gc < w.heap.size) : GivesP gc A n c T w (.returned (.agg #[fv])) (wr.setCell ⟨w.heap.size, 0, none⟩ fv) := by
  have hb' := h.res
  have hS : KeptX (fun k => k = w.heap.size) wr (wr.setCell ⟨w.heap.size, 0, none⟩ fv) := KeptX.set (KeptX.refl (fun k => k = w.heap.size) wr) (.inl rfl) 0 fv
  have hT : ∀ k ds t fz, k = w.heap.size → wr.heap[k]? = some (.cells ds t fz) → t = 44 := by
    rintro k ds t fz rfl hh
    unfold Keep at hb'
    rw [hb'] at hh; injection hh with hh; injection hh with _ hh _
    exact hh.symm
  have ht1 : TagX wr (fun k => k = w.heap.size) := fun k ds t fz hx hh => by rw [hT k ds t fz hx hh]; exact ⟨by decide, by decide⟩
  refine ⟨fv, fs, rfl, h.fns.keptX hS ht1 (fun k ds t fz hx hh => by rw [hT k ds t fz hx hh]; decide) (fun g hg' e => ?_), h1, h5, h.cur.keptX hS (fun k hk' e => by omega), ?_⟩
  · obtain ⟨ce, hh⟩ := h.fns.tag hg'.symm
    subst e
    exact absurd (hb'.tagNe hh) (by decide)
  · have hk := h.kept.set (g := w.heap.size) (.inr (Nat.le_refl _)) 0 fv
    exact ⟨hk.os, hk.tape, hk.output, hk.size, fun k hk' hne => hk.block k hk' (fun e => hne (by rw [e]))⟩
end

end Go.Proofs.Ytfdijeeilfhjeaa

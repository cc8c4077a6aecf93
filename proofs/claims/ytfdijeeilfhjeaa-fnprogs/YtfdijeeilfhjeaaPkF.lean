/-
  Rows of functions and statements: one cell turns.
  While a drawn program is turned at one place.
  The drawing of any program: the region in which a statement's block grows.
  The reference's drawing of any program.
  The drawn program and the number of a function of it.
  The drawn function.
-/
import Derived.Test.YtfdijeeilfhjeaaPkG
import Derived.ArgAppend
import Derived.Deep.RegionHeld3
import Derived.Deep.DeepCutAuto
import Derived.Deep.CutBlock
namespace Go.Proofs.Ytfdijeeilfhjeaa
open Go.RowKit Exs

theorem flat5_set1 : ∀ {cs : List C5} {j : Nat} (c : C5) (i : Nat) (u : Value), j < cs.length → i < 5 → cs[j]? = some c → ∀ c' : C5, (cells5 c).set i u = cells5 c' → (flat5 cs).set (j * 5 + i) u = flat5 (cs.set j c')
  | [], j, c, i, u, h, hi, hc, c', e => by simp at h
  | d :: r, 0, c, i, u, h, hi, hc, c', e => by
    simp at hc
    subst hc
    simp only [flat5, List.flatMap_cons, List.set_cons_zero, Nat.zero_mul, Nat.zero_add]
    rw [List.set_append_left _ _ (by simp [cells5]; omega), e]
  | d :: r, j + 1, c, i, u, h, hi, hc, c', e => by
    have ih := flat5_set1 (cs := r) (j := j) c i u (by simpa using h) hi (by simpa using hc) c' e
    have hl : (cells5 d).length = 5 := rfl
    rw [List.set_cons_succ]
    simp only [flat5, List.flatMap_cons] at ih ⊢
    rw [← ih, show (j + 1) * 5 + i = (cells5 d).length + (j * 5 + i) by rw [hl]; omega]
    rw [List.set_append_right _ _ (by omega), Nat.add_sub_cancel_left]

def LeadsW (w : World) (B : Nat) (c : C5) : Prop := (∃ ts, Toks w B c.v1 ts ∧ ts.length ≤ 200) ∧ (∃ xs, Nums w B 3 .i64 c.v2 xs ∧ xs.length ≤ 200) ∧ ∃ ys, Nums w B 3 .i64 c.v3 ys ∧ ys.length ≤ 200
theorem LeadsW.keptX {w w' : World} {X : Nat → Prop} {B : Nat} {c : C5} (h : LeadsW w B c) (hk : KeptX X w w') (ht : TagX w X) : LeadsW w' B c := by
  obtain ⟨⟨ts, h1, l1⟩, ⟨xs, h2, l2⟩, ys, h3, l3⟩ := h
  exact ⟨⟨ts, h1.keptX hk ht, l1⟩, ⟨xs, h2.keptX hk ht, l2⟩, ys, h3.keptX hk ht, l3⟩
structure StsW (w : World) (B : Nat) (v : Value) (cs : List C5) : Prop where
  own : w.ownsRow B 106 5 v cs.length (flat5 cs)
  leads : ∀ c ∈ cs, LeadsW w B c
theorem StsW.keptX {w w' : World} {X : Nat → Prop} {B : Nat} {v : Value} {cs : List C5} (h : StsW w B v cs) (hk : KeptX X w w') (ht : TagX w X) (hx : ∀ g, v.ownBlock = some g → ¬ X g) : StsW w' B v cs :=
  ⟨hk.row h.own hx, fun c hc => (h.leads c hc).keptX hk ht⟩
theorem StsW.shape {w : World} {B : Nat} {v : Value} {cs : List C5} (h : StsW w B v cs) : (v = .slice none 0 0 ∧ cs = []) ∨ ∃ g c, v = .slice (some ⟨g, 0, none⟩) cs.length c := by
  rcases h.own.2 with ⟨rfl, h0⟩ | ⟨g, cap, cur, rfl, _⟩
  · exact .inl ⟨rfl, List.eq_nil_of_length_eq_zero h0⟩
  · exact .inr ⟨_, _, rfl⟩
theorem StsW.at_ {w : World} {B : Nat} {g n cap : Nat} {cs : List C5} (h : StsW w B (.slice (some ⟨g, 0, none⟩) n cap) cs) {j : Nat} (hj : j < cs.length) :
    ∃ c, cs[j]? = some c ∧ w.cell? ⟨g, j * 5, none⟩ = some (.int .i64 c.k) ∧ w.cell? ⟨g, j * 5 + 1, none⟩ = some (.int .i64 c.n) ∧ w.cell? ⟨g, j * 5 + 2, none⟩ = some c.v1 ∧ w.cell? ⟨g, j * 5 + 3, none⟩ = some c.v2 ∧ w.cell? ⟨g, j * 5 + 4, none⟩ = some c.v3 ∧ (∀ i, w.frozen? ⟨g, i, none⟩ = false) := by
  obtain ⟨c, hc⟩ : ∃ c, cs[j]? = some c := ⟨_, List.getElem?_eq_getElem hj⟩
  have hown := h.own
  have hn : n = cs.length := by rcases hown.2 with ⟨h0, _⟩ | ⟨g', cap', cur, hv, _⟩; cases h0; injection hv
  rw [hn] at hown
  have hcell := fun i (hi : i < 5) => (World.ownsRow.cellAt hown (j * 5 + i) (by omega)).trans (flat5_at hc i hi)
  exact ⟨c, hc, hcell 0 (by omega), hcell 1 (by omega), hcell 2 (by omega), hcell 3 (by omega), hcell 4 (by omega), fun i => World.ownsRow.frozenAt hown i⟩
theorem StsW.tag {w : World} {B : Nat} {v : Value} {cs : List C5} (h : StsW w B v cs) {k : Nat} (hk : some k = v.ownBlock) : ∃ cells, w.heap[k]? = some (.cells cells 106 (0, 0)) := by
  rcases h.own.2 with ⟨rfl, _⟩ | ⟨g, cap, cur, rfl, _, hh, _⟩
  · simp [Value.ownBlock] at hk
  · simp [Value.ownBlock] at hk
    subst hk
    exact ⟨_, hh⟩
theorem LeadsW.told {w : World} {B : Nat} {c : C5} (h : LeadsW w B c) : ∃ s, Told5 w c s := by
  obtain ⟨⟨ts, h1, l1⟩, ⟨xs, h2, l2⟩, ys, h3, l3⟩ := h
  obtain ⟨A1, c1, e1, r1⟩ := h1.reads
  obtain ⟨A2, c2, e2, r2⟩ := h2.reads
  obtain ⟨A3, c3, e3, r3⟩ := h3.reads
  exact ⟨⟨c.k, c.n, ts, xs, ys⟩, rfl, rfl, ⟨_, _, _, e1, r1⟩, ⟨_, _, _, e2, r2⟩, ⟨_, _, _, e3, r3⟩, by show ts.length ≤ _; omega, by show xs.length ≤ _; omega, by show ys.length ≤ _; omega⟩
theorem StsW.reads {w : World} {B : Nat} {v : Value} {cs : List C5} (h : StsW w B v cs) : ∃ A d ss, v = .slice A cs.length d ∧ ReadsS w w.heap.size A cs.length ss ∧ ∀ s ∈ ss, SmallS s := by
  obtain ⟨ss, hl, hs⟩ := pick_list (R := Told5 w) cs (fun c hc => (h.leads c hc).told)
  have hsm : ∀ s ∈ ss, SmallS s := by
    intro s hs'
    obtain ⟨j, hj⟩ := List.getElem?_of_mem hs'
    have hjl := (List.getElem?_eq_some_iff.1 hj).1
    exact (hs j _ s (List.getElem?_eq_getElem (by omega)) hj).small
  rcases h.shape with ⟨rfl, rfl⟩ | ⟨g, d, rfl⟩
  · exact ⟨none, 0, ss, rfl, ⟨by simpa using hl, fun hn => absurd hn (by simp)⟩, hsm⟩
  · refine ⟨_, d, ss, rfl, ⟨hl, fun hn => ⟨g, 0, rfl, (World.ownsRow.lt h.own g rfl).2, fun j s hj => ?_⟩⟩, hsm⟩
    have hjl := (List.getElem?_eq_some_iff.1 hj).1
    obtain ⟨c, hc, q0, q1, q2, q3, q4, _⟩ := h.at_ (j := j) (by omega)
    obtain ⟨t1, t2, ⟨A1, m1, d1, e1, r1⟩, ⟨A2, m2, d2, e2, r2⟩, ⟨A3, m3, d3, e3, r3⟩, _⟩ := hs j c s hc hj
    rw [e1] at q2
    rw [e2] at q3
    rw [e3] at q4
    simp only [Nat.zero_add]
    exact ⟨A1, m1, d1, A2, m2, d2, A3, m3, d3, by rw [t1]; exact q0, by rw [t2]; exact q1, q2, q3, q4, r1, r2, r3⟩
theorem Leads.toW {w : World} {B : Nat} {c : C5} (h : Leads w B c) : LeadsW w B c := by
  obtain ⟨⟨ts, h1, l1⟩, ⟨xs, h2, l2⟩, ys, h3, l3⟩ := h
  exact ⟨⟨ts, h1, by omega⟩, ⟨xs, h2, by omega⟩, ys, h3, by omega⟩
theorem Sts.toW {w : World} {B : Nat} {v : Value} {cs : List C5} (h : Sts w B v cs) : StsW w B v cs := ⟨h.own, fun c hc => (h.leads c hc).toW⟩
theorem setX (w : World) (g k : Nat) (u : Value) : KeptX (fun j => j = g) w (w.setCell ⟨g, k, none⟩ u) := KeptX.set (KeptX.refl (fun j => j = g) w) (.inl rfl) k u
theorem Nums.setAny {w : World} {B : Nat} {v : Value} {xs : List Int} (h : Nums w B 3 .i64 v xs) (g k : Nat) (x : Int) : ∃ xs', Nums (w.setCell ⟨g, k, none⟩ (.int .i64 x)) B 3 .i64 v xs' ∧ xs'.length = xs.length := by
  by_cases hv : v.ownBlock = some g
  · rcases h.2 with ⟨rfl, _⟩ | ⟨g', cap, cur, rfl, _⟩
    · simp [Value.ownBlock] at hv
    · have e : g' = g := by simpa [Value.ownBlock] using hv
      subst e
      have s := (World.ownsRow.stored h k (.int .i64 x)).1
      refine ⟨xs.set k x, ?_, by simp⟩
      unfold Nums
      rw [List.length_set, List.map_set]
      exact s
  · exact ⟨xs, (setX w g k _).row h (fun g' hg' e => hv (by rw [hg', e])), rfl⟩
/-- A cell of a row of statements turns. -/
theorem Sts.write {w : World} {B : Nat} {v : Value} {cs : List C5} (h : Sts w B v cs) {g : Nat} (ht : TagX w (fun k => k = g)) (j i : Nat) (hi : i < 5) (u : Value) (hu : ∀ c, Leads w B c → ∃ c', (cells5 c).set i u = cells5 c' ∧ Leads w B c') :
    ∃ cs', Sts (w.setCell ⟨g, j * 5 + i, none⟩ u) B v cs' ∧ cs'.length = cs.length := by
  have hk := setX w g (j * 5 + i) u
  by_cases hv : v.ownBlock = some g
  · rcases h.shape with ⟨rfl, _⟩ | ⟨g', cap, rfl⟩
    · simp [Value.ownBlock] at hv
    · have e : g' = g := by simpa [Value.ownBlock] using hv
      subst e
      have s := (World.ownsRow.stored h.own (j * 5 + i) u).1
      by_cases hj : j < cs.length
      · obtain ⟨c', e', hl⟩ := hu cs[j] (h.leads _ (List.getElem_mem hj))
        rw [flat5_set1 cs[j] i u hj hi (List.getElem?_eq_getElem hj) c' e'] at s
        refine ⟨cs.set j c', ⟨by rw [List.length_set]; exact s, fun d hd => ?_⟩, by simp⟩
        rcases List.mem_or_eq_of_mem_set hd with hd | rfl
        · exact (h.leads d hd).keptX hk ht
        · exact hl.keptX hk ht
      · rw [List.set_eq_of_length_le (by rw [flat5_length]; omega)] at s
        exact ⟨cs, ⟨s, fun d hd => (h.leads d hd).keptX hk ht⟩, rfl⟩
  · exact ⟨cs, h.keptX hk ht (fun g' hg' e => hv (by rw [hg', e])), rfl⟩
theorem TagX.of {w : World} {g : Nat} {ce : Array Value} {t : TypeId} (h : w.heap[g]? = some (.cells ce t (0, 0))) (h3 : t ≠ 3) (h72 : t ≠ 107) : TagX w (fun k => k = g) := by
  rintro k ds u fz rfl hh
  rw [h] at hh; injection hh with hh; injection hh with _ hh _
  subst hh
  exact ⟨h3, h72⟩
theorem tag_ne {w : World} {g g' : Nat} {ce ce' : Array Value} {t t' : TypeId} (h : w.heap[g]? = some (.cells ce t (0, 0))) (h' : w.heap[g']? = some (.cells ce' t' (0, 0))) (hne : t ≠ t') : g' ≠ g := by
  intro e
  subst e
  rw [h] at h'; injection h' with h'; injection h' with _ h' _
  exact hne h'
/-- A cell of a row of statements turns, and the functions are what they were. -/
theorem Fns.write {w : World} {B lo : Nat} {v : Value} {fs : List C4} (h : Fns w B lo v fs) {g : Nat} {ce : Array Value} (hg : w.heap[g]? = some (.cells ce 106 (0, 0))) (j i : Nat) (hi : i < 5) (u : Value) (hu : ∀ c, Leads w B c → ∃ c', (cells5 c).set i u = cells5 c' ∧ Leads w B c') :
    Fns (w.setCell ⟨g, j * 5 + i, none⟩ u) B lo v fs := by
  have hk := setX w g (j * 5 + i) u
  have ht := TagX.of hg (by decide) (by decide)
  refine ⟨hk.row h.own (fun k hk' e => ?_), fun c hc => ?_⟩
  · obtain ⟨ce', hh⟩ := h.tag hk'.symm
    exact tag_ne hg hh (by decide) e
  · obtain ⟨⟨xs, h1, l1⟩, cs, h2, l2⟩ := h.leads c hc
    obtain ⟨cs', h3, l3⟩ := h2.write ht j i hi u hu
    exact ⟨⟨xs, h1.keptX hk ht, l1⟩, cs', h3, by omega⟩
theorem set_int {w : World} {B : Nat} (i : Nat) (hi : i < 2) (x : Int) : ∀ c, Leads w B c → ∃ c', (cells5 c).set i (.int .i64 x) = cells5 c' ∧ Leads w B c' := by
  intro c hc
  rcases (show i = 0 ∨ i = 1 by omega) with rfl | rfl
  · exact ⟨⟨x, c.n, c.v1, c.v2, c.v3⟩, rfl, hc⟩
  · exact ⟨⟨c.k, x, c.v1, c.v2, c.v3⟩, rfl, hc⟩
/-- A number in a row of numbers turns, and the functions are what they were. -/
theorem Fns.setInts {w : World} {B lo : Nat} {v : Value} {fs : List C4} (h : Fns w B lo v fs) {g : Nat} {ce : Array Value} (hg : w.heap[g]? = some (.cells ce 3 (0, 0))) (k : Nat) (x : Int) : Fns (w.setCell ⟨g, k, none⟩ (.int .i64 x)) B lo v fs := by
  have hk := setX w g k (.int .i64 x)
  have hL : ∀ c, Leads w B c → Leads (w.setCell ⟨g, k, none⟩ (.int .i64 x)) B c := by
    rintro c ⟨⟨ts, h1, l1⟩, ⟨xs, h2, l2⟩, ys, h3, l3⟩
    obtain ⟨xs', h2', e2⟩ := h2.setAny g k x
    obtain ⟨ys', h3', e3⟩ := h3.setAny g k x
    refine ⟨⟨ts, hk.row h1 (fun k' hk' e => ?_), l1⟩, ⟨xs', h2', by omega⟩, ys', h3', by omega⟩
    rcases h1.2 with ⟨e0, _⟩ | ⟨g', cap, cur, e0, _, hh, _⟩
    · rw [e0] at hk'; simp [Value.ownBlock] at hk'
    · rw [e0] at hk'
      have e4 : g' = k' := by simpa [Value.ownBlock] using hk'
      subst e4
      exact tag_ne hg hh (by decide) e
  refine ⟨hk.row h.own (fun k' hk' e => ?_), fun c hc => ?_⟩
  · obtain ⟨ce', hh⟩ := h.tag hk'.symm
    exact tag_ne hg hh (by decide) e
  · obtain ⟨⟨xs, h1, l0, l1⟩, cs, h2, l2⟩ := h.leads c hc
    obtain ⟨xs', h1', e1⟩ := h1.setAny g k x
    refine ⟨⟨xs', h1', by omega, by omega⟩, cs, ⟨hk.row h2.own (fun k' hk' e => ?_), fun c' hc' => hL c' (h2.leads c' hc')⟩, l2⟩
    obtain ⟨ce', hh⟩ := h2.tag hk'.symm
    exact tag_ne hg hh (by decide) e

/-- A body: a row of numbers, or one but its first. -/
def BodyOf (w : World) (B : Nat) (b : Value) : Prop := (∃ u xs, Nums w B 3 .i64 u xs ∧ xs.length ≤ 100 ∧ (b = u ∨ ∃ g m d d', u = .slice (some ⟨g, 0, none⟩) (m + 1) d ∧ b = .slice (some ⟨g, 1, none⟩) m d')) ∨ ∃ A d', b = .slice A 0 d'
theorem BodyOf.keptX {w w' : World} {X : Nat → Prop} {B : Nat} {b : Value} (h : BodyOf w B b) (hk : KeptX X w w') (ht : TagX w X) : BodyOf w' B b := by
  rcases h with ⟨u, xs, h1, h2⟩ | h
  · exact .inl ⟨u, xs, h1.keptX hk ht, h2⟩
  · exact .inr h
theorem BodyOf.reads {w : World} {B : Nat} {b : Value} (h : BodyOf w B b) : ∃ A m d ys, b = .slice A m d ∧ Reads w w.heap.size .i64 A m ys ∧ ys.length ≤ 100 := by
  rcases h with ⟨u, xs, h1, l1, rfl | ⟨g, m, d, d', rfl, rfl⟩⟩ | ⟨A, d', rfl⟩
  · obtain ⟨A, d, e, r⟩ := h1.reads
    exact ⟨A, _, d, xs, e, r, l1⟩
  · have hl : xs.length = m + 1 := by
      rcases h1.2 with ⟨e, _⟩ | ⟨g', cap, cur, e, _⟩
      · cases e
      · injection e with _ e _; exact e.symm
    refine ⟨_, m, d', xs.drop 1, rfl, ⟨by simp [hl], fun hn => ⟨g, 1, rfl, (World.ownsRow.lt h1 g rfl).2, fun j y hy => ?_⟩⟩, by simp; omega⟩
    obtain ⟨A, d2, e, r⟩ := h1.reads
    injection e with e1 e2 e3
    subst e1
    obtain ⟨b', off, e4, e5, e6⟩ := r.2 (by omega)
    injection e4 with e4
    injection e4 with e7 e8
    subst e7
    subst e8
    have := e6 (1 + j) y (by rw [List.getElem?_drop] at hy; exact hy)
    simpa using this
  · exact ⟨A, 0, d', [], rfl, ⟨rfl, fun h => absurd h (by omega)⟩, by simp⟩
/-- A row of functions whose bodies are so. -/
structure FnsR (w : World) (B : Nat) (v : Value) (cs : List C4) : Prop where
  own : w.ownsRow B 58 4 v cs.length (flat4 cs)
  leads : ∀ c ∈ cs, BodyOf w B c.b ∧ ∃ es, StsW w B c.s es ∧ es.length ≤ 100
theorem Fns.toR {w : World} {B lo : Nat} {v : Value} {cs : List C4} (h : Fns w B lo v cs) : FnsR w B v cs :=
  ⟨h.own, fun c hc => by
    obtain ⟨⟨xs, h1, _, l1⟩, h2⟩ := h.leads c hc
    obtain ⟨es, h3, l3⟩ := h2
    exact ⟨.inl ⟨_, xs, h1, l1, .inl rfl⟩, es, h3.toW, l3⟩⟩
theorem FnsR.tag {w : World} {B : Nat} {v : Value} {cs : List C4} (h : FnsR w B v cs) {k : Nat} (hk : some k = v.ownBlock) : ∃ cells, w.heap[k]? = some (.cells cells 58 (0, 0)) := by
  rcases h.own.2 with ⟨rfl, _⟩ | ⟨g, cap, cur, rfl, _, hh, _⟩
  · simp [Value.ownBlock] at hk
  · simp [Value.ownBlock] at hk
    subst hk
    exact ⟨_, hh⟩
theorem FnsR.keptX {w w' : World} {X : Nat → Prop} {B : Nat} {v : Value} {cs : List C4} (h : FnsR w B v cs) (hk : KeptX X w w') (ht : TagX w X) (hx : ∀ k cs t fz, X k → w.heap[k]? = some (.cells cs t fz) → t ≠ 106) (hr : ∀ g, v.ownBlock = some g → ¬ X g) : FnsR w' B v cs :=
  ⟨hk.row h.own hr, fun c hc => by
    obtain ⟨h1, es, h2, l2⟩ := h.leads c hc
    refine ⟨h1.keptX hk ht, es, h2.keptX hk ht (fun g hg hX => ?_), l2⟩
    obtain ⟨ce, hh⟩ := h2.tag hg.symm
    exact hx g _ _ _ hX hh rfl⟩
theorem FnsR.shape {w : World} {B : Nat} {v : Value} {cs : List C4} (h : FnsR w B v cs) : (v = .slice none 0 0 ∧ cs = []) ∨ ∃ g c, v = .slice (some ⟨g, 0, none⟩) cs.length c := by
  rcases h.own.2 with ⟨rfl, h0⟩ | ⟨g, cap, cur, rfl, _⟩
  · exact .inl ⟨rfl, List.eq_nil_of_length_eq_zero h0⟩
  · exact .inr ⟨_, _, rfl⟩
theorem FnsR.at_ {w : World} {B : Nat} {g n cap : Nat} {cs : List C4} (h : FnsR w B (.slice (some ⟨g, 0, none⟩) n cap) cs) {j : Nat} (hj : j < cs.length) :
    ∃ c, cs[j]? = some c ∧ w.cell? ⟨g, j * 4, none⟩ = some (.int .i64 c.p) ∧ w.cell? ⟨g, j * 4 + 1, none⟩ = some (.int .i64 c.v) ∧ w.cell? ⟨g, j * 4 + 2, none⟩ = some c.b ∧ w.cell? ⟨g, j * 4 + 3, none⟩ = some c.s ∧ (∀ i, w.frozen? ⟨g, i, none⟩ = false) := by
  obtain ⟨c, hc⟩ : ∃ c, cs[j]? = some c := ⟨_, List.getElem?_eq_getElem hj⟩
  have hown := h.own
  have hn : n = cs.length := by rcases hown.2 with ⟨h0, _⟩ | ⟨g', cap', cur, hv, _⟩; cases h0; injection hv
  rw [hn] at hown
  have hcell := fun i (hi : i < 4) => (World.ownsRow.cellAt hown (j * 4 + i) (by omega)).trans (flat4_at hc i hi)
  exact ⟨c, hc, hcell 0 (by omega), hcell 1 (by omega), hcell 2 (by omega), hcell 3 (by omega), fun i => World.ownsRow.frozenAt hown i⟩
/-- A cell of the row of functions turns. -/
theorem FnsR.write {w : World} {B : Nat} {g n cap : Nat} {cs : List C4} (h : FnsR w B (.slice (some ⟨g, 0, none⟩) n cap) cs) {j i : Nat} {c c' : C4} (hi : i < 4) (hc : cs[j]? = some c) (u : Value) (e : (cells4 c).set i u = cells4 c') (hb : BodyOf w B c'.b) (hs : c'.s = c.s) :
    FnsR (w.setCell ⟨g, j * 4 + i, none⟩ u) B (.slice (some ⟨g, 0, none⟩) n cap) (cs.set j c') := by
  have hj := (List.getElem?_eq_some_iff.1 hc).1
  have hk := setX w g (j * 4 + i) u
  obtain ⟨ce, htag⟩ := h.tag (k := g) rfl
  have ht := TagX.of htag (by decide) (by decide)
  have hown := h.own
  have hn : n = cs.length := by rcases hown.2 with ⟨h0, _⟩ | ⟨g', cap', cur, hv, _⟩; cases h0; injection hv
  rw [hn] at hown ⊢
  have s := (World.ownsRow.stored hown (j * 4 + i) u).1
  rw [flat4_set c i u hj hi hc c' e] at s
  refine ⟨by rw [List.length_set]; exact s, fun d hd => ?_⟩
  have hS : ∀ v', (∃ es, StsW w B v' es ∧ es.length ≤ 100) → ∃ es, StsW (w.setCell ⟨g, j * 4 + i, none⟩ u) B v' es ∧ es.length ≤ 100 := by
    rintro v' ⟨es, h2, l2⟩
    refine ⟨es, h2.keptX hk ht (fun k hk' e => ?_), l2⟩
    obtain ⟨ce', hh⟩ := h2.tag hk'.symm
    exact tag_ne htag hh (by decide) e
  rcases List.mem_or_eq_of_mem_set hd with hd | rfl
  · exact ⟨(h.leads d hd).1.keptX hk ht, hS _ (h.leads d hd).2⟩
  · exact ⟨hb.keptX hk ht, by rw [hs]; exact hS _ (h.leads c (List.mem_of_getElem? hc)).2⟩
/-- A row of functions, read. -/
theorem FnsR.reads {w : World} {B : Nat} {v : Value} {cs : List C4} (h : FnsR w B v cs) : ∃ A d fs, v = .slice A cs.length d ∧ ReadsF w w.heap.size A cs.length fs ∧ ∀ f ∈ fs, SmallF f := by
  have htold : ∀ c ∈ cs, ∃ f : Fc, f.params = c.p ∧ f.vars = c.v ∧ (∃ A m d, c.b = .slice A m d ∧ Reads w w.heap.size .i64 A m f.body) ∧ (∃ A m d, c.s = .slice A m d ∧ ReadsS w w.heap.size A m f.stmts) ∧ SmallF f := by
    intro c hc
    obtain ⟨h1, es, h2, l2⟩ := h.leads c hc
    obtain ⟨A1, m1, d1, xs, e1, r1, l1⟩ := h1.reads
    obtain ⟨A2, d2, ss, e2, r2, hsm⟩ := h2.reads
    have hl2 := r2.1
    exact ⟨⟨c.p, c.v, xs, ss⟩, rfl, rfl, ⟨_, _, _, e1, r1⟩, ⟨_, _, _, e2, r2⟩, by show xs.length ≤ _; omega, by show ss.length ≤ _; omega, hsm⟩
  obtain ⟨fs, hl, hs⟩ := pick_list cs htold
  have hsm : ∀ f ∈ fs, SmallF f := by
    intro f hf
    obtain ⟨j, hj⟩ := List.getElem?_of_mem hf
    have hjl := (List.getElem?_eq_some_iff.1 hj).1
    exact (hs j _ f (List.getElem?_eq_getElem (by omega)) hj).2.2.2.2
  rcases h.shape with ⟨rfl, rfl⟩ | ⟨g, d, rfl⟩
  · exact ⟨none, 0, fs, rfl, ⟨by simpa using hl, fun hn => absurd hn (by simp)⟩, hsm⟩
  · refine ⟨_, d, fs, rfl, ⟨hl, fun hn => ⟨g, 0, rfl, (World.ownsRow.lt h.own g rfl).2, fun j f hj => ?_⟩⟩, hsm⟩
    have hjl := (List.getElem?_eq_some_iff.1 hj).1
    obtain ⟨c, hc, q0, q1, q2, q3, _⟩ := h.at_ (j := j) (by omega)
    obtain ⟨t1, t2, ⟨A1, m1, d1, e1, r1⟩, ⟨A2, m2, d2, e2, r2⟩, _⟩ := hs j c f hc hj
    rw [e1] at q2
    rw [e2] at q3
    simp only [Nat.zero_add]
    exact ⟨A1, m1, d1, A2, m2, d2, by rw [t1]; exact q0, by rw [t2]; exact q1, q2, q3, r1, r2⟩

theorem set_then {w : World} {B : Nat} {u : Value} {ys : List Int} (hn : Nums w B 3 .i64 u ys) (hl : ys.length ≤ 200) : ∀ c, Leads w B c → ∃ c', (cells5 c).set 3 u = cells5 c' ∧ LeadsW w B c' :=
  fun c hc => ⟨⟨c.k, c.n, c.v1, u, c.v3⟩, rfl, hc.toW.1, ⟨ys, hn, hl⟩, hc.toW.2.2⟩
/-- A cell of a row of statements turns; it is longer then. -/
theorem Sts.writeW {w : World} {B : Nat} {v : Value} {cs : List C5} (h : Sts w B v cs) {g : Nat} (ht : TagX w (fun k => k = g)) (j i : Nat) (hi : i < 5) (u : Value) (hu : ∀ c, Leads w B c → ∃ c', (cells5 c).set i u = cells5 c' ∧ LeadsW w B c') :
    ∃ cs', StsW (w.setCell ⟨g, j * 5 + i, none⟩ u) B v cs' ∧ cs'.length = cs.length := by
  have hk := setX w g (j * 5 + i) u
  by_cases hv : v.ownBlock = some g
  · rcases h.shape with ⟨rfl, _⟩ | ⟨g', cap, rfl⟩
    · simp [Value.ownBlock] at hv
    · have e : g' = g := by simpa [Value.ownBlock] using hv
      subst e
      have s := (World.ownsRow.stored h.own (j * 5 + i) u).1
      by_cases hj : j < cs.length
      · obtain ⟨c', e', hl⟩ := hu cs[j] (h.leads _ (List.getElem_mem hj))
        rw [flat5_set1 cs[j] i u hj hi (List.getElem?_eq_getElem hj) c' e'] at s
        refine ⟨cs.set j c', ⟨by rw [List.length_set]; exact s, fun d hd => ?_⟩, by simp⟩
        rcases List.mem_or_eq_of_mem_set hd with hd | rfl
        · exact (h.leads d hd).toW.keptX hk ht
        · exact hl.keptX hk ht
      · rw [List.set_eq_of_length_le (by rw [flat5_length]; omega)] at s
        exact ⟨cs, ⟨s, fun d hd => (h.leads d hd).toW.keptX hk ht⟩, rfl⟩
  · exact ⟨cs, h.toW.keptX hk ht (fun g' hg' e => hv (by rw [hg', e])), rfl⟩
theorem Fns.writeW {w : World} {B lo : Nat} {v : Value} {fs : List C4} (h : Fns w B lo v fs) {g : Nat} {ce : Array Value} (hg : w.heap[g]? = some (.cells ce 106 (0, 0))) (j i : Nat) (hi : i < 5) (u : Value) (hu : ∀ c, Leads w B c → ∃ c', (cells5 c).set i u = cells5 c' ∧ LeadsW w B c') :
    FnsR (w.setCell ⟨g, j * 5 + i, none⟩ u) B v fs := by
  have hk := setX w g (j * 5 + i) u
  have ht := TagX.of hg (by decide) (by decide)
  refine ⟨hk.row h.own (fun k hk' e => ?_), fun c hc => ?_⟩
  · obtain ⟨ce', hh⟩ := h.tag hk'.symm
    exact tag_ne hg hh (by decide) e
  · obtain ⟨⟨xs, h1, _, l1⟩, cs, h2, l2⟩ := h.leads c hc
    obtain ⟨cs', h3, l3⟩ := h2.writeW ht j i hi u hu
    exact ⟨.inl ⟨_, xs, h1.keptX hk ht, l1, .inl rfl⟩, cs', h3, by omega⟩
/-- What a statement of a drawn function holds. -/
theorem Fns.stAt {w : World} {B lo : Nat} {v : Value} {fs : List C4} (h : Fns w B lo v fs) {f : C4} (hf : f ∈ fs) {gS ms ds : Nat} (hs : f.s = .slice (some ⟨gS, 0, none⟩) ms ds) {j : Nat} (hj : j < ms) :
    ∃ x : C5, Leads w B x ∧ w.cell? ⟨gS, j * 5, none⟩ = some (.int .i64 x.k) ∧ w.cell? ⟨gS, j * 5 + 1, none⟩ = some (.int .i64 x.n) ∧ w.cell? ⟨gS, j * 5 + 2, none⟩ = some x.v1 ∧ w.cell? ⟨gS, j * 5 + 3, none⟩ = some x.v2 ∧ w.cell? ⟨gS, j * 5 + 4, none⟩ = some x.v3 ∧ (∀ i, w.frozen? ⟨gS, i, none⟩ = false) ∧ (∃ ce, w.heap[gS]? = some (.cells ce 106 (0, 0))) ∧ B ≤ gS := by
  obtain ⟨_, es, h2, _⟩ := h.leads f hf
  rw [hs] at h2
  have hl : ms = es.length := by
    rcases h2.shape with ⟨e, _⟩ | ⟨g', c, e⟩
    · cases e
    · injection e
  obtain ⟨x, hx, q0, q1, q2, q3, q4, qf⟩ := h2.at_ (j := j) (by omega)
  exact ⟨x, h2.leads x (List.mem_of_getElem? hx), q0, q1, q2, q3, q4, qf, h2.tag rfl, (World.ownsRow.lt h2.own gS rfl).1⟩

end Go.Proofs.Ytfdijeeilfhjeaa
namespace Go.Proofs.Ytfdijeeilfhjeaa
open Go.RowKit Exs

/-- What a call that draws any program gives. -/
def GivesR (g : Nat) (A : Option Addr) (n c T : Nat) (w : World) (e : Ending) (w' : World) : Prop :=
  ∃ (v : Value) (fs : List C4), e = .returned (.agg #[v]) ∧ FnsR w' (w.heap.size + 1) v fs ∧ 1 ≤ fs.length ∧ fs.length ≤ 5 ∧ Cur w' g A n c T ∧ w.grownBy w' (some g)

/-- What is kept beside the functions. -/
structure Side (w : World) (gc : Nat) (A : Option Addr) (n c T gp : Nat) (v : Value) (wr : World) : Prop where
  cur : Cur wr gc A n c T
  res : Keep wr w.heap.size #[.slice none 0 0] 44
  box : Keep wr gp #[v] 44
  kept : KeptX (fun k => k = gc) w wr
  ngp : w.heap.size < gp
  gcl : gc < w.heap.size
section
variable {w : World} {gc : Nat} {A : Option Addr} {n c T T' gp : Nat} {v : Value} {wr w' : World}
theorem Side.cursor (h : Side w gc A n c T gp v wr) (hg : wr.grownBy w' (some gc)) (hc : Cur w' gc A n c T') : Side w gc A n c T' gp v w' := by
  have hk : KeptX (fun k => k = gc) wr w' := KeptX.of_grownBy hg (fun k e => by injection e with e; exact e.symm)
  have h1 := h.ngp
  have h2 := h.gcl
  exact ⟨hc, hk.keep h.res (by omega), hk.keep h.box (by omega), h.kept.trans hk, h1, h2⟩
theorem Side.other (h : Side w gc A n c T gp v wr) {X : Nat → Prop} (hk : KeptX X wr w') (hX : ∀ k, X k → w.heap.size < k ∧ k ≠ gp) : Side w gc A n c T gp v w' := by
  have h1 := h.ngp
  have h2 := h.gcl
  exact ⟨h.cur.keptX hk (fun k hk' e => by have := (hX k e).1; omega), hk.keep h.res (fun e => by have := (hX _ e).1; omega), hk.keep h.box (fun e => (hX _ e).2 rfl), h.kept.trans' hk (fun i hi e => by have := (hX i e).1; omega), h1, h2⟩
theorem Side.set (h : Side w gc A n c T gp v wr) {g : Nat} {ce : Array Value} {t : TypeId} (hg : wr.heap[g]? = some (.cells ce t (0, 0))) (ht : t ≠ 44) (hB : w.heap.size + 1 ≤ g) (k : Nat) (u : Value) : Side w gc A n c T gp v (wr.setCell ⟨g, k, none⟩ u) :=
  h.other (setX wr g k u) (fun j e => by subst e; exact ⟨by omega, fun e => by subst e; exact ht (h.box.tagNe hg).symm⟩)
theorem Side.below (h : Side w gc A n c T gp v wr) (hb : Below wr.heap.size wr w') : Side w gc A n c T gp v w' :=
  h.other (X := fun _ => False) ⟨hb.os, hb.tape, hb.output, hb.size, fun k hk _ => hb.block k hk⟩ (fun _ hx => hx.elim)
theorem Side.more (h : Side w gc A n c T gp v wr) (hT : T ≤ T') : Side w gc A n c T' gp v wr := ⟨h.cur.more hT, h.res, h.box, h.kept, h.ngp, h.gcl⟩
/-- The functions while the cursor moves. -/
theorem Fns.cursor {B lo : Nat} {fs : List C4} (h : Fns wr B lo v fs) (hc : Cur wr gc A n c T) (hgB : gc < B) (hg : wr.grownBy w' (some gc)) : Fns w' B lo v fs := by
  have hk : KeptX (fun k => k = gc) wr w' := KeptX.of_grownBy hg (fun k e => by injection e with e; exact e.symm)
  have htag : ∀ k ds t fz, k = gc → wr.heap[k]? = some (.cells ds t fz) → t = 100 := by
    rintro k ds t fz rfl hh
    obtain ⟨_, _, _, hg', _⟩ := hc
    rw [hg'] at hh; injection hh with hh; injection hh with _ hh _
    exact hh.symm
  exact h.keptX hk (fun k ds t fz hx hh => by rw [htag k ds t fz hx hh]; exact ⟨by decide, by decide⟩) (fun k ds t fz hx hh => by rw [htag k ds t fz hx hh]; decide) (fun g hg' e => by have := (World.ownsRow.lt h.own g hg').1; omega)
/-- The end. -/
theorem Side.done (h : Side w gc A n c T gp v wr) {fs : List C4} (hf : FnsR wr (w.heap.size + 1) v fs) (h1 : 1 ≤ fs.length) (h5 : fs.length ≤ 5) :
    GivesR gc A n c T w (.returned (.agg #[v])) (wr.setCell ⟨w.heap.size, 0, none⟩ v) := by
  have hS := setX wr w.heap.size 0 v
  have hr := h.res
  unfold Keep at hr
  have ht := TagX.of hr (by decide) (by decide)
  have hgc := h.gcl
  have hf' := hf.keptX hS ht (fun k ds t fz hx hh => by
    subst hx
    rw [hr] at hh; injection hh with hh; injection hh with _ hh _
    subst hh
    decide) (fun g hg e => by have := (World.ownsRow.lt hf.own g hg).1; omega)
  refine ⟨v, fs, rfl, hf', h1, h5, h.cur.keptX hS (fun k hk' e => by omega), ?_⟩
  have hk' := h.kept.set (g := w.heap.size) (.inr (Nat.le_refl _)) 0 v
  exact ⟨hk'.os, hk'.tape, hk'.output, hk'.size, fun k hk2 hne => hk'.block k hk2 (fun e => hne (by rw [e]))⟩
end

/-- 'append(xs, x)' of a number, at a step of a region that draws: a number of a row of numbers turns, or nothing that was there. -/
theorem step_append_int {w : World} {ops : Array Oper} {o : Oper} {a : Act} {K : Act → World → Prop} {Q : Exit → Act → World → Prop} {E : Prop} (hgd : o.guard = none) (s x : Operand)
    (ho : o.op = .call { callee := .builtin .append, args := #[s, x], argTypes := #[22, 22] })
    (B : Nat) (v : Value) (xs : List Int) (hs : a.eval s = v) (hown : Nums w B 3 .i64 v xs) (hB : B ≤ w.heap.size) (g0 : Nat) (b : Int) (hx : a.eval x = .slice (some ⟨g0, 0, none⟩) 1 1)
    (hcell : w.cell? ⟨g0, 0, none⟩ = some (.int .i64 b)) (hlen : xs.length ≤ 1000)
    (h : ∀ v' w', Nums w' B 3 .i64 v' (xs ++ [b]) → ((∃ g k ce, w.heap[g]? = some (.cells ce 3 (0, 0)) ∧ B ≤ g ∧ w' = w.setCell ⟨g, k, none⟩ (.int .i64 b)) ∨ w.grownBy w' none) → K (a.put o.dst v') w') : if Region.wanted o (yielded ops a.tmps) = true then Oper.wp Try.prog o a w K Q else E := by
  have hw : Region.wanted o (yielded ops a.tmps) = true := by simp [Region.wanted, hgd]
  rw [if_pos hw]
  obtain ⟨i0, hi, hz0, hz1, hz2⟩ := info_parts Try.info3
  have hnews : ∀ (j : Nat) (u : Value), [Value.int .i64 b][j]? = some u → w.cell? ((⟨g0, 0, none⟩ : Addr).add j) = some u := by
    intro j u hj
    match j, hj with
    | 0, hj => simp at hj; subst hj; simpa [Addr.add] using hcell
  obtain ⟨v', w', hr, h2, h3, _, _⟩ := run_append_own_at (P := Try.prog) w B 22 o.type 3 i0 _ 1 _ Try.underlying22 hi hz0 hz1 hz2 rfl (by decide) v xs.length _ hown ⟨g0, 0, none⟩ 1 1 [.int .i64 b] rfl hnews (by simp [Value.oneCell']) (by unfold maxLen; omega) (by omega) hB
  have hN : Nums w' B 3 .i64 v' (xs ++ [b]) := by unfold Nums; simpa using h2
  have hor : (∃ g k ce, w.heap[g]? = some (.cells ce 3 (0, 0)) ∧ B ≤ g ∧ w' = w.setCell ⟨g, k, none⟩ (.int .i64 b)) ∨ w.grownBy w' none := by
    rcases hown.2 with ⟨rfl, _⟩ | ⟨g, cap, cur, rfl, hg1, hg2, hg3, hg4, hg5, hg6⟩
    · exact .inr h3
    · by_cases hroom : xs.length + 1 ≤ cap
      · have hsz : i0.size = 1 := hz1
        have hin : ∀ j, j < [Value.int .i64 b].length → (w.cell? ⟨g, 0 + xs.length * i0.size + j, none⟩).isSome = true := by
          intro j hj
          simp at hj
          subst hj
          rw [cell_of_row w g _ cur 3 (0, 0) hg2, hsz]
          simp
          omega
        have hfr : ∀ j, j < [Value.int .i64 b].length → w.frozen? ⟨g, 0 + xs.length * i0.size + j, none⟩ = false := fun j _ => World.ownsRow.frozenAt hown _
        have hr' := run_append_room_cells (P := Try.prog) w 22 o.type 3 i0 Try.underlying22 hi g 0 xs.length cap ⟨g0, 0, none⟩ 1 1 [.int .i64 b] (by rw [hsz]; rfl) hnews (by simp [Value.oneCell']) hroom hin hfr
        rw [hr] at hr'
        injection hr' with e1 e2
        exact .inl ⟨g, _, cur, hg2, hg1, e2⟩
      · have holds : ∀ (j : Nat) (u : Value), (xs.map (Value.int .i64))[j]? = some u → w.cell? ((⟨g, 0, none⟩ : Addr).add j) = some u := hown.cells (g := g) rfl
        obtain ⟨v2, w2, hr', _, hg'⟩ := run_append_arg_grows (P := Try.prog) w 22 o.type 3 i0 _ 1 _ Try.underlying22 hi hz0 hz1 hz2 rfl (by decide) ⟨g, 0, none⟩ xs.length cap _ hown.1 holds ⟨g0, 0, none⟩ 1 1 [.int .i64 b] rfl hnews (by omega) (by unfold maxLen; omega) (by omega)
        rw [hr] at hr'
        injection hr' with e1 e2
        exact .inr (e2 ▸ hg')
  unfold Oper.wp execOp
  simp only [ho, resolve, invoke, builtin, Sem.run_bind, Sem.run_pure, Result.andThen_ok, List.map_toArray, List.map_cons, List.map_nil, hs, hx, hr]
  exact h v' w' hN hor

end Go.Proofs.Ytfdijeeilfhjeaa
namespace Go.Proofs.Ytfdijeeilfhjeaa
open Go.RowKit Exs

/-- Behind an append of a number. -/
theorem turned {w : World} {gc : Nat} {A : Option Addr} {n c T gp : Nat} {v : Value} {wr w' : World} {fs : List C4} {b : Int} (h : (∃ g k ce, wr.heap[g]? = some (.cells ce 3 (0, 0)) ∧ w.heap.size + 1 ≤ g ∧ w' = wr.setCell ⟨g, k, none⟩ (.int .i64 b)) ∨ wr.grownBy w' none)
    (hS : Side w gc A n c T gp v wr) (hF : Fns wr (w.heap.size + 1) 1 v fs) : Side w gc A n c T gp v w' ∧ Fns w' (w.heap.size + 1) 1 v fs := by
  rcases h with ⟨g, k, ce, hg, hB, rfl⟩ | hg
  · exact ⟨hS.set hg (by decide) hB k _, hF.setInts hg k _⟩
  · have hk : KeptX (fun _ => False) wr w' := KeptX.of_grownBy hg (fun k e => by cases e)
    exact ⟨hS.other hk (fun _ hx => hx.elim), hF.keptX hk (fun _ _ _ _ hx => hx.elim) (fun _ _ _ _ hx => hx.elim) (fun _ _ x => x)⟩

noncomputable def piece37 (p : Code → Bool) : Code := (Try.f68.body.bind (findC p)).getD .skip
set_option maxHeartbeats 4000000 in
set_option maxRecDepth 100000 in
theorem seg37 {w : World} {gc : Nat} {A : Option Addr} {n c T gp : Nat} {v : Value} {wr : World} {fs : List C4} {f : C4} {gS ms ds j : Nat} {Q : Exit → Act → World → Prop} {sl1 sl2 sl3 sl4 sl6 sl7 sl8 sl9 sl10 sl11 sl12 sl13 sl14 sl15 sl16 sl17 sl18 sl19 sl20 sl21 sl22 sl23 sl24 sl25 sl26 sl27 sl28 sl29 sl30 sl31 sl32 sl33 sl34 sl35 sl36 sl37 sl38 sl39 sl40 sl41 sl42 sl43 sl44 sl45 sl46 sl47 sl48 sl49 sl50 sl51 sl52 sl53 sl54 sl55 sl56 sl57 sl58 sl59 sl60 sl61 sl62 sl63 sl64 sl65 sl66 sl67 sl68 sl69 sl70 sl71 sl72 sl73 sl74 sl75 sl76 sl77 sl78 sl79 sl80 sl81 : Value} (hT : T ≤ 800000)
    (hf : f ∈ fs) (hs : f.s = .slice (some ⟨gS, 0, none⟩) ms ds) (hj : j < ms) (hS : Side w gc A n c T gp v wr) (hF : Fns wr (w.heap.size + 1) 1 v fs)
    (HK : Hid (∀ (u70 u71 u72 u73 u74 u75 u76 u77 u78 u79 u80 : Value) (wx : World), FnsR wx (w.heap.size + 1) v fs → Side w gc A n c (T + 2) gp v wx → Q .normal ⟨#[.pointer (some ⟨gc, 0, none⟩), sl1, sl2, sl3, sl4, .pointer (some ⟨gS, j * 5, none⟩), sl6, sl7, sl8, sl9, sl10, sl11, sl12, sl13, sl14, sl15, sl16, sl17, sl18, sl19, sl20, sl21, sl22, sl23, sl24, sl25, sl26, sl27, sl28, sl29, sl30, sl31, sl32, sl33, sl34, sl35, sl36, sl37, sl38, sl39, sl40, sl41, sl42, sl43, sl44, sl45, sl46, sl47, sl48, sl49, sl50, sl51, sl52, sl53, sl54, sl55, sl56, sl57, sl58, sl59, sl60, sl61, sl62, sl63, sl64, sl65, sl66, sl67, sl68, sl69, u70, u71, u72, u73, u74, u75, u76, u77, u78, u79, u80, sl81], []⟩ wx)) :
    Code.wp Try.prog (piece37 (isRegion 15)) Q ⟨#[.pointer (some ⟨gc, 0, none⟩), sl1, sl2, sl3, sl4, .pointer (some ⟨gS, j * 5, none⟩), sl6, sl7, sl8, sl9, sl10, sl11, sl12, sl13, sl14, sl15, sl16, sl17, sl18, sl19, sl20, sl21, sl22, sl23, sl24, sl25, sl26, sl27, sl28, sl29, sl30, sl31, sl32, sl33, sl34, sl35, sl36, sl37, sl38, sl39, sl40, sl41, sl42, sl43, sl44, sl45, sl46, sl47, sl48, sl49, sl50, sl51, sl52, sl53, sl54, sl55, sl56, sl57, sl58, sl59, sl60, sl61, sl62, sl63, sl64, sl65, sl66, sl67, sl68, sl69, sl70, sl71, sl72, sl73, sl74, sl75, sl76, sl77, sl78, sl79, sl80, sl81], []⟩ wr := by
  obtain ⟨x, hx, _, _, _, q3, _, _, ⟨ce, ht⟩, hBS⟩ := hF.stAt hf hs hj
  obtain ⟨xs, hn, hxl⟩ := hx.2.1
  obtain ⟨_, _, _, A2, n2, e2, _, _, _, _, ev2, _⟩ := hx.shape
  rw [ev2] at q3 hn
  have hSD := hS.below ((Below.refl _ wr).drew)
  have hFD := hF.below ((Below.refl _ wr).drew)
  have hlS : gS < wr.drew.heap.size := (Array.getElem?_eq_some_iff.1 ht).1
  have hgl := hS.gcl
  conv => arg 2; whnf
  refine wp_region_noPanic ?_
  refine wp_region_any (by kernel_rfl) ?_
  change wpAny _ _ _ _ _ _ _ (World.drew _)
  refine wpAny_take (i := 0) (oi := { dst := some 70, op := Go.Op.move (Go.Operand.tmp 5), type := 136, pos := "l3_prog.go:286", after := #[], guard := none }) (v := .pointer (some ⟨gS, j * 5, none⟩)) rfl (by kernel_rfl) (by kernel_rfl) (by kernel_rfl) (fun _ _ _ h => h) (Or.inl ⟨by rfl, by intro w; go_simp⟩) ?_
  (try simp only [Act.put, List.setIfInBounds_toArray, List.set_cons_zero, List.set_cons_succ])
  refine wpAny_take (i := 1) (oi := { dst := some 71, op := Go.Op.move (Go.Operand.tmp 5), type := 136, pos := "l3_prog.go:286", after := #[], guard := none }) (v := .pointer (some ⟨gS, j * 5, none⟩)) rfl (by kernel_rfl) (by kernel_rfl) (by kernel_rfl) (fun _ _ _ h => h) (Or.inl ⟨by rfl, by intro w; go_simp⟩) ?_
  (try simp only [Act.put, List.setIfInBounds_toArray, List.set_cons_zero, List.set_cons_succ])
  refine wpAny_take (i := 2) (oi := { dst := some 72, op := Go.Op.nilCheck (Go.Operand.tmp 71), type := 0, pos := "l3_prog.go:286", after := #[{ on := 1, ground := Go.Ground.data }], guard := none }) (v := .pointer (some ⟨gS, j * 5, none⟩)) rfl (by kernel_rfl) (by kernel_rfl) (by kernel_rfl) (fun _ _ _ h => h) (Or.inl ⟨by rfl, by intro w; go_simp⟩) ?_
  (try simp only [Act.put, List.setIfInBounds_toArray, List.set_cons_zero, List.set_cons_succ])
  refine wpAny_take (i := 3) (oi := { dst := some 73, op := Go.Op.fieldAddr 106 (Go.Operand.tmp 72) 3, type := 0, pos := "l3_prog.go:286", after := #[{ on := 2, ground := Go.Ground.data }], guard := none }) (v := .pointer (some ⟨gS, j * 5 + 3, none⟩)) rfl (by kernel_rfl) (by kernel_rfl) (by kernel_rfl) (fun _ _ _ h => h) (Or.inl ⟨by rfl, by intro w; go_simp⟩) ?_
  (try simp only [Act.put, List.setIfInBounds_toArray, List.set_cons_zero, List.set_cons_succ])
  refine wpAny_take (i := 5) (oi := { dst := some 75, op := Go.Op.move (Go.Operand.tmp 0), type := 97, pos := "l3_prog.go:286", after := #[], guard := none }) (v := .pointer (some ⟨gc, 0, none⟩)) rfl (by kernel_rfl) (by kernel_rfl) (by kernel_rfl) (fun _ _ _ h => h) (Or.inl ⟨by rfl, by intro w; go_simp⟩) ?_
  (try simp only [Act.put, List.setIfInBounds_toArray, List.set_cons_zero, List.set_cons_succ])
  refine wpAny_ready (rs := [4, 6]) (by kernel_rfl) (by simp) ?_
  refine AllReady.cons (o := { dst := some 74, op := Go.Op.load 22 (Go.Operand.tmp 73), type := 22, pos := "l3_prog.go:286", after := #[{ on := 3, ground := Go.Ground.data }], guard := none }) rfl (fun K hK => ?_) (AllReady.cons (o := { dst := some 76, op := Go.Op.call { callee := Go.Callee.value (Go.Operand.func 69), args := #[Go.Operand.tmp 75, Go.Operand.const (Go.Value.int Go.IntKind.i64 5)], argTypes := #[97, 3] }, type := 3, pos := "l3_prog.go:286", after := #[{ on := 5, ground := Go.Ground.data }], guard := none }) rfl (fun K hK => ?_) AllReady.nil)
  · go_simp
    refine hK _ _ ?_
    clear hK K
    (try simp only [Act.put, List.setIfInBounds_toArray, List.set_cons_zero, List.set_cons_succ])
    refine wpAny_ready (rs := [6]) (by kernel_rfl) (by simp) ?_
    refine AllReady.cons (o := { dst := some 76, op := Go.Op.call { callee := Go.Callee.value (Go.Operand.func 69), args := #[Go.Operand.tmp 75, Go.Operand.const (Go.Value.int Go.IntKind.i64 5)], argTypes := #[97, 3] }, type := 3, pos := "l3_prog.go:286", after := #[{ on := 5, ground := Go.Ground.data }], guard := none }) rfl (fun K hK => ?_) AllReady.nil
    go_simp
    refine (pick_any gc A n c T 5 _ hSD.cur (by omega) (by omega) (by omega)).mono ?_
    rintro e w6 ⟨q, hq0, hq1, rfl, hc6, hg6⟩
    have hS6 := hSD.cursor hg6 hc6
    have hF6 := hFD.cursor hSD.cur (by have := hS.gcl; omega) hg6
    have hn6 := Nums.cur (W := wr.drew) hn hSD.cur hg6
    have z3 : w6.cell? ⟨gS, j * 5 + 3, none⟩ = some (.slice A2 n2 e2) := (World.cell?_of_block (a := ⟨gS, j * 5 + 3, none⟩) (hg6.block gS hlS (by simp; omega))).trans q3
    have hlS6 : gS < w6.heap.size := Nat.lt_of_lt_of_le hlS hg6.size
    have hsz6 := hS6.kept.size
    have hl6 := hS6.res.lt
    dsimp only
    refine hK _ _ ?_
    clear hK K
    (try simp only [Act.put, List.setIfInBounds_toArray, List.set_cons_zero, List.set_cons_succ])
    refine wpAny_ready (rs := [7]) (by kernel_rfl) (by simp) ?_
    refine AllReady.cons (o := { dst := some 77, op := Go.Op.buildSlice 22 1 #[(0, Go.Operand.tmp 76)], type := 22, pos := "l3_prog.go:286", after := #[{ on := 6, ground := Go.Ground.data }], guard := none }) rfl (fun K hK => ?_) AllReady.nil
    go_simp
    refine hK _ _ ?_
    clear hK K
    (try simp only [Act.put, List.setIfInBounds_toArray, List.set_cons_zero, List.set_cons_succ])
    refine wpAny_ready (rs := [8]) (by kernel_rfl) (by simp) ?_
    refine AllReady.cons (o := { dst := some 78, op := Go.Op.call { callee := Go.Callee.builtin Go.Builtin.append, args := #[Go.Operand.tmp 74, Go.Operand.tmp 77], argTypes := #[22, 22] }, type := 22, pos := "l3_prog.go:286", after := #[{ on := 4, ground := Go.Ground.data }, { on := 7, ground := Go.Ground.data }, { on := 6, ground := Go.Ground.chain }], guard := none }) rfl (fun K hK => ?_) AllReady.nil
    refine step_append_int rfl (.tmp 74) (.tmp 77) rfl (w.heap.size + 1) (.slice A2 n2 e2) xs (by simp [Act.eval]) (hn6.alloc _) (by simp; omega) w6.heap.size q (by simp [Act.eval]) (by simp) (by omega) ?_
    intro v8 w8 hn8 hor8
    have hSF : Side w gc A n c (T + 2) gp v w8 ∧ Fns w8 (w.heap.size + 1) 1 v fs := turned hor8 (hS6.below ((Below.refl _ w6).alloc (Nat.le_refl _) _)) (hF6.below ((Below.refl _ w6).alloc (Nat.le_refl _) _))
    obtain ⟨x8, _, _, _, _, r3, _, rf, ⟨ce8, ht8⟩, hB8⟩ := hSF.2.stAt hf hs hj
    have rf3 := rf (j * 5 + 3)
    have HF9 := put (hSF.2.writeW ht8 j 3 (by omega) v8 (set_then hn8 (by simp; omega)))
    have HS9 := put (hSF.1.set ht8 (by decide) hB8 (j * 5 + 3) v8)
    obtain ⟨A8, m8, c8, hv8⟩ : ∃ A8 m8 c8, v8 = .slice A8 m8 c8 := by obtain ⟨A, c, h, _⟩ := hn8.reads; exact ⟨A, _, c, h⟩
    subst hv8
    generalize x8.v2 = o8 at r3
    clear hn8 hor8 hSF rf ht8
    refine hK _ _ ?_
    clear hK K
    (try simp only [Act.put, List.setIfInBounds_toArray, List.set_cons_zero, List.set_cons_succ])
    refine wpAny_ready (rs := [9]) (by kernel_rfl) (by simp) ?_
    refine AllReady.cons (o := { dst := some 79, op := Go.Op.nilCheck (Go.Operand.tmp 70), type := 0, pos := "l3_prog.go:286", after := #[{ on := 0, ground := Go.Ground.data }, { on := 0, ground := Go.Ground.phase }, { on := 1, ground := Go.Ground.phase }, { on := 2, ground := Go.Ground.phase }, { on := 3, ground := Go.Ground.phase }, { on := 4, ground := Go.Ground.phase }, { on := 5, ground := Go.Ground.phase }, { on := 6, ground := Go.Ground.phase }, { on := 7, ground := Go.Ground.phase }, { on := 8, ground := Go.Ground.phase }], guard := none }) rfl (fun K hK => ?_) AllReady.nil
    go_simp
    refine hK _ _ ?_
    clear hK K
    (try simp only [Act.put, List.setIfInBounds_toArray, List.set_cons_zero, List.set_cons_succ])
    refine wpAny_ready (rs := [10]) (by kernel_rfl) (by simp) ?_
    refine AllReady.cons (o := { dst := some 80, op := Go.Op.fieldAddr 106 (Go.Operand.tmp 79) 3, type := 0, pos := "l3_prog.go:286", after := #[{ on := 9, ground := Go.Ground.data }, { on := 0, ground := Go.Ground.phase }, { on := 1, ground := Go.Ground.phase }, { on := 2, ground := Go.Ground.phase }, { on := 3, ground := Go.Ground.phase }, { on := 4, ground := Go.Ground.phase }, { on := 5, ground := Go.Ground.phase }, { on := 6, ground := Go.Ground.phase }, { on := 7, ground := Go.Ground.phase }, { on := 8, ground := Go.Ground.phase }], guard := none }) rfl (fun K hK => ?_) AllReady.nil
    go_simp
    refine hK _ _ ?_
    clear hK K
    (try simp only [Act.put, List.setIfInBounds_toArray, List.set_cons_zero, List.set_cons_succ])
    refine wpAny_ready (rs := [11]) (by kernel_rfl) (by simp) ?_
    refine AllReady.cons (o := { dst := none, op := Go.Op.store 22 (Go.Operand.tmp 80) (Go.Operand.tmp 78), type := 0, pos := "l3_prog.go:286", after := #[{ on := 10, ground := Go.Ground.data }, { on := 8, ground := Go.Ground.data }, { on := 8, ground := Go.Ground.chain }, { on := 0, ground := Go.Ground.phase }, { on := 1, ground := Go.Ground.phase }, { on := 2, ground := Go.Ground.phase }, { on := 3, ground := Go.Ground.phase }, { on := 4, ground := Go.Ground.phase }, { on := 5, ground := Go.Ground.phase }, { on := 6, ground := Go.Ground.phase }, { on := 7, ground := Go.Ground.phase }, { on := 8, ground := Go.Ground.phase }], guard := none }) rfl (fun K hK => ?_) AllReady.nil
    go_simp
    refine hK _ _ ?_
    clear hK K
    (try simp only [Act.put, List.setIfInBounds_toArray, List.set_cons_zero, List.set_cons_succ])
    refine wpAny_done (by kernel_rfl) ?_ _
    refine NoPanic.normal ?_
    exact HK.out _ _ _ _ _ _ _ _ _ _ _ _ HF9.out HS9.out
  · go_simp
    refine (pick_any gc A n c T 5 _ hSD.cur (by omega) (by omega) (by omega)).mono ?_
    rintro e w6 ⟨q, hq0, hq1, rfl, hc6, hg6⟩
    have hS6 := hSD.cursor hg6 hc6
    have hF6 := hFD.cursor hSD.cur (by have := hS.gcl; omega) hg6
    have hn6 := Nums.cur (W := wr.drew) hn hSD.cur hg6
    have z3 : w6.cell? ⟨gS, j * 5 + 3, none⟩ = some (.slice A2 n2 e2) := (World.cell?_of_block (a := ⟨gS, j * 5 + 3, none⟩) (hg6.block gS hlS (by simp; omega))).trans q3
    have hlS6 : gS < w6.heap.size := Nat.lt_of_lt_of_le hlS hg6.size
    have hsz6 := hS6.kept.size
    have hl6 := hS6.res.lt
    dsimp only
    refine hK _ _ ?_
    clear hK K
    (try simp only [Act.put, List.setIfInBounds_toArray, List.set_cons_zero, List.set_cons_succ])
    refine wpAny_ready (rs := [4, 7]) (by kernel_rfl) (by simp) ?_
    refine AllReady.cons (o := { dst := some 74, op := Go.Op.load 22 (Go.Operand.tmp 73), type := 22, pos := "l3_prog.go:286", after := #[{ on := 3, ground := Go.Ground.data }], guard := none }) rfl (fun K hK => ?_) (AllReady.cons (o := { dst := some 77, op := Go.Op.buildSlice 22 1 #[(0, Go.Operand.tmp 76)], type := 22, pos := "l3_prog.go:286", after := #[{ on := 6, ground := Go.Ground.data }], guard := none }) rfl (fun K hK => ?_) AllReady.nil)
    · go_simp
      refine hK _ _ ?_
      clear hK K
      (try simp only [Act.put, List.setIfInBounds_toArray, List.set_cons_zero, List.set_cons_succ])
      refine wpAny_ready (rs := [7]) (by kernel_rfl) (by simp) ?_
      refine AllReady.cons (o := { dst := some 77, op := Go.Op.buildSlice 22 1 #[(0, Go.Operand.tmp 76)], type := 22, pos := "l3_prog.go:286", after := #[{ on := 6, ground := Go.Ground.data }], guard := none }) rfl (fun K hK => ?_) AllReady.nil
      go_simp
      refine hK _ _ ?_
      clear hK K
      (try simp only [Act.put, List.setIfInBounds_toArray, List.set_cons_zero, List.set_cons_succ])
      refine wpAny_ready (rs := [8]) (by kernel_rfl) (by simp) ?_
      refine AllReady.cons (o := { dst := some 78, op := Go.Op.call { callee := Go.Callee.builtin Go.Builtin.append, args := #[Go.Operand.tmp 74, Go.Operand.tmp 77], argTypes := #[22, 22] }, type := 22, pos := "l3_prog.go:286", after := #[{ on := 4, ground := Go.Ground.data }, { on := 7, ground := Go.Ground.data }, { on := 6, ground := Go.Ground.chain }], guard := none }) rfl (fun K hK => ?_) AllReady.nil
      refine step_append_int rfl (.tmp 74) (.tmp 77) rfl (w.heap.size + 1) (.slice A2 n2 e2) xs (by simp [Act.eval]) (hn6.alloc _) (by simp; omega) w6.heap.size q (by simp [Act.eval]) (by simp) (by omega) ?_
      intro v8 w8 hn8 hor8
      have hSF : Side w gc A n c (T + 2) gp v w8 ∧ Fns w8 (w.heap.size + 1) 1 v fs := turned hor8 (hS6.below ((Below.refl _ w6).alloc (Nat.le_refl _) _)) (hF6.below ((Below.refl _ w6).alloc (Nat.le_refl _) _))
      obtain ⟨x8, _, _, _, _, r3, _, rf, ⟨ce8, ht8⟩, hB8⟩ := hSF.2.stAt hf hs hj
      have rf3 := rf (j * 5 + 3)
      have HF9 := put (hSF.2.writeW ht8 j 3 (by omega) v8 (set_then hn8 (by simp; omega)))
      have HS9 := put (hSF.1.set ht8 (by decide) hB8 (j * 5 + 3) v8)
      obtain ⟨A8, m8, c8, hv8⟩ : ∃ A8 m8 c8, v8 = .slice A8 m8 c8 := by obtain ⟨A, c, h, _⟩ := hn8.reads; exact ⟨A, _, c, h⟩
      subst hv8
      generalize x8.v2 = o8 at r3
      clear hn8 hor8 hSF rf ht8
      refine hK _ _ ?_
      clear hK K
      (try simp only [Act.put, List.setIfInBounds_toArray, List.set_cons_zero, List.set_cons_succ])
      refine wpAny_ready (rs := [9]) (by kernel_rfl) (by simp) ?_
      refine AllReady.cons (o := { dst := some 79, op := Go.Op.nilCheck (Go.Operand.tmp 70), type := 0, pos := "l3_prog.go:286", after := #[{ on := 0, ground := Go.Ground.data }, { on := 0, ground := Go.Ground.phase }, { on := 1, ground := Go.Ground.phase }, { on := 2, ground := Go.Ground.phase }, { on := 3, ground := Go.Ground.phase }, { on := 4, ground := Go.Ground.phase }, { on := 5, ground := Go.Ground.phase }, { on := 6, ground := Go.Ground.phase }, { on := 7, ground := Go.Ground.phase }, { on := 8, ground := Go.Ground.phase }], guard := none }) rfl (fun K hK => ?_) AllReady.nil
      go_simp
      refine hK _ _ ?_
      clear hK K
      (try simp only [Act.put, List.setIfInBounds_toArray, List.set_cons_zero, List.set_cons_succ])
      refine wpAny_ready (rs := [10]) (by kernel_rfl) (by simp) ?_
      refine AllReady.cons (o := { dst := some 80, op := Go.Op.fieldAddr 106 (Go.Operand.tmp 79) 3, type := 0, pos := "l3_prog.go:286", after := #[{ on := 9, ground := Go.Ground.data }, { on := 0, ground := Go.Ground.phase }, { on := 1, ground := Go.Ground.phase }, { on := 2, ground := Go.Ground.phase }, { on := 3, ground := Go.Ground.phase }, { on := 4, ground := Go.Ground.phase }, { on := 5, ground := Go.Ground.phase }, { on := 6, ground := Go.Ground.phase }, { on := 7, ground := Go.Ground.phase }, { on := 8, ground := Go.Ground.phase }], guard := none }) rfl (fun K hK => ?_) AllReady.nil
      go_simp
      refine hK _ _ ?_
      clear hK K
      (try simp only [Act.put, List.setIfInBounds_toArray, List.set_cons_zero, List.set_cons_succ])
      refine wpAny_ready (rs := [11]) (by kernel_rfl) (by simp) ?_
      refine AllReady.cons (o := { dst := none, op := Go.Op.store 22 (Go.Operand.tmp 80) (Go.Operand.tmp 78), type := 0, pos := "l3_prog.go:286", after := #[{ on := 10, ground := Go.Ground.data }, { on := 8, ground := Go.Ground.data }, { on := 8, ground := Go.Ground.chain }, { on := 0, ground := Go.Ground.phase }, { on := 1, ground := Go.Ground.phase }, { on := 2, ground := Go.Ground.phase }, { on := 3, ground := Go.Ground.phase }, { on := 4, ground := Go.Ground.phase }, { on := 5, ground := Go.Ground.phase }, { on := 6, ground := Go.Ground.phase }, { on := 7, ground := Go.Ground.phase }, { on := 8, ground := Go.Ground.phase }], guard := none }) rfl (fun K hK => ?_) AllReady.nil
      go_simp
      refine hK _ _ ?_
      clear hK K
      (try simp only [Act.put, List.setIfInBounds_toArray, List.set_cons_zero, List.set_cons_succ])
      refine wpAny_done (by kernel_rfl) ?_ _
      refine NoPanic.normal ?_
      exact HK.out _ _ _ _ _ _ _ _ _ _ _ _ HF9.out HS9.out
    · go_simp
      refine hK _ _ ?_
      clear hK K
      (try simp only [Act.put, List.setIfInBounds_toArray, List.set_cons_zero, List.set_cons_succ])
      refine wpAny_ready (rs := [4]) (by kernel_rfl) (by simp) ?_
      refine AllReady.cons (o := { dst := some 74, op := Go.Op.load 22 (Go.Operand.tmp 73), type := 22, pos := "l3_prog.go:286", after := #[{ on := 3, ground := Go.Ground.data }], guard := none }) rfl (fun K hK => ?_) AllReady.nil
      go_simp
      refine hK _ _ ?_
      clear hK K
      (try simp only [Act.put, List.setIfInBounds_toArray, List.set_cons_zero, List.set_cons_succ])
      refine wpAny_ready (rs := [8]) (by kernel_rfl) (by simp) ?_
      refine AllReady.cons (o := { dst := some 78, op := Go.Op.call { callee := Go.Callee.builtin Go.Builtin.append, args := #[Go.Operand.tmp 74, Go.Operand.tmp 77], argTypes := #[22, 22] }, type := 22, pos := "l3_prog.go:286", after := #[{ on := 4, ground := Go.Ground.data }, { on := 7, ground := Go.Ground.data }, { on := 6, ground := Go.Ground.chain }], guard := none }) rfl (fun K hK => ?_) AllReady.nil
      refine step_append_int rfl (.tmp 74) (.tmp 77) rfl (w.heap.size + 1) (.slice A2 n2 e2) xs (by simp [Act.eval]) (hn6.alloc _) (by simp; omega) w6.heap.size q (by simp [Act.eval]) (by simp) (by omega) ?_
      intro v8 w8 hn8 hor8
      have hSF : Side w gc A n c (T + 2) gp v w8 ∧ Fns w8 (w.heap.size + 1) 1 v fs := turned hor8 (hS6.below ((Below.refl _ w6).alloc (Nat.le_refl _) _)) (hF6.below ((Below.refl _ w6).alloc (Nat.le_refl _) _))
      obtain ⟨x8, _, _, _, _, r3, _, rf, ⟨ce8, ht8⟩, hB8⟩ := hSF.2.stAt hf hs hj
      have rf3 := rf (j * 5 + 3)
      have HF9 := put (hSF.2.writeW ht8 j 3 (by omega) v8 (set_then hn8 (by simp; omega)))
      have HS9 := put (hSF.1.set ht8 (by decide) hB8 (j * 5 + 3) v8)
      obtain ⟨A8, m8, c8, hv8⟩ : ∃ A8 m8 c8, v8 = .slice A8 m8 c8 := by obtain ⟨A, c, h, _⟩ := hn8.reads; exact ⟨A, _, c, h⟩
      subst hv8
      generalize x8.v2 = o8 at r3
      clear hn8 hor8 hSF rf ht8
      refine hK _ _ ?_
      clear hK K
      (try simp only [Act.put, List.setIfInBounds_toArray, List.set_cons_zero, List.set_cons_succ])
      refine wpAny_ready (rs := [9]) (by kernel_rfl) (by simp) ?_
      refine AllReady.cons (o := { dst := some 79, op := Go.Op.nilCheck (Go.Operand.tmp 70), type := 0, pos := "l3_prog.go:286", after := #[{ on := 0, ground := Go.Ground.data }, { on := 0, ground := Go.Ground.phase }, { on := 1, ground := Go.Ground.phase }, { on := 2, ground := Go.Ground.phase }, { on := 3, ground := Go.Ground.phase }, { on := 4, ground := Go.Ground.phase }, { on := 5, ground := Go.Ground.phase }, { on := 6, ground := Go.Ground.phase }, { on := 7, ground := Go.Ground.phase }, { on := 8, ground := Go.Ground.phase }], guard := none }) rfl (fun K hK => ?_) AllReady.nil
      go_simp
      refine hK _ _ ?_
      clear hK K
      (try simp only [Act.put, List.setIfInBounds_toArray, List.set_cons_zero, List.set_cons_succ])
      refine wpAny_ready (rs := [10]) (by kernel_rfl) (by simp) ?_
      refine AllReady.cons (o := { dst := some 80, op := Go.Op.fieldAddr 106 (Go.Operand.tmp 79) 3, type := 0, pos := "l3_prog.go:286", after := #[{ on := 9, ground := Go.Ground.data }, { on := 0, ground := Go.Ground.phase }, { on := 1, ground := Go.Ground.phase }, { on := 2, ground := Go.Ground.phase }, { on := 3, ground := Go.Ground.phase }, { on := 4, ground := Go.Ground.phase }, { on := 5, ground := Go.Ground.phase }, { on := 6, ground := Go.Ground.phase }, { on := 7, ground := Go.Ground.phase }, { on := 8, ground := Go.Ground.phase }], guard := none }) rfl (fun K hK => ?_) AllReady.nil
      go_simp
      refine hK _ _ ?_
      clear hK K
      (try simp only [Act.put, List.setIfInBounds_toArray, List.set_cons_zero, List.set_cons_succ])
      refine wpAny_ready (rs := [11]) (by kernel_rfl) (by simp) ?_
      refine AllReady.cons (o := { dst := none, op := Go.Op.store 22 (Go.Operand.tmp 80) (Go.Operand.tmp 78), type := 0, pos := "l3_prog.go:286", after := #[{ on := 10, ground := Go.Ground.data }, { on := 8, ground := Go.Ground.data }, { on := 8, ground := Go.Ground.chain }, { on := 0, ground := Go.Ground.phase }, { on := 1, ground := Go.Ground.phase }, { on := 2, ground := Go.Ground.phase }, { on := 3, ground := Go.Ground.phase }, { on := 4, ground := Go.Ground.phase }, { on := 5, ground := Go.Ground.phase }, { on := 6, ground := Go.Ground.phase }, { on := 7, ground := Go.Ground.phase }, { on := 8, ground := Go.Ground.phase }], guard := none }) rfl (fun K hK => ?_) AllReady.nil
      go_simp
      refine hK _ _ ?_
      clear hK K
      (try simp only [Act.put, List.setIfInBounds_toArray, List.set_cons_zero, List.set_cons_succ])
      refine wpAny_done (by kernel_rfl) ?_ _
      refine NoPanic.normal ?_
      exact HK.out _ _ _ _ _ _ _ _ _ _ _ _ HF9.out HS9.out

end Go.Proofs.Ytfdijeeilfhjeaa
namespace Go.Proofs.Ytfdijeeilfhjeaa
open Go.RowKit Exs

section
variable {w : World} {B : Nat} {v : Value} {fs : List C4}
theorem Fns.shapeAt (h : Fns w B 1 v fs) {f : C4} (hf : f ∈ fs) : ∃ gB mb db AS ms dS, f = ⟨f.p, f.v, .slice (some ⟨gB, 0, none⟩) mb db, .slice AS ms dS⟩ ∧ 1 ≤ mb := by
  obtain ⟨⟨xs, h1, l0, l1⟩, es, h2, l2⟩ := h.leads f hf
  obtain ⟨A2, d2, e2⟩ := h2.slice
  rcases h1.2 with ⟨_, h0⟩ | ⟨g, cap, cur, e1, _⟩
  · omega
  · exact ⟨g, _, cap, A2, _, d2, by rw [← e1, ← e2], l0⟩
theorem Fns.sLen (h : Fns w B 1 v fs) {p u : Int} {b : Value} {AS : Option Addr} {ms dS : Nat} (hf : (⟨p, u, b, .slice AS ms dS⟩ : C4) ∈ fs) : ms ≤ 100 := by
  obtain ⟨_, es, h2, l2⟩ := h.leads _ hf
  obtain ⟨A2, d2, e2⟩ := h2.slice
  injection e2 with _ e _
  omega
theorem Fns.sSome (h : Fns w B 1 v fs) {p u : Int} {b : Value} {AS : Option Addr} {ms dS : Nat} (hf : (⟨p, u, b, .slice AS ms dS⟩ : C4) ∈ fs) (hm : 0 < ms) : ∃ gS, AS = some ⟨gS, 0, none⟩ := by
  obtain ⟨_, es, h2, l2⟩ := h.leads _ hf
  rcases h2.shape with ⟨e, _⟩ | ⟨g, c, e⟩
  · injection e with _ e _; omega
  · injection e with e _ _; exact ⟨g, e⟩
theorem Fns.bLen (h : Fns w B 1 v fs) {p u : Int} {gB mb db : Nat} {t : Value} (hf : (⟨p, u, .slice (some ⟨gB, 0, none⟩) mb db, t⟩ : C4) ∈ fs) : mb ≤ db := by
  obtain ⟨⟨xs, h1, l0, l1⟩, _⟩ := h.leads _ hf
  rcases h1.2 with ⟨e, h0⟩ | ⟨g, cap, cur, e1, _, _, h3, _⟩
  · cases e
  · injection e1 with _ e2 e3
    omega
theorem Fns.bodyCut (h : Fns w B 1 v fs) {p u : Int} {gB mb db : Nat} {t : Value} (hf : (⟨p, u, .slice (some ⟨gB, 0, none⟩) mb db, t⟩ : C4) ∈ fs) (hm : 1 ≤ mb) : BodyOf w B (.slice (some ⟨gB, 1, none⟩) (mb - 1) (db - 1)) := by
  obtain ⟨⟨xs, h1, l0, l1⟩, _⟩ := h.leads _ hf
  exact .inl ⟨_, xs, h1, l1, .inr ⟨gB, mb - 1, db, db - 1, by rw [Nat.sub_add_cancel hm], rfl⟩⟩
theorem Fns.sCell {gF n d i : Nat} {f : C4} (h : Fns w B 1 (.slice (some ⟨gF, 0, none⟩) n d) fs) (hf : fs[i]? = some f) : w.cell? ⟨gF, i * 4 + 3, none⟩ = some f.s := by
  obtain ⟨f', hf', _, _, _, q3, _⟩ := h.at_ (List.getElem?_eq_some_iff.1 hf).1
  rw [hf] at hf'
  injection hf' with e
  rw [e]; exact q3
end

set_option maxHeartbeats 4000000 in
set_option maxRecDepth 100000 in
theorem anyProg_any (gc : Nat) (A : Option Addr) (n c T : Nat) (w : World) (hc : Cur w gc A n c T) (hT : T ≤ 299000) :
    Calls Try.prog 68 #[.pointer (some ⟨gc, 0, none⟩)] w (GivesR gc A n c (T + 250020) w) := by
  have HGC := put hc.lt
  have hcW := hc.alloc (.cells #[.slice none 0 0] 44)
  have hkW := Keep.new w #[.slice none 0 0] 44
  have hxW : KeptX (fun k => k = gc) w (w.alloc (.cells #[.slice none 0 0] 44)) := (KeptX.refl _ w).alloc _
  have HSW := put (show (w.alloc (.cells #[.slice none 0 0] 44)).heap.size = w.heap.size + 1 by simp)
  go_enter Try.func68, Try.ntmps68
  go_wp2_with fail
  generalize w.alloc (.cells #[.slice none 0 0] 44) = W0 at hcW hkW hxW HSW ⊢
  refine (program_any gc A n c T _ hcW (by omega)).mono ?_
  rintro e w1 ⟨v, fs, rfl, hf1, h1, h5, hc1, hg1⟩
  rw [HSW.out] at hf1
  have hx0 : KeptX (fun k => k = gc) W0 w1 := KeptX.of_grownBy hg1 (fun k e => by injection e with e; exact e.symm)
  have hk1 : Keep w1 w.heap.size #[.slice none 0 0] 44 := hx0.keep hkW (by have := HGC.out; omega)
  have hl1 := hk1.lt
  obtain ⟨gF, dF, hv⟩ : ∃ g d, v = .slice (some ⟨g, 0, none⟩) fs.length d := by
    rcases hf1.shape with ⟨_, h⟩ | h
    · rw [h] at h1; simp at h1
    · exact h
  subst hv
  have hS : Side w gc A n c (T + 250002) w1.heap.size (.slice (some ⟨gF, 0, none⟩) fs.length dF) (w1.alloc (.cells #[.slice (some ⟨gF, 0, none⟩) fs.length dF] 44)) :=
    ⟨hc1.alloc _, hk1.alloc _, Keep.new _ _ _, (hxW.trans hx0).alloc _, hl1, HGC.out⟩
  have hF := hf1.below ((Below.refl _ w1).alloc (Nat.le_refl _) (.cells #[.slice (some ⟨gF, 0, none⟩) fs.length dF] 44))
  clear hcW hkW hxW hx0 hg1 hc1 hk1 hf1
  go_wp2
  generalize w1.alloc (.cells #[.slice (some ⟨gF, 0, none⟩) fs.length dF] 44) = w2 at hS hF ⊢
  generalize w1.heap.size = gp at hS hl1 ⊢
  have hSD := hS.below ((Below.refl _ w2).drew)
  have hFD := hF.below ((Below.refl _ w2).drew)
  have y0 := hS.box.cell 0
  simp only [List.getElem?_toArray, List.getElem?_cons_zero] at y0
  go_region_held3 (fun w' => w'.cell? ⟨gp, 0, none⟩ = some (.slice (some ⟨gF, 0, none⟩) fs.length dF)) (first | (with_reducible exact y0) | (with_reducible exact yA) | exact y0) (first
    | (go_at_call 69; refine (pick_any gc A n c _ (fs.length : Int) _ hSD.cur (by omega) (by omega) (by omega)).mono ?_; rintro e wA ⟨qA, hA0, hA1, rfl, hcA, hgA⟩; have hSA := hSD.cursor hgA hcA; have hFA := hFD.cursor hSD.cur (by have := HGC.out; omega) hgA; have yA := hSA.box.cell 0; simp only [List.getElem?_toArray, List.getElem?_cons_zero] at yA; obtain ⟨i, rfl⟩ := Int.eq_ofNat_of_zero_le hA0; have hiF : i < fs.length := (by omega); clear hcA hgA))
  all_goals (
    clear hS hF hSD hFD y0
    obtain ⟨f, hfi, q0, q1, q2, q3, qf⟩ := hFA.at_ hiF
    have hfm := List.mem_of_getElem? hfi
    obtain ⟨gB, mb, db, AS, ms, dS, ef, hmb⟩ := hFA.shapeAt hfm
    generalize f.p = pf at ef
    generalize f.v = vf at ef
    subst ef
    go_upto_if 21 with fail
    go_cut [] (fun wx => ∃ gs, FnsR wx (w.heap.size + 1) (.slice (some ⟨gF, 0, none⟩) fs.length dF) gs ∧ gs.length = fs.length ∧ Side w gc A n c (T + 250020) gp (.slice (some ⟨gF, 0, none⟩) fs.length dF) wx)
    case first =>
      rcases Nat.eq_zero_or_pos ms with hm0 | hmp
      · subst hm0
        go_wp2
        go_meet
        exact ⟨fs, hFA.toR, rfl, hSA.more (by omega)⟩
      · obtain ⟨gS, rfl⟩ := hFA.sSome hfm hmp
        have hmS : ms ≤ 100 := hFA.sLen hfm
        have hSD := hSA.below ((Below.refl _ wA).drew)
        have hFD := hFA.below ((Below.refl _ wA).drew)
        go_wp2
        go_region_held3 (fun w' => w'.cell? ⟨gF, i * 4 + 3, none⟩ = some (.slice (some ⟨gS, 0, none⟩) ms dS)) (first | (with_reducible exact q3) | (with_reducible exact yB) | exact q3) (first
          | (go_at_call 69; refine (pick_any gc A n c _ (ms : Int) _ hSD.cur (by omega) (by omega) (by omega)).mono ?_; rintro e wB ⟨qB, hB0, hB1, rfl, hcB, hgB⟩; have hSB := hSD.cursor hgB hcB; have hFB := hFD.cursor hSD.cur (by have := HGC.out; omega) hgB; have yB := hFB.sCell hfi; obtain ⟨j, rfl⟩ := Int.eq_ofNat_of_zero_le hB0; have hjS : j < ms := (by omega); clear hcB hgB))
        all_goals (
          clear hSD hFD q0 q1 q2 q3 qf yA hSA hFA
          go_wp2_with fail
          refine (pick_any gc A n c _ 40 _ hSB.cur (by omega) (by omega) (by omega)).mono ?_
          rintro e wC ⟨qC, hqC0, hqC1, rfl, hcC, hgC⟩
          have hSC := hSB.cursor hgC hcC
          have hFC := hFB.cursor hSB.cur (by have := HGC.out; omega) hgC
          clear hcC hgC
          clear hSB hFB yB
          by_cases k0 : qC = 0
          · subst k0
            go_wp2_with fail
            refine (pick_any gc A n c _ 11 _ hSC.cur (by omega) (by omega) (by omega)).mono ?_
            rintro e wD ⟨qD, hqD0, hqD1, rfl, hcD, hgD⟩
            have hSD := hSC.cursor hgD hcD
            have hFD := hFC.cursor hSC.cur (by have := HGC.out; omega) hgD
            clear hcD hgD
            obtain ⟨x, _, z0, _, _, _, _, zf, ⟨ce, ht⟩, hBS⟩ := hFD.stAt hfm rfl hjS
            have zf0 := zf (j * 5)
            have HF := put ((hFD.write ht j 0 (by omega) (.int .i64 qD) (set_int 0 (by omega) qD)).toR)
            have HS := put (hSD.set ht (by decide) hBS (j * 5) (.int .i64 qD))
            clear hFD hSD zf ht
            go_wp2
            go_meet
            exact ⟨fs, HF.out, rfl, HS.out.more (by omega)⟩
          · have k0' := beq_of k0
            by_cases k1 : qC = 1
            · subst k1
              go_wp2_with fail
              refine (pick_any gc A n c _ 7 _ hSC.cur (by omega) (by omega) (by omega)).mono ?_
              rintro e wD ⟨qD, hqD0, hqD1, rfl, hcD, hgD⟩
              have hSD := hSC.cursor hgD hcD
              have hFD := hFC.cursor hSC.cur (by have := HGC.out; omega) hgD
              clear hcD hgD
              obtain ⟨x, _, _, z1, _, _, _, zf, ⟨ce, ht⟩, hBS⟩ := hFD.stAt hfm rfl hjS
              have zf1 := zf (j * 5 + 1)
              have hw1 : IntKind.i64.wrap (qD - 1) = qD - 1 := IntWalk.i64_in _ ⟨by omega, by omega⟩
              have HF := put ((hFD.write ht j 1 (by omega) (.int .i64 (qD - 1)) (set_int 1 (by omega) (qD - 1))).toR)
              have HS := put (hSD.set ht (by decide) hBS (j * 5 + 1) (.int .i64 (qD - 1)))
              clear hFD hSD zf ht
              go_wp2
              go_meet
              exact ⟨fs, HF.out, rfl, HS.out.more (by omega)⟩
            · have k1' := beq_of k1
              by_cases k2 : qC = 2
              · subst k2
                go_wp2_with fail
                refine (pick_any gc A n c _ 8 _ hSC.cur (by omega) (by omega) (by omega)).mono ?_
                rintro e wD ⟨qD, hqD0, hqD1, rfl, hcD, hgD⟩
                have hSD := hSC.cursor hgD hcD
                have hFD := hFC.cursor hSC.cur (by have := HGC.out; omega) hgD
                clear hcD hgD
                obtain ⟨f', hf', _, z1, _, _, zf⟩ := hFD.at_ hiF
                obtain rfl : f' = ⟨pf, vf, .slice (some ⟨gB, 0, none⟩) mb db, .slice (some ⟨gS, 0, none⟩) ms dS⟩ := by rw [hfi] at hf'; injection hf' with hf'; exact hf'.symm
                have zf1 := zf (i * 4 + 1)
                obtain ⟨ceF, htF⟩ := hFD.tag (k := gF) rfl
                have hBF := (World.ownsRow.lt hFD.own gF rfl).1
                have HF := put (hFD.toR.write (i := 1) (c' := ⟨pf, qD, .slice (some ⟨gB, 0, none⟩) mb db, .slice (some ⟨gS, 0, none⟩) ms dS⟩) (by omega) hfi (.int .i64 qD) rfl (hFD.toR.leads _ hfm).1 rfl)
                have HS := put (hSD.set htF (by decide) hBF (i * 4 + 1) (.int .i64 qD))
                clear hFD hSD zf htF hf'
                go_wp2
                go_meet
                exact ⟨_, HF.out, by simp, HS.out.more (by omega)⟩
              · have k2' := beq_of k2
                by_cases k3 : qC = 3
                · subst k3
                  obtain ⟨f', hf', _, _, z2, _, zf⟩ := hFC.at_ hiF
                  obtain rfl : f' = ⟨pf, vf, .slice (some ⟨gB, 0, none⟩) mb db, .slice (some ⟨gS, 0, none⟩) ms dS⟩ := by rw [hfi] at hf'; injection hf' with hf'; exact hf'.symm
                  have zf2 := zf (i * 4 + 2)
                  obtain ⟨ceF, htF⟩ := hFC.tag (k := gF) rfl
                  have hBF := (World.ownsRow.lt hFC.own gF rfl).1
                  have hmd := hFC.bLen hfm
                  have i1 : (1 : Int) ≤ (mb : Int) := by omega
                  have i2 : (mb : Int) ≤ (db : Int) := by omega
                  have i3 : (1 : Int) ≤ (db : Int) := by omega
                  by_cases hd1 : db = 1
                  · obtain rfl : mb = 1 := by omega
                    subst hd1
                    have HF := put (hFC.toR.write (i := 2) (c' := ⟨pf, vf, .slice (some ⟨gB, 0, none⟩) 0 0, .slice (some ⟨gS, 0, none⟩) ms dS⟩) (by omega) hfi (.slice (some ⟨gB, 0, none⟩) 0 0) rfl (.inr ⟨_, _, rfl⟩) rfl)
                    have HS := put (hSC.set htF (by decide) hBF (i * 4 + 2) (.slice (some ⟨gB, 0, none⟩) 0 0))
                    clear hFC hSC zf htF hf'
                    go_wp2
                    go_meet
                    exact ⟨_, HF.out, by simp, HS.out.more (by omega)⟩
                  · have HF := put (hFC.toR.write (i := 2) (c' := ⟨pf, vf, .slice (some ⟨gB, 1, none⟩) (mb - 1) (db - 1), .slice (some ⟨gS, 0, none⟩) ms dS⟩) (by omega) hfi (.slice (some ⟨gB, 1, none⟩) (mb - 1) (db - 1)) rfl (hFC.bodyCut hfm hmb) rfl)
                    have HS := put (hSC.set htF (by decide) hBF (i * 4 + 2) (.slice (some ⟨gB, 1, none⟩) (mb - 1) (db - 1)))
                    have hd2 : ¬ db - 1 = 0 := by omega
                    clear hFC hSC zf htF hf'
                    go_wp2
                    go_meet
                    exact ⟨_, HF.out, by simp, HS.out.more (by omega)⟩
                · have k3' := beq_of k3
                  by_cases k4 : qC = 4
                  · subst k4
                    go_wp2
                    refine seg37 (by omega) hfm rfl hjS hSC hFC (put ?_)
                    intro _ _ _ _ _ _ _ _ _ _ _ wx hR hX
                    go_wp2
                    go_meet
                    exact ⟨fs, hR, rfl, hX.more (by omega)⟩
                  · have k4' := beq_of k4
                    go_wp2
                    go_meet
                    exact ⟨fs, hFC.toR, rfl, hSC.more (by omega)⟩)
    case rest =>
      obtain ⟨gs, hR, hlen, hX⟩ := hcut
      have x0 := hX.box.cell 0
      have r0 := hX.res.cell 0
      have rf := hX.res.frozen 0
      simp only [List.getElem?_toArray, List.getElem?_cons_zero] at x0 r0
      have HD := put (hX.done hR (by omega) (by omega))
      have q0 := (hX.res.set 0 (.slice (some ⟨gF, 0, none⟩) fs.length dF)).cell 0
      simp only [List.setIfInBounds_toArray, List.set_cons_zero, List.getElem?_toArray, List.getElem?_cons_zero] at q0
      have HQ := put q0
      clear hX hR hFA hSA q0
      go_wp2
      generalize wc.setCell ⟨w.heap.size, 0, none⟩ (.slice (some ⟨gF, 0, none⟩) fs.length dF) = WF at HD HQ ⊢
      exact bodyPost_ret (v := .agg #[(.slice (some ⟨gF, 0, none⟩) fs.length dF)]) (by have q1 := HQ.out; simp [results, Try.results68, go_sem, q1]) rfl HD.out)

end Go.Proofs.Ytfdijeeilfhjeaa
namespace Go.Proofs.Ytfdijeeilfhjeaa
open Go.RowKit Exs

/-- While the answer is made of a drawn program. -/
structure DSt (w : World) (gc : Nat) (A : Option Addr) (n c T gp B : Nat) (v : Value) (fs : List C4) (rc : Array Value) (rt : TypeId) (wr : World) : Prop where
  cur : Cur wr gc A n c T
  res : Keep wr w.heap.size rc rt
  box : Keep wr gp #[v] 44
  fns : FnsR wr B v fs
  bel : Below w.heap.size w wr
  hgc : w.heap.size < gc
  hgB : gc < B
  hgp : w.heap.size < gp
  hpc : gp ≠ gc
section
variable {w : World} {gc : Nat} {A : Option Addr} {n c T T' gp B : Nat} {v : Value} {fs : List C4} {rc : Array Value} {rt : TypeId} {wr w' : World}
theorem DSt.cursor (h : DSt w gc A n c T gp B v fs rc rt wr) (hg : wr.grownBy w' (some gc)) (hc : Cur w' gc A n c T') : DSt w gc A n c T' gp B v fs rc rt w' := by
  have hk : KeptX (fun k => k = gc) wr w' := KeptX.of_grownBy hg (fun k e => by injection e with e; exact e.symm)
  have htag : ∀ k ds t fz, k = gc → wr.heap[k]? = some (.cells ds t fz) → t = 100 := by
    rintro k ds t fz rfl hh
    obtain ⟨_, _, _, hg', _⟩ := h.cur
    rw [hg'] at hh; injection hh with hh; injection hh with _ hh _
    exact hh.symm
  have h1 := h.hgc
  have h2 := h.hgB
  exact ⟨hc, hk.keep h.res (by omega), hk.keep h.box h.hpc, h.fns.keptX hk (fun k ds t fz hx hh => by rw [htag k ds t fz hx hh]; exact ⟨by decide, by decide⟩) (fun k ds t fz hx hh => by rw [htag k ds t fz hx hh]; decide) (fun g hg' e => by have := (World.ownsRow.lt h.fns.own g hg').1; omega), h.bel.grown hg h.bel.size (fun k hk' => by injection hk' with e; omega), h1, h2, h.hgp, h.hpc⟩
theorem DSt.below (h : DSt w gc A n c T gp B v fs rc rt wr) (hb : Below wr.heap.size wr w') : DSt w gc A n c T gp B v fs rc rt w' := by
  have hk : KeptX (fun _ => False) wr w' := ⟨hb.os, hb.tape, hb.output, hb.size, fun k hk _ => hb.block k hk⟩
  exact ⟨h.cur.below hb h.cur.lt, h.res.below hb, h.box.below hb, h.fns.keptX hk (fun _ _ _ _ hx => hx.elim) (fun _ _ _ _ hx => hx.elim) (fun _ _ x => x), h.bel.trans (hb.mono h.bel.size), h.hgc, h.hgB, h.hgp, h.hpc⟩
/-- The beginning. -/
theorem DSt.start {W0 w1 : World} (hW : Below w.heap.size w W0) (hsz : W0.heap.size = w.heap.size + 1) (hr : Keep W0 w.heap.size rc rt) {o : Obj} (hf : FnsR w1 ((W0.alloc o).heap.size + 1) v fs) (hc : Cur w1 (w.heap.size + 1) A n c T) (hg : (W0.alloc o).grownBy w1 (some (w.heap.size + 1))) :
    DSt w (w.heap.size + 1) A n c T w1.heap.size (w.heap.size + 1 + 1) v fs rc rt (w1.alloc (.cells #[v] 44)) := by
  rw [← hsz] at hc hg ⊢
  have hb := below_of_cur hg
  have hlt := hc.lt
  have hf' : FnsR w1 (W0.heap.size + 1) v fs := by
    have hs : W0.heap.size + 1 ≤ (W0.alloc o).heap.size + 1 := by rw [World.size_alloc]; omega
    refine ⟨row_more hf.own hs, fun x hx => ?_⟩
    obtain ⟨h1, es, h2, l2⟩ := hf.leads x hx
    refine ⟨?_, es, ⟨row_more h2.own hs, fun y hy => ?_⟩, l2⟩
    · rcases h1 with ⟨u, xs, h3, h4⟩ | h1
      · exact .inl ⟨u, xs, row_more h3 hs, h4⟩
      · exact .inr h1
    · obtain ⟨⟨ts, h3, l3⟩, ⟨xs, h4, l4⟩, ys, h5, l5⟩ := h2.leads y hy
      exact ⟨⟨ts, row_more h3 hs, l3⟩, ⟨xs, row_more h4 hs, l4⟩, ys, row_more h5 hs, l5⟩
  have hk : KeptX (fun _ => False) w1 (w1.alloc (.cells #[v] 44)) := (KeptX.refl _ w1).alloc _
  exact ⟨hc.alloc _, (hr.below hb).alloc _, Keep.new _ _ _, hf'.keptX hk (fun _ _ _ _ hx => hx.elim) (fun _ _ _ _ hx => hx.elim) (fun _ _ x => x), (hW.trans (hb.mono (by omega))).alloc (by have := hb.size; omega) _, by omega, by omega, by omega, by omega⟩
end
/-- While the answer is written. -/
structure ESt (w : World) (gp B : Nat) (v : Value) (fs : List C4) (rc : Array Value) (rt : TypeId) (wr : World) : Prop where
  res : Keep wr w.heap.size rc rt
  box : Keep wr gp #[v] 44
  fns : FnsR wr B v fs
  bel : Below w.heap.size w wr
  hB : w.heap.size < B
  hgp : w.heap.size < gp
section
variable {w : World} {gc : Nat} {A : Option Addr} {n c T gp B : Nat} {v : Value} {fs : List C4} {rc : Array Value} {rt : TypeId} {wr : World}
theorem DSt.toE (h : DSt w gc A n c T gp B v fs rc rt wr) : ESt w gp B v fs rc rt wr := ⟨h.res, h.box, h.fns, h.bel, by have := h.hgc; have := h.hgB; omega, h.hgp⟩
/-- The result's variable is written. -/
theorem ESt.put (h : ESt w gp B v fs rc rt wr) (h3 : rt ≠ 3) (h72 : rt ≠ 107) (h70 : rt ≠ 106) (k : Nat) (u : Value) : ESt w gp B v fs (rc.setIfInBounds k u) rt (wr.setCell ⟨w.heap.size, k, none⟩ u) := by
  have hS := setX wr w.heap.size k u
  have hr := h.res
  unfold Keep at hr
  have h1 := h.hB
  have h4 := h.hgp
  exact ⟨h.res.set k u, hS.keep h.box (by omega), h.fns.keptX hS (TagX.of hr h3 h72) (fun j ds t fz hx hh => by
    subst hx
    rw [hr] at hh; injection hh with hh; injection hh with _ hh _
    subst hh
    exact h70) (fun g hg e => by have := (World.ownsRow.lt h.fns.own g hg).1; omega), h.bel.setCell (p := ⟨w.heap.size, k, none⟩) (Nat.le_refl _) u, h1, h4⟩
end

/-- What the drawing of a program and of a number gives. -/
def GivesC (w : World) (e : Ending) (w' : World) : Prop :=
  ∃ (Af : Option Addr) (d : Nat) (fs : List Fc) (fn : Int), e = .returned (.tuple #[.agg #[.slice Af fs.length d], .int .i64 fn]) ∧ ReadsF w' w'.heap.size Af fs.length fs ∧ SmallP fs ∧ Below w.heap.size w w'

set_option maxHeartbeats 4000000 in
set_option maxRecDepth 100000 in
theorem drawCalls_any (A : Option Addr) (n c : Nat) (bs : List Int) (w : World) (hr : Reads w w.heap.size .u8 A n bs) (hbs : ∀ x ∈ bs, 0 ≤ x ∧ x ≤ 255) (hn : n ≤ 1048576) :
    Calls Try.prog 30 #[.slice A n c] w (GivesC w) := by
  have hbW : Below w.heap.size w (w.alloc (.cells #[.slice none 0 0] 44)) := (Below.refl _ w).alloc (Nat.le_refl _) _
  have hkW := Keep.new w #[.slice none 0 0] 44
  have hsW : (w.alloc (.cells #[.slice none 0 0] 44)).heap.size = w.heap.size + 1 := by simp
  have hrW : Reads (w.alloc (.cells #[.slice none 0 0] 44)) (w.alloc (.cells #[.slice none 0 0] 44)).heap.size .u8 A n bs := (hr.below hbW).more hbW.size
  have hcW := Cur.new (c := c) hrW hbs hn 0
  rw [hsW] at hcW
  clear hr hrW hbs
  go_enter Try.func30, Try.ntmps30
  go_wp2_with fail
  generalize w.alloc (.cells #[.slice none 0 0] 44) = W0 at hbW hkW hsW hcW ⊢
  refine (anyProg_any (w.heap.size + 1) A n c 0 _ hcW (by omega)).mono ?_
  rintro e w1 ⟨v, fs, rfl, hf1, h1, h5, hc1, hg1⟩
  have hD := DSt.start hbW hsW hkW hf1 hc1 hg1
  obtain ⟨gF, dF, hv⟩ : ∃ g d, v = .slice (some ⟨g, 0, none⟩) fs.length d := by
    rcases hf1.shape with ⟨_, h⟩ | h
    · rw [h] at h1; simp at h1
    · exact h
  subst hv
  clear hcW hkW hbW hsW hf1 hc1 hg1
  go_wp2
  generalize w1.alloc (.cells #[.slice (some ⟨gF, 0, none⟩) fs.length dF] 44) = w2 at hD ⊢
  generalize w1.heap.size = gp at hD ⊢
  generalize w.heap.size + 1 = gc at hD ⊢
  have hDD := hD.below ((Below.refl _ w2).drew)
  have y0 := hD.box.cell 0
  simp only [List.getElem?_toArray, List.getElem?_cons_zero] at y0
  have hw1 : IntKind.i64.wrap ((fs.length : Int) + 1) = (fs.length : Int) + 1 := IntWalk.i64_in _ ⟨by omega, by omega⟩
  go_region_held3 (fun w' => w'.cell? ⟨gp, 0, none⟩ = some (.slice (some ⟨gF, 0, none⟩) fs.length dF)) (first | (with_reducible exact y0) | (with_reducible exact yA) | (with_reducible exact yB) | (with_reducible exact yS) | exact y0) (first
    | (go_at_call 69; refine (pick_any gc A n c _ 20 _ hDA.cur (by omega) (by omega) (by omega)).mono ?_; rintro e wB ⟨qB, hB0, hB1, rfl, hcB, hgB⟩; have hDB := hDA.cursor hgB hcB; have yB := hDB.box.cell 0; have r0 := hDB.res.cell 0; have rf := hDB.res.frozen 0; have hE := hDB.toE.put (by decide) (by decide) (by decide) 0 (.slice (some ⟨gF, 0, none⟩) fs.length dF); have yS := hE.box.cell 0; simp only [List.getElem?_toArray, List.getElem?_cons_zero] at yB r0 yS)
    | (go_at_call 69; refine (pick_any gc A n c _ ((fs.length : Int) + 1) _ hDD.cur (by omega) (by omega) (by omega)).mono ?_; rintro e wA ⟨qA, hA0, hA1, rfl, hcA, hgA⟩; have hDA := hDD.cursor hgA hcA; have yA := hDA.box.cell 0; simp only [List.getElem?_toArray, List.getElem?_cons_zero] at yA))
  all_goals (
    have q0 := hE.res.cell 0
    simp only [List.setIfInBounds_toArray, List.set_cons_zero, List.getElem?_toArray, List.getElem?_cons_zero] at q0
    have HQ := put q0
    obtain ⟨Af, d, gs, ev, hR, hsm⟩ := hE.fns.reads
    injection ev with e1 e2 e3
    subst e1 e3
    have hl := hR.1
    have HR := put hR
    have HS := put (show SmallP gs from ⟨by omega, hsm⟩)
    have HB := put hE.bel
    have HL := put hl
    clear hDD y0 hcA hgA hcB hgB hD hDA hDB hE yA yB yS r0 rf q0 hR hsm hl
    generalize IntKind.i64.wrap (qA - IntKind.i64.wrap (qB.tdiv 19)) = fn
    go_wp2
    generalize wB.setCell ⟨w.heap.size, 0, none⟩ (.slice (some ⟨gF, 0, none⟩) fs.length dF) = WF at HR HB HQ ⊢
    exact bodyPost_ret (v := .tuple #[.agg #[.slice (some ⟨gF, 0, none⟩) fs.length dF], .int .i64 fn]) (by have q1 := HQ.out; simp [results, Try.results30, go_sem, q1]) rfl ⟨_, dF, gs, fn, by rw [HL.out], by rw [HL.out]; exact HR.out, HS.out, HB.out⟩)

end Go.Proofs.Ytfdijeeilfhjeaa
namespace Go.Proofs.Ytfdijeeilfhjeaa
open Go.RowKit Exs

theorem FnsR.slices {w : World} {B : Nat} {v : Value} {fs : List C4} (h : FnsR w B v fs) {f : C4} (hf : f ∈ fs) : ∃ Ab mb db As ms ds, f = ⟨f.p, f.v, .slice Ab mb db, .slice As ms ds⟩ := by
  obtain ⟨h1, es, h2, _⟩ := h.leads f hf
  obtain ⟨A1, m1, d1, _, e1, _⟩ := h1.reads
  obtain ⟨A2, d2, _, e2, _⟩ := h2.reads
  exact ⟨A1, m1, d1, A2, _, d2, by rw [← e1, ← e2]⟩
/-- What the drawing of a function gives. -/
def GivesF (w : World) (e : Ending) (w' : World) : Prop :=
  ∃ (f : Fc) (A1 : Option Addr) (n1 c1 : Nat) (A2 : Option Addr) (n2 c2 : Nat), e = .returned (.agg #[.int .i64 f.params, .int .i64 f.vars, .slice A1 n1 c1, .slice A2 n2 c2]) ∧ IsFc w' w'.heap.size f A1 n1 A2 n2 ∧ SmallF f ∧ Below w.heap.size w w'

set_option maxHeartbeats 4000000 in
set_option maxRecDepth 100000 in
theorem drawSites_any (A : Option Addr) (n c : Nat) (bs : List Int) (w : World) (hr : Reads w w.heap.size .u8 A n bs) (hbs : ∀ x ∈ bs, 0 ≤ x ∧ x ≤ 255) (hn : n ≤ 1048576) :
    Calls Try.prog 41 #[.slice A n c] w (GivesF w) := by
  have hbW : Below w.heap.size w (w.alloc (.cells #[.int .i64 0, .int .i64 0, .slice none 0 0, .slice none 0 0] 58)) := (Below.refl _ w).alloc (Nat.le_refl _) _
  have hkW := Keep.new w #[.int .i64 0, .int .i64 0, .slice none 0 0, .slice none 0 0] 58
  have hsW : (w.alloc (.cells #[.int .i64 0, .int .i64 0, .slice none 0 0, .slice none 0 0] 58)).heap.size = w.heap.size + 1 := by simp
  have hrW : Reads (w.alloc (.cells #[.int .i64 0, .int .i64 0, .slice none 0 0, .slice none 0 0] 58)) (w.alloc (.cells #[.int .i64 0, .int .i64 0, .slice none 0 0, .slice none 0 0] 58)).heap.size .u8 A n bs := (hr.below hbW).more hbW.size
  have hcW := Cur.new (c := c) hrW hbs hn 0
  rw [hsW] at hcW
  clear hr hrW hbs
  go_enter Try.func41, Try.ntmps41
  go_wp2_with fail
  generalize w.alloc (.cells #[.int .i64 0, .int .i64 0, .slice none 0 0, .slice none 0 0] 58) = W0 at hbW hkW hsW hcW ⊢
  refine (anyProg_any (w.heap.size + 1) A n c 0 _ hcW (by omega)).mono ?_
  rintro e w1 ⟨v, fs, rfl, hf1, h1, h5, hc1, hg1⟩
  have hD := DSt.start hbW hsW hkW hf1 hc1 hg1
  obtain ⟨gF, dF, hv⟩ : ∃ g d, v = .slice (some ⟨g, 0, none⟩) fs.length d := by
    rcases hf1.shape with ⟨_, h⟩ | h
    · rw [h] at h1; simp at h1
    · exact h
  subst hv
  clear hcW hkW hbW hsW hf1 hc1 hg1
  go_wp2
  generalize w1.alloc (.cells #[.slice (some ⟨gF, 0, none⟩) fs.length dF] 44) = w2 at hD ⊢
  generalize w1.heap.size = gp at hD ⊢
  generalize w.heap.size + 1 = gc at hD ⊢
  have hDD := hD.below ((Below.refl _ w2).drew)
  have y0 := hD.box.cell 0
  simp only [List.getElem?_toArray, List.getElem?_cons_zero] at y0
  refine wp_region_noPanic ?_
  refine wp_region_any (by kernel_rfl) ?_
  change wpAny _ _ _ _ _ _ _ (World.drew _)
  refine wpAny_take (i := 0) (oi := { dst := some 10, op := Go.Op.fieldAddr 44 (Go.Operand.tmp 4) 0, type := 0, pos := "l3_prog.go:302", after := #[], guard := none }) (v := .pointer (some ⟨gp, 0, none⟩)) rfl (by kernel_rfl) (by kernel_rfl) (by kernel_rfl) (fun _ _ _ h => h) (Or.inl ⟨by rfl, by intro w; go_simp⟩) ?_
  (try simp only [Act.put, List.setIfInBounds_toArray, List.set_cons_zero, List.set_cons_succ])
  refine wpAny_take (i := 2) (oi := { dst := some 12, op := Go.Op.move (Go.Operand.tmp 3), type := 97, pos := "l3_prog.go:302", after := #[], guard := none }) (v := .pointer (some ⟨gc, 0, none⟩)) rfl (by kernel_rfl) (by kernel_rfl) (by kernel_rfl) (fun _ _ _ h => h) (Or.inl ⟨by rfl, by intro w; go_simp⟩) ?_
  (try simp only [Act.put, List.setIfInBounds_toArray, List.set_cons_zero, List.set_cons_succ])
  refine wpAny_take (i := 3) (oi := { dst := some 13, op := Go.Op.fieldAddr 44 (Go.Operand.tmp 4) 0, type := 0, pos := "l3_prog.go:302", after := #[], guard := none }) (v := .pointer (some ⟨gp, 0, none⟩)) rfl (by kernel_rfl) (by kernel_rfl) (by kernel_rfl) (fun _ _ _ h => h) (Or.inl ⟨by rfl, by intro w; go_simp⟩) ?_
  (try simp only [Act.put, List.setIfInBounds_toArray, List.set_cons_zero, List.set_cons_succ])
  refine wpAny_ready (rs := [1, 4]) (by kernel_rfl) (by simp) ?_
  refine AllReady.cons (o := { dst := some 11, op := Go.Op.load 42 (Go.Operand.tmp 10), type := 42, pos := "l3_prog.go:302", after := #[{ on := 0, ground := Go.Ground.data }], guard := none }) rfl (fun K hK => ?_) (AllReady.cons (o := { dst := some 14, op := Go.Op.load 42 (Go.Operand.tmp 13), type := 42, pos := "l3_prog.go:302", after := #[{ on := 3, ground := Go.Ground.data }], guard := none }) rfl (fun K hK => ?_) AllReady.nil)
  · go_simp
    refine hK _ _ ?_
    clear hK K
    (try simp only [Act.put, List.setIfInBounds_toArray, List.set_cons_zero, List.set_cons_succ])
    refine wpAny_ready (rs := [4]) (by kernel_rfl) (by simp) ?_
    refine AllReady.cons (o := { dst := some 14, op := Go.Op.load 42 (Go.Operand.tmp 13), type := 42, pos := "l3_prog.go:302", after := #[{ on := 3, ground := Go.Ground.data }], guard := none }) rfl (fun K hK => ?_) AllReady.nil
    go_simp
    refine hK _ _ ?_
    clear hK K
    (try simp only [Act.put, List.setIfInBounds_toArray, List.set_cons_zero, List.set_cons_succ])
    refine wpAny_take (i := 5) (oi := { dst := some 15, op := Go.Op.call { callee := Go.Callee.builtin Go.Builtin.len, args := #[Go.Operand.tmp 14], argTypes := #[42] }, type := 3, pos := "l3_prog.go:302", after := #[{ on := 4, ground := Go.Ground.data }], guard := none }) (v := .int .i64 fs.length) rfl (by kernel_rfl) (by kernel_rfl) (by kernel_rfl) (fun _ _ _ h => h) (Or.inl ⟨by rfl, by intro w; go_simp⟩) ?_
    (try simp only [Act.put, List.setIfInBounds_toArray, List.set_cons_zero, List.set_cons_succ])
    refine wpAny_ready (rs := [6]) (by kernel_rfl) (by simp) ?_
    refine AllReady.cons (o := { dst := some 16, op := Go.Op.call { callee := Go.Callee.value (Go.Operand.func 69), args := #[Go.Operand.tmp 12, Go.Operand.tmp 15], argTypes := #[97, 3] }, type := 3, pos := "l3_prog.go:302", after := #[{ on := 2, ground := Go.Ground.data }, { on := 5, ground := Go.Ground.data }], guard := none }) rfl (fun K hK => ?_) AllReady.nil
    go_simp
    refine (pick_any gc A n c _ (fs.length : Int) _ hDD.cur (by omega) (by omega) (by omega)).mono ?_
    rintro e w6 ⟨q, hq0, hq1, rfl, hc6, hg6⟩
    have hD6 := hDD.cursor hg6 hc6
    have y6 := hD6.box.cell 0
    simp only [List.getElem?_toArray, List.getElem?_cons_zero] at y6
    obtain ⟨i, rfl⟩ := Int.eq_ofNat_of_zero_le hq0
    have hiF : i < fs.length := by omega
    obtain ⟨f, hfi, q0, q1, q2, q3, qf⟩ := hD6.fns.at_ hiF
    have hfm := List.mem_of_getElem? hfi
    obtain ⟨Ab, mb, db, As, ms, ds, ef⟩ := hD6.fns.slices hfm
    generalize f.p = pf at ef
    generalize f.v = vf at ef
    subst ef
    have r0 := hD6.res.cell 0
    have r1 := hD6.res.cell 1
    have r2 := hD6.res.cell 2
    have r3 := hD6.res.cell 3
    have rf0 := hD6.res.frozen 0
    have rf1 := hD6.res.frozen 1
    have rf2 := hD6.res.frozen 2
    have rf3 := hD6.res.frozen 3
    simp only [List.getElem?_toArray, List.getElem?_cons_zero, List.getElem?_cons_succ] at r0 r1 r2 r3
    have hE := (((hD6.toE.put (by decide) (by decide) (by decide) 0 (.int .i64 pf)).put (by decide) (by decide) (by decide) 1 (.int .i64 vf)).put (by decide) (by decide) (by decide) 2 (.slice Ab mb db)).put (by decide) (by decide) (by decide) 3 (.slice As ms ds)
    have HE := put hE
    have HM := put hfm
    clear hc6 hg6 qf hE hfm
    dsimp only
    refine hK _ _ ?_
    clear hK K
    (try simp only [Act.put, List.setIfInBounds_toArray, List.set_cons_zero, List.set_cons_succ])
    refine wpAny_ready (rs := [7]) (by kernel_rfl) (by simp) ?_
    refine AllReady.cons (o := { dst := some 17, op := Go.Op.indexAddr 42 (Go.Operand.tmp 11) (Go.Operand.tmp 16), type := 0, pos := "l3_prog.go:302", after := #[{ on := 1, ground := Go.Ground.data }, { on := 6, ground := Go.Ground.data }], guard := none }) rfl (fun K hK => ?_) AllReady.nil
    go_simp
    refine hK _ _ ?_
    clear hK K
    (try simp only [Act.put, List.setIfInBounds_toArray, List.set_cons_zero, List.set_cons_succ])
    refine wpAny_ready (rs := [8]) (by kernel_rfl) (by simp) ?_
    refine AllReady.cons (o := { dst := some 18, op := Go.Op.load 58 (Go.Operand.tmp 17), type := 58, pos := "l3_prog.go:302", after := #[{ on := 7, ground := Go.Ground.data }], guard := none }) rfl (fun K hK => ?_) AllReady.nil
    go_simp
    refine hK _ _ ?_
    clear hK K
    (try simp only [Act.put, List.setIfInBounds_toArray, List.set_cons_zero, List.set_cons_succ])
    refine wpAny_ready (rs := [9]) (by kernel_rfl) (by simp) ?_
    refine AllReady.cons (o := { dst := none, op := Go.Op.store 58 (Go.Operand.tmp 2) (Go.Operand.tmp 18), type := 0, pos := "l3_prog.go:302", after := #[{ on := 8, ground := Go.Ground.data }, { on := 6, ground := Go.Ground.chain }, { on := 0, ground := Go.Ground.phase }, { on := 1, ground := Go.Ground.phase }, { on := 2, ground := Go.Ground.phase }, { on := 3, ground := Go.Ground.phase }, { on := 4, ground := Go.Ground.phase }, { on := 5, ground := Go.Ground.phase }, { on := 6, ground := Go.Ground.phase }, { on := 7, ground := Go.Ground.phase }, { on := 8, ground := Go.Ground.phase }], guard := none }) rfl (fun K hK => ?_) AllReady.nil
    go_simp
    refine hK _ _ ?_
    clear hK K
    (try simp only [Act.put, List.setIfInBounds_toArray, List.set_cons_zero, List.set_cons_succ])
    refine wpAny_done (by kernel_rfl) ?_ _
    refine NoPanic.normal ?_
    have HE2 := HE
    obtain ⟨hbody, es, hsts, les⟩ := HE.out.fns.leads _ HM.out
    obtain ⟨A1, m1, d1, ys, eb, rb, lb⟩ := hbody.reads
    obtain ⟨A2, d2, ss, es2, rs, sm⟩ := hsts.reads
    injection eb with e1 e2 e3
    injection es2 with e4 e5 e6
    subst e1 e2 e3 e4 e5 e6
    have hls := rs.1
    have k0 := HE.out.res.cell 0
    have k1 := HE.out.res.cell 1
    have k2 := HE.out.res.cell 2
    have k3 := HE.out.res.cell 3
    simp only [List.setIfInBounds_toArray, List.set_cons_zero, List.set_cons_succ, List.getElem?_toArray, List.getElem?_cons_zero, List.getElem?_cons_succ] at k0 k1 k2 k3
    have HB := put HE.out.bel
    have HI := put (show IsFc _ _ ⟨pf, vf, ys, ss⟩ Ab mb As _ from ⟨rb, rs⟩)
    have HSM := put (show SmallF ⟨pf, vf, ys, ss⟩ from ⟨by show ys.length ≤ _; omega, by show ss.length ≤ _; omega, sm⟩)
    have HQ := put (And.intro k0 (And.intro k1 (And.intro k2 k3)))
    clear hD hDD y0 y6 q0 q1 q2 q3 r0 r1 r2 r3 rf0 rf1 rf2 rf3 hD6 HE HE2 HM hbody hsts k0 k1 k2 k3 rb rs hls les lb sm
    go_wp2
    generalize (((w6.setCell ⟨w.heap.size, 0, none⟩ (.int .i64 pf)).setCell ⟨w.heap.size, 1, none⟩ (.int .i64 vf)).setCell ⟨w.heap.size, 2, none⟩ (.slice Ab mb db)).setCell ⟨w.heap.size, 3, none⟩ (.slice As es.length ds) = WF at HB HI HQ ⊢
    exact bodyPost_ret (v := .agg #[.int .i64 pf, .int .i64 vf, .slice Ab mb db, .slice As es.length ds]) (by obtain ⟨k0, k1, k2, k3⟩ := HQ.out; simp [results, Try.results41, go_sem, k0, k1, k2, k3]) rfl ⟨_, _, _, _, _, _, _, rfl, HI.out, HSM.out, HB.out⟩
  · go_simp
    refine hK _ _ ?_
    clear hK K
    (try simp only [Act.put, List.setIfInBounds_toArray, List.set_cons_zero, List.set_cons_succ])
    refine wpAny_take (i := 5) (oi := { dst := some 15, op := Go.Op.call { callee := Go.Callee.builtin Go.Builtin.len, args := #[Go.Operand.tmp 14], argTypes := #[42] }, type := 3, pos := "l3_prog.go:302", after := #[{ on := 4, ground := Go.Ground.data }], guard := none }) (v := .int .i64 fs.length) rfl (by kernel_rfl) (by kernel_rfl) (by kernel_rfl) (fun _ _ _ h => h) (Or.inl ⟨by rfl, by intro w; go_simp⟩) ?_
    (try simp only [Act.put, List.setIfInBounds_toArray, List.set_cons_zero, List.set_cons_succ])
    refine wpAny_ready (rs := [1, 6]) (by kernel_rfl) (by simp) ?_
    refine AllReady.cons (o := { dst := some 11, op := Go.Op.load 42 (Go.Operand.tmp 10), type := 42, pos := "l3_prog.go:302", after := #[{ on := 0, ground := Go.Ground.data }], guard := none }) rfl (fun K hK => ?_) (AllReady.cons (o := { dst := some 16, op := Go.Op.call { callee := Go.Callee.value (Go.Operand.func 69), args := #[Go.Operand.tmp 12, Go.Operand.tmp 15], argTypes := #[97, 3] }, type := 3, pos := "l3_prog.go:302", after := #[{ on := 2, ground := Go.Ground.data }, { on := 5, ground := Go.Ground.data }], guard := none }) rfl (fun K hK => ?_) AllReady.nil)
    · go_simp
      refine hK _ _ ?_
      clear hK K
      (try simp only [Act.put, List.setIfInBounds_toArray, List.set_cons_zero, List.set_cons_succ])
      refine wpAny_ready (rs := [6]) (by kernel_rfl) (by simp) ?_
      refine AllReady.cons (o := { dst := some 16, op := Go.Op.call { callee := Go.Callee.value (Go.Operand.func 69), args := #[Go.Operand.tmp 12, Go.Operand.tmp 15], argTypes := #[97, 3] }, type := 3, pos := "l3_prog.go:302", after := #[{ on := 2, ground := Go.Ground.data }, { on := 5, ground := Go.Ground.data }], guard := none }) rfl (fun K hK => ?_) AllReady.nil
      go_simp
      refine (pick_any gc A n c _ (fs.length : Int) _ hDD.cur (by omega) (by omega) (by omega)).mono ?_
      rintro e w6 ⟨q, hq0, hq1, rfl, hc6, hg6⟩
      have hD6 := hDD.cursor hg6 hc6
      have y6 := hD6.box.cell 0
      simp only [List.getElem?_toArray, List.getElem?_cons_zero] at y6
      obtain ⟨i, rfl⟩ := Int.eq_ofNat_of_zero_le hq0
      have hiF : i < fs.length := by omega
      obtain ⟨f, hfi, q0, q1, q2, q3, qf⟩ := hD6.fns.at_ hiF
      have hfm := List.mem_of_getElem? hfi
      obtain ⟨Ab, mb, db, As, ms, ds, ef⟩ := hD6.fns.slices hfm
      generalize f.p = pf at ef
      generalize f.v = vf at ef
      subst ef
      have r0 := hD6.res.cell 0
      have r1 := hD6.res.cell 1
      have r2 := hD6.res.cell 2
      have r3 := hD6.res.cell 3
      have rf0 := hD6.res.frozen 0
      have rf1 := hD6.res.frozen 1
      have rf2 := hD6.res.frozen 2
      have rf3 := hD6.res.frozen 3
      simp only [List.getElem?_toArray, List.getElem?_cons_zero, List.getElem?_cons_succ] at r0 r1 r2 r3
      have hE := (((hD6.toE.put (by decide) (by decide) (by decide) 0 (.int .i64 pf)).put (by decide) (by decide) (by decide) 1 (.int .i64 vf)).put (by decide) (by decide) (by decide) 2 (.slice Ab mb db)).put (by decide) (by decide) (by decide) 3 (.slice As ms ds)
      have HE := put hE
      have HM := put hfm
      clear hc6 hg6 qf hE hfm
      dsimp only
      refine hK _ _ ?_
      clear hK K
      (try simp only [Act.put, List.setIfInBounds_toArray, List.set_cons_zero, List.set_cons_succ])
      refine wpAny_ready (rs := [7]) (by kernel_rfl) (by simp) ?_
      refine AllReady.cons (o := { dst := some 17, op := Go.Op.indexAddr 42 (Go.Operand.tmp 11) (Go.Operand.tmp 16), type := 0, pos := "l3_prog.go:302", after := #[{ on := 1, ground := Go.Ground.data }, { on := 6, ground := Go.Ground.data }], guard := none }) rfl (fun K hK => ?_) AllReady.nil
      go_simp
      refine hK _ _ ?_
      clear hK K
      (try simp only [Act.put, List.setIfInBounds_toArray, List.set_cons_zero, List.set_cons_succ])
      refine wpAny_ready (rs := [8]) (by kernel_rfl) (by simp) ?_
      refine AllReady.cons (o := { dst := some 18, op := Go.Op.load 58 (Go.Operand.tmp 17), type := 58, pos := "l3_prog.go:302", after := #[{ on := 7, ground := Go.Ground.data }], guard := none }) rfl (fun K hK => ?_) AllReady.nil
      go_simp
      refine hK _ _ ?_
      clear hK K
      (try simp only [Act.put, List.setIfInBounds_toArray, List.set_cons_zero, List.set_cons_succ])
      refine wpAny_ready (rs := [9]) (by kernel_rfl) (by simp) ?_
      refine AllReady.cons (o := { dst := none, op := Go.Op.store 58 (Go.Operand.tmp 2) (Go.Operand.tmp 18), type := 0, pos := "l3_prog.go:302", after := #[{ on := 8, ground := Go.Ground.data }, { on := 6, ground := Go.Ground.chain }, { on := 0, ground := Go.Ground.phase }, { on := 1, ground := Go.Ground.phase }, { on := 2, ground := Go.Ground.phase }, { on := 3, ground := Go.Ground.phase }, { on := 4, ground := Go.Ground.phase }, { on := 5, ground := Go.Ground.phase }, { on := 6, ground := Go.Ground.phase }, { on := 7, ground := Go.Ground.phase }, { on := 8, ground := Go.Ground.phase }], guard := none }) rfl (fun K hK => ?_) AllReady.nil
      go_simp
      refine hK _ _ ?_
      clear hK K
      (try simp only [Act.put, List.setIfInBounds_toArray, List.set_cons_zero, List.set_cons_succ])
      refine wpAny_done (by kernel_rfl) ?_ _
      refine NoPanic.normal ?_
      have HE2 := HE
      obtain ⟨hbody, es, hsts, les⟩ := HE.out.fns.leads _ HM.out
      obtain ⟨A1, m1, d1, ys, eb, rb, lb⟩ := hbody.reads
      obtain ⟨A2, d2, ss, es2, rs, sm⟩ := hsts.reads
      injection eb with e1 e2 e3
      injection es2 with e4 e5 e6
      subst e1 e2 e3 e4 e5 e6
      have hls := rs.1
      have k0 := HE.out.res.cell 0
      have k1 := HE.out.res.cell 1
      have k2 := HE.out.res.cell 2
      have k3 := HE.out.res.cell 3
      simp only [List.setIfInBounds_toArray, List.set_cons_zero, List.set_cons_succ, List.getElem?_toArray, List.getElem?_cons_zero, List.getElem?_cons_succ] at k0 k1 k2 k3
      have HB := put HE.out.bel
      have HI := put (show IsFc _ _ ⟨pf, vf, ys, ss⟩ Ab mb As _ from ⟨rb, rs⟩)
      have HSM := put (show SmallF ⟨pf, vf, ys, ss⟩ from ⟨by show ys.length ≤ _; omega, by show ss.length ≤ _; omega, sm⟩)
      have HQ := put (And.intro k0 (And.intro k1 (And.intro k2 k3)))
      clear hD hDD y0 y6 q0 q1 q2 q3 r0 r1 r2 r3 rf0 rf1 rf2 rf3 hD6 HE HE2 HM hbody hsts k0 k1 k2 k3 rb rs hls les lb sm
      go_wp2
      generalize (((w6.setCell ⟨w.heap.size, 0, none⟩ (.int .i64 pf)).setCell ⟨w.heap.size, 1, none⟩ (.int .i64 vf)).setCell ⟨w.heap.size, 2, none⟩ (.slice Ab mb db)).setCell ⟨w.heap.size, 3, none⟩ (.slice As es.length ds) = WF at HB HI HQ ⊢
      exact bodyPost_ret (v := .agg #[.int .i64 pf, .int .i64 vf, .slice Ab mb db, .slice As es.length ds]) (by obtain ⟨k0, k1, k2, k3⟩ := HQ.out; simp [results, Try.results41, go_sem, k0, k1, k2, k3]) rfl ⟨_, _, _, _, _, _, _, rfl, HI.out, HSM.out, HB.out⟩
    · go_simp
      refine (pick_any gc A n c _ (fs.length : Int) _ hDD.cur (by omega) (by omega) (by omega)).mono ?_
      rintro e w6 ⟨q, hq0, hq1, rfl, hc6, hg6⟩
      have hD6 := hDD.cursor hg6 hc6
      have y6 := hD6.box.cell 0
      simp only [List.getElem?_toArray, List.getElem?_cons_zero] at y6
      obtain ⟨i, rfl⟩ := Int.eq_ofNat_of_zero_le hq0
      have hiF : i < fs.length := by omega
      obtain ⟨f, hfi, q0, q1, q2, q3, qf⟩ := hD6.fns.at_ hiF
      have hfm := List.mem_of_getElem? hfi
      obtain ⟨Ab, mb, db, As, ms, ds, ef⟩ := hD6.fns.slices hfm
      generalize f.p = pf at ef
      generalize f.v = vf at ef
      subst ef
      have r0 := hD6.res.cell 0
      have r1 := hD6.res.cell 1
      have r2 := hD6.res.cell 2
      have r3 := hD6.res.cell 3
      have rf0 := hD6.res.frozen 0
      have rf1 := hD6.res.frozen 1
      have rf2 := hD6.res.frozen 2
      have rf3 := hD6.res.frozen 3
      simp only [List.getElem?_toArray, List.getElem?_cons_zero, List.getElem?_cons_succ] at r0 r1 r2 r3
      have hE := (((hD6.toE.put (by decide) (by decide) (by decide) 0 (.int .i64 pf)).put (by decide) (by decide) (by decide) 1 (.int .i64 vf)).put (by decide) (by decide) (by decide) 2 (.slice Ab mb db)).put (by decide) (by decide) (by decide) 3 (.slice As ms ds)
      have HE := put hE
      have HM := put hfm
      clear hc6 hg6 qf hE hfm
      dsimp only
      refine hK _ _ ?_
      clear hK K
      (try simp only [Act.put, List.setIfInBounds_toArray, List.set_cons_zero, List.set_cons_succ])
      refine wpAny_ready (rs := [1]) (by kernel_rfl) (by simp) ?_
      refine AllReady.cons (o := { dst := some 11, op := Go.Op.load 42 (Go.Operand.tmp 10), type := 42, pos := "l3_prog.go:302", after := #[{ on := 0, ground := Go.Ground.data }], guard := none }) rfl (fun K hK => ?_) AllReady.nil
      go_simp
      refine hK _ _ ?_
      clear hK K
      (try simp only [Act.put, List.setIfInBounds_toArray, List.set_cons_zero, List.set_cons_succ])
      refine wpAny_ready (rs := [7]) (by kernel_rfl) (by simp) ?_
      refine AllReady.cons (o := { dst := some 17, op := Go.Op.indexAddr 42 (Go.Operand.tmp 11) (Go.Operand.tmp 16), type := 0, pos := "l3_prog.go:302", after := #[{ on := 1, ground := Go.Ground.data }, { on := 6, ground := Go.Ground.data }], guard := none }) rfl (fun K hK => ?_) AllReady.nil
      go_simp
      refine hK _ _ ?_
      clear hK K
      (try simp only [Act.put, List.setIfInBounds_toArray, List.set_cons_zero, List.set_cons_succ])
      refine wpAny_ready (rs := [8]) (by kernel_rfl) (by simp) ?_
      refine AllReady.cons (o := { dst := some 18, op := Go.Op.load 58 (Go.Operand.tmp 17), type := 58, pos := "l3_prog.go:302", after := #[{ on := 7, ground := Go.Ground.data }], guard := none }) rfl (fun K hK => ?_) AllReady.nil
      go_simp
      refine hK _ _ ?_
      clear hK K
      (try simp only [Act.put, List.setIfInBounds_toArray, List.set_cons_zero, List.set_cons_succ])
      refine wpAny_ready (rs := [9]) (by kernel_rfl) (by simp) ?_
      refine AllReady.cons (o := { dst := none, op := Go.Op.store 58 (Go.Operand.tmp 2) (Go.Operand.tmp 18), type := 0, pos := "l3_prog.go:302", after := #[{ on := 8, ground := Go.Ground.data }, { on := 6, ground := Go.Ground.chain }, { on := 0, ground := Go.Ground.phase }, { on := 1, ground := Go.Ground.phase }, { on := 2, ground := Go.Ground.phase }, { on := 3, ground := Go.Ground.phase }, { on := 4, ground := Go.Ground.phase }, { on := 5, ground := Go.Ground.phase }, { on := 6, ground := Go.Ground.phase }, { on := 7, ground := Go.Ground.phase }, { on := 8, ground := Go.Ground.phase }], guard := none }) rfl (fun K hK => ?_) AllReady.nil
      go_simp
      refine hK _ _ ?_
      clear hK K
      (try simp only [Act.put, List.setIfInBounds_toArray, List.set_cons_zero, List.set_cons_succ])
      refine wpAny_done (by kernel_rfl) ?_ _
      refine NoPanic.normal ?_
      have HE2 := HE
      obtain ⟨hbody, es, hsts, les⟩ := HE.out.fns.leads _ HM.out
      obtain ⟨A1, m1, d1, ys, eb, rb, lb⟩ := hbody.reads
      obtain ⟨A2, d2, ss, es2, rs, sm⟩ := hsts.reads
      injection eb with e1 e2 e3
      injection es2 with e4 e5 e6
      subst e1 e2 e3 e4 e5 e6
      have hls := rs.1
      have k0 := HE.out.res.cell 0
      have k1 := HE.out.res.cell 1
      have k2 := HE.out.res.cell 2
      have k3 := HE.out.res.cell 3
      simp only [List.setIfInBounds_toArray, List.set_cons_zero, List.set_cons_succ, List.getElem?_toArray, List.getElem?_cons_zero, List.getElem?_cons_succ] at k0 k1 k2 k3
      have HB := put HE.out.bel
      have HI := put (show IsFc _ _ ⟨pf, vf, ys, ss⟩ Ab mb As _ from ⟨rb, rs⟩)
      have HSM := put (show SmallF ⟨pf, vf, ys, ss⟩ from ⟨by show ys.length ≤ _; omega, by show ss.length ≤ _; omega, sm⟩)
      have HQ := put (And.intro k0 (And.intro k1 (And.intro k2 k3)))
      clear hD hDD y0 y6 q0 q1 q2 q3 r0 r1 r2 r3 rf0 rf1 rf2 rf3 hD6 HE HE2 HM hbody hsts k0 k1 k2 k3 rb rs hls les lb sm
      go_wp2
      generalize (((w6.setCell ⟨w.heap.size, 0, none⟩ (.int .i64 pf)).setCell ⟨w.heap.size, 1, none⟩ (.int .i64 vf)).setCell ⟨w.heap.size, 2, none⟩ (.slice Ab mb db)).setCell ⟨w.heap.size, 3, none⟩ (.slice As es.length ds) = WF at HB HI HQ ⊢
      exact bodyPost_ret (v := .agg #[.int .i64 pf, .int .i64 vf, .slice Ab mb db, .slice As es.length ds]) (by obtain ⟨k0, k1, k2, k3⟩ := HQ.out; simp [results, Try.results41, go_sem, k0, k1, k2, k3]) rfl ⟨_, _, _, _, _, _, _, rfl, HI.out, HSM.out, HB.out⟩

end Go.Proofs.Ytfdijeeilfhjeaa

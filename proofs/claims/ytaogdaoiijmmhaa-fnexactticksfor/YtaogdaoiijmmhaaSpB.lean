/-
  The reference's test of a function's blocks: its contract.
-/
import Derived.Test.YtaogdaoiijmmhaaSpA
namespace Go.Proofs.Ytaogdaoiijmmhaa
open Go.RowKit Exs

def blkFrom : Nat → List St → List (Int × List Int)
  | _, [] => []
  | k, s :: r => ((k : Int), s.th) :: ((k : Int), s.el) :: blkFrom (k + 1) r
theorem blkFrom_snoc (s : St) : ∀ (a : List St) (k : Nat), blkFrom k (a ++ [s]) = blkFrom k a ++ [(((k + a.length : Nat) : Int), s.th), (((k + a.length : Nat) : Int), s.el)]
  | [], k => by simp [blkFrom]
  | t :: r, k => by
    simp only [List.cons_append, blkFrom, blkFrom_snoc s r (k + 1), List.length_cons]
    rw [show k + 1 + r.length = k + (r.length + 1) by omega]
theorem blkFrom_length : ∀ (a : List St) (k : Nat), (blkFrom k a).length = 2 * a.length
  | [], k => rfl
  | t :: r, k => by simp only [blkFrom, List.length_cons, blkFrom_length r (k + 1)]; omega
/-- All blocks of a function, each with its owner. -/
def blkL (f : Fc) : List (Int × List Int) := (-1, f.body) :: blkFrom 0 f.stmts
def blkTo (f : Fc) (k : Nat) : List (Int × List Int) := (-1, f.body) :: blkFrom 0 (f.stmts.take k)
theorem blkTo_more {f : Fc} {k : Nat} {s : St} (h : f.stmts[k]? = some s) : blkTo f (k + 1) = blkTo f k ++ [((k : Int), s.th), ((k : Int), s.el)] := by
  have hl : (f.stmts.take k).length = k := by
    have := (List.getElem?_eq_some_iff.1 h).1
    rw [List.length_take]; omega
  unfold blkTo
  rw [takeA_more h, blkFrom_snoc, hl, Nat.zero_add]; rfl
theorem blkTo_length (f : Fc) (k : Nat) : (blkTo f k).length ≤ 1 + 2 * k := by
  simp only [blkTo, List.length_cons, blkFrom_length, List.length_take]; omega

/-- The values of some blocks. -/
def Blks (w : World) (B : Nat) (bs : List (Int × List Int)) (vs : List Value) : Prop := vs.length = bs.length ∧ ∀ (i : Nat) (o : Int) (b : List Int), bs[i]? = some (o, b) → ∃ A m c, vs[i]? = some (.slice A m c) ∧ Reads w B .i64 A m b
theorem Blks.below {w w' : World} {B : Nat} {bs : List (Int × List Int)} {vs : List Value} (h : Blks w B bs vs) (hb : Below B w w') : Blks w' B bs vs :=
  ⟨h.1, fun i o b hi => by obtain ⟨A, m, c, h1, h2⟩ := h.2 i o b hi; exact ⟨A, m, c, h1, h2.below hb⟩⟩
theorem Blks.snoc {w : World} {B : Nat} {bs : List (Int × List Int)} {vs : List Value} (h : Blks w B bs vs) {A : Option Addr} {m c : Nat} {b : List Int} (o : Int) (hr : Reads w B .i64 A m b) : Blks w B (bs ++ [(o, b)]) (vs ++ [.slice A m c]) := by
  refine ⟨by simp [h.1], fun i o' b' hi => ?_⟩
  by_cases hl : i < bs.length
  · rw [List.getElem?_append_left hl] at hi
    obtain ⟨A', m', c', h1, h2⟩ := h.2 i o' b' hi
    exact ⟨A', m', c', by rw [List.getElem?_append_left (by rw [h.1]; exact hl)]; exact h1, h2⟩
  · have hi2 : i = bs.length := by have := (List.getElem?_eq_some_iff.1 hi).1; simp at this; omega
    subst hi2
    rw [List.getElem?_append_right (Nat.le_refl _)] at hi
    simp at hi
    obtain ⟨rfl, rfl⟩ := hi
    exact ⟨A, m, c, by rw [List.getElem?_append_right (by rw [h.1]; exact Nat.le_refl _), h.1]; simp, hr⟩

/-- A row of slices of the call's own. -/
def Rows2 (w : World) (B : Nat) (v : Value) (vs : List Value) : Prop := w.ownsRow B 22 1 v vs.length vs
theorem Rows2.other {w w' : World} {B : Nat} {v u : Value} {vs : List Value} {us : List Int} {k : IntKind} (h : Rows2 w B v vs) (hu : Nums w B 3 k u us) (hg : w.grownBy w' u.ownBlock) : Rows2 w' B v vs := by
  obtain ⟨h1, h2⟩ := h
  refine ⟨h1, ?_⟩
  rcases h2 with h2 | ⟨g, cap, cur, hv, hgB, hh, r⟩
  · exact Or.inl h2
  · refine Or.inr ⟨g, cap, cur, hv, hgB, (hg.block g (Array.getElem?_eq_some_iff.1 hh).1 ?_).trans hh, r⟩
    intro e
    rcases hu.2 with ⟨rfl, _⟩ | ⟨g', cap', cur', rfl, _, hh', _⟩
    · cases e
    · injection e with e
      simp only at e
      subst e
      rw [hh] at hh'
      injection hh' with hh'
      injection hh' with _ h3
      cases h3
theorem Nums.other {w w' : World} {B : Nat} {v u : Value} {vs : List Value} {us : List Int} {k : IntKind} (hu : Nums w B 3 k u us) (h : Rows2 w B v vs) (hg : w.grownBy w' v.ownBlock) : Nums w' B 3 k u us := by
  obtain ⟨h1, h2⟩ := hu
  refine ⟨h1, ?_⟩
  rcases h2 with h2 | ⟨g, cap, cur, hv, hgB, hh, r⟩
  · exact Or.inl h2
  · refine Or.inr ⟨g, cap, cur, hv, hgB, (hg.block g (Array.getElem?_eq_some_iff.1 hh).1 ?_).trans hh, r⟩
    intro e
    rcases h.2 with ⟨rfl, _⟩ | ⟨g', cap', cur', rfl, _, hh', _⟩
    · cases e
    · injection e with e
      simp only at e
      subst e
      rw [hh] at hh'
      injection hh' with hh'
      injection hh' with _ h3
      cases h3
theorem Rows2.alloc {w : World} {B : Nat} {v : Value} {vs : List Value} (h : Rows2 w B v vs) (o : Obj) : Rows2 (w.alloc o) B v vs := World.ownsRow.alloc h o
theorem Rows2.lt {w : World} {B : Nat} {v : Value} {vs : List Value} (h : Rows2 w B v vs) : ∀ k, v.ownBlock = some k → B ≤ k ∧ k < w.heap.size := World.ownsRow.lt h
theorem Room.grownR {w w' : World} {g : Nat} {t : TypeId} {n : Nat} {k : IntKind} {xs : List Int} {row : Option Nat} (h : Room w g t n k xs) (hg : w.grownBy w' row) (hr : ∀ k, row = some k → g < k) : Room w' g t n k xs := by
  obtain ⟨cs, h1, h2, h3⟩ := h
  exact ⟨cs, (hg.block g (Array.getElem?_eq_some_iff.1 h1).1 (fun e => by have := hr g e.symm; omega)).trans h1, h2, h3⟩
theorem Keep.grownR {w w' : World} {g : Nat} {cs : Array Value} {t : TypeId} {row : Option Nat} (h : Keep w g cs t) (hg : w.grownBy w' row) (hr : ∀ k, row = some k → g < k) : Keep w' g cs t :=
  (hg.block g h.lt (fun e => by have := hr g e.symm; omega)).trans h

theorem Try.info22 : (Try.prog.info? 22).map (fun i => (i.zero, i.size, i.bytes)) = some (some (.slice none 0 0), 1, 24) := by kernel_rfl

/-- Two slices appended to a row of slices. -/
theorem wpList_append_two {w : World} {ops : Array Oper} {rest : List Oper} {o : Oper} {a : Act} {Q : Exit → Act → World → Prop} (hgd : o.guard = none) (s x : Operand)
    (ho : o.op = .call { callee := .builtin .append, args := #[s, x], argTypes := #[91, 91] })
    (B : Nat) (v : Value) (vs : List Value) (hs : a.eval s = v) (hB : B ≤ w.heap.size) (hown : Rows2 w B v vs) (hlen : vs.length ≤ 1000)
    (g : Nat) (p q : Value) (hx : a.eval x = .slice (some ⟨g, 0, none⟩) 2 2) (c0 : w.cell? ⟨g, 0, none⟩ = some p) (c1 : w.cell? ⟨g, 1, none⟩ = some q) (o0 : p.oneCell' = true) (o1 : q.oneCell' = true)
    (h : ∀ v' w', Rows2 w' B v' (vs ++ [p, q]) → w.grownBy w' v.ownBlock → wpList Try.prog ops Q rest (a.put o.dst v') w') : wpList Try.prog ops Q (o :: rest) a w := by
  obtain ⟨i0, hi, hz0, hz1, hz2⟩ := info_parts Try.info22
  refine wpList_append_own w hgd s x 91 ho B 22 i0 (.slice none 0 0) 1 24 Try.underlying91 hi hz0 hz1 hz2 rfl (by decide) v vs.length _ hs hown ⟨g, 0, none⟩ 2 2 [p, q] hx rfl ?_ ?_ ?_ ?_ hB ?_
  · intro j u hj
    match j, hj with
    | 0, hj => simp at hj; subst hj; simpa [Addr.add] using c0
    | 1, hj => simp at hj; subst hj; simpa [Addr.add] using c1
  · intro u hu; simp at hu; rcases hu with rfl | rfl; exact o0; exact o1
  · unfold maxLen; omega
  · omega
  · intro v' w' h1 h2 _
    exact h v' w' (by unfold Rows2; simpa using h1) h2
/-- Two numbers appended to a row of numbers. -/
theorem wpList_append_two_nums {w : World} {ops : Array Oper} {rest : List Oper} {o : Oper} {a : Act} {Q : Exit → Act → World → Prop} (hgd : o.guard = none) (s x : Operand)
    (ho : o.op = .call { callee := .builtin .append, args := #[s, x], argTypes := #[22, 22] })
    (B : Nat) (v : Value) (xs : List Int) (hs : a.eval s = v) (hB : B ≤ w.heap.size) (hown : Nums w B 3 .i64 v xs) (hlen : xs.length ≤ 1000)
    (g : Nat) (p q : Int) (hx : a.eval x = .slice (some ⟨g, 0, none⟩) 2 2) (c0 : w.cell? ⟨g, 0, none⟩ = some (.int .i64 p)) (c1 : w.cell? ⟨g, 1, none⟩ = some (.int .i64 q))
    (h : ∀ v' w', Nums w' B 3 .i64 v' (xs ++ [p, q]) → w.grownBy w' v.ownBlock → wpList Try.prog ops Q rest (a.put o.dst v') w') : wpList Try.prog ops Q (o :: rest) a w := by
  obtain ⟨i0, hi, hz0, hz1, hz2⟩ := info_parts Try.info3
  refine wpList_append_own w hgd s x 22 ho B 3 i0 (.int .i64 0) 1 8 Try.underlying22 hi hz0 hz1 hz2 rfl (by decide) v xs.length _ hs hown ⟨g, 0, none⟩ 2 2 [.int .i64 p, .int .i64 q] hx rfl ?_ ?_ ?_ ?_ hB ?_
  · intro j u hj
    match j, hj with
    | 0, hj => simp at hj; subst hj; simpa [Addr.add] using c0
    | 1, hj => simp at hj; subst hj; simpa [Addr.add] using c1
  · intro u hu; simp at hu; rcases hu with rfl | rfl <;> rfl
  · unfold maxLen; omega
  · omega
  · intro v' w' h1 h2 _
    exact h v' w' (by unfold Nums; simpa using h1) h2

/-- How often each number stands among those that were seen. -/
def seenL (len : Nat) (ys : List Int) : List Int := (List.range len).map fun (n : Nat) => ((ys.count (n : Int) : Nat) : Int)
theorem seenL_nil (len : Nat) : seenL len [] = List.replicate len 0 := by
  apply List.ext_getElem?
  intro i
  by_cases h : i < len <;> simp [seenL, h]
theorem seenL_length (len : Nat) (ys : List Int) : (seenL len ys).length = len := by simp [seenL]
theorem seenL_at {len : Nat} {ys : List Int} {n : Nat} (h : n < len) : (seenL len ys)[n]? = some ((ys.count (n : Int) : Nat) : Int) := by simp [seenL, h]
theorem seenL_set {len : Nat} {ys : List Int} {n : Nat} (h : n < len) : (seenL len ys).set n (((ys.count (n : Int) : Nat) : Int) + 1) = seenL len (ys ++ [(n : Int)]) := by
  apply List.ext_getElem?
  intro i
  rw [List.getElem?_set]
  by_cases hi : n = i
  · subst hi
    rw [if_pos rfl, seenL_length, if_pos h, seenL_at h]
    simp [List.count_append]
  · rw [if_neg hi]
    by_cases hl : i < len
    · rw [seenL_at hl, seenL_at hl, List.count_append]
      have hne : ¬ ((n : Int) = (i : Int)) := by omega
      simp [hne]
    · rw [List.getElem?_eq_none (by rw [seenL_length]; omega), List.getElem?_eq_none (by rw [seenL_length]; omega)]
theorem Room.setAt {w : World} {g : Nat} {t : TypeId} {c : Nat} {k : IntKind} {xs : List Int} (h : Room w g t c k xs) (i : Nat) (y : Int) : Room (w.setCell ⟨g, i, none⟩ (.int k y)) g t c k (xs.set i y) := by
  obtain ⟨cs, h1, h2, h3⟩ := h
  refine ⟨_, heap_set h1, by simpa using h2, ?_⟩
  rw [List.length_set, Array.toList_setIfInBounds, List.take_set, h3, List.map_set]

/-- What the test says of one block. -/
def blkOk (len : Nat) (p : Int × List Int) : Prop := rises 0 ((len : Int) - 1) p.2 ∧ ∀ n ∈ p.2, p.1 < n
def blocksOk (f : Fc) : Prop := (∀ p ∈ blkL f, blkOk f.stmts.length p) ∧ ∀ n : Nat, n < f.stmts.length → ((blkL f).flatMap Prod.snd).count (n : Int) = 1
open Classical in
noncomputable def blocksB (f : Fc) : Bool := decide (blocksOk f)
theorem blocksB_iff (f : Fc) : blocksB f = true ↔ blocksOk f := by unfold blocksB; exact @decide_eq_true_iff _ (Classical.propDecidable _)
theorem seen_all (len : Nat) (ys : List Int) : allIn 1 1 (seenL len ys) = true ↔ ∀ n : Nat, n < len → ys.count (n : Int) = 1 := by
  rw [allIn_iff]
  constructor
  · intro h n hn
    have := h _ (List.mem_of_getElem? (seenL_at (ys := ys) hn))
    omega
  · intro h x hx
    simp only [seenL, List.mem_map, List.mem_range] at hx
    obtain ⟨n, hn, rfl⟩ := hx
    have := h n hn
    omega

theorem Rows2.lit (w : World) (B : Nat) (hB : B ≤ w.heap.size) (v : Value) : Rows2 (w.alloc (.cells #[v] 22)) B (.slice (some ⟨w.heap.size, 0, none⟩) 1 1) [v] :=
  ⟨rfl, .inr ⟨w.heap.size, 1, #[v], rfl, hB, heap_alloc_new _ _, Nat.le_refl _, by decide, rfl, rfl⟩⟩
theorem Nums.lit (w : World) (B : Nat) (hB : B ≤ w.heap.size) (x : Int) : Nums (w.alloc (.cells #[.int .i64 x] 3)) B 3 .i64 (.slice (some ⟨w.heap.size, 0, none⟩) 1 1) [x] :=
  ⟨rfl, .inr ⟨w.heap.size, 1, #[.int .i64 x], rfl, hB, heap_alloc_new _ _, Nat.le_refl _, by decide, rfl, rfl⟩⟩

theorem Rows2.form {w : World} {B : Nat} {v : Value} {vs : List Value} (h : Rows2 w B v vs) (hn : 0 < vs.length) : ∃ g cap, v = .slice (some ⟨g, 0, none⟩) vs.length cap ∧ ∀ i, i < vs.length → w.cell? ⟨g, i, none⟩ = vs[i]? := by
  rcases h.2 with ⟨_, h0⟩ | ⟨g, cap, cur, rfl, _⟩
  · omega
  · exact ⟨g, cap, rfl, fun i hi => World.ownsRow.cellAt h i (by omega)⟩
theorem Nums.form {w : World} {B : Nat} {e : TypeId} {k : IntKind} {v : Value} {xs : List Int} (h : Nums w B e k v xs) (hn : 0 < xs.length) : ∃ g cap, v = .slice (some ⟨g, 0, none⟩) xs.length cap := by
  rcases h.2 with ⟨_, h0⟩ | ⟨g, cap, cur, rfl, _⟩
  · omega
  · exact ⟨g, cap, rfl⟩
theorem Nums.at_ {w : World} {B : Nat} {e : TypeId} {k : IntKind} {g n cap : Nat} {xs : List Int} (h : Nums w B e k (.slice (some ⟨g, 0, none⟩) n cap) xs) {i : Nat} {x : Int} (hx : xs[i]? = some x) : w.cell? ⟨g, i, none⟩ = some (.int k x) := by
  rcases h.2 with ⟨h0, _⟩ | ⟨g', cap', cur, h0, _⟩
  · cases h0
  · injection h0 with h1 h2 h3
    injection h1 with h1
    injection h1 with h1
    subst h1 h2 h3
    rw [World.ownsRow.cellAt h i (by have := (List.getElem?_eq_some_iff.1 hx).1; omega)]
    simp [hx]
theorem Rows2.at_ {w : World} {B : Nat} {g n cap : Nat} {vs : List Value} (h : Rows2 w B (.slice (some ⟨g, 0, none⟩) n cap) vs) {i : Nat} {x : Value} (hx : vs[i]? = some x) : w.cell? ⟨g, i, none⟩ = some x := by
  rcases h.2 with ⟨h0, _⟩ | ⟨g', cap', cur, h0, _⟩
  · cases h0
  · injection h0 with h1 h2 h3
    injection h1 with h1
    injection h1 with h1
    subst h1 h2 h3
    rw [World.ownsRow.cellAt h i (by have := (List.getElem?_eq_some_iff.1 hx).1; omega)]
    exact hx
theorem Nums.setBelow {w : World} {B : Nat} {e : TypeId} {k : IntKind} {v : Value} {xs : List Int} (h : Nums w B e k v xs) {a : Addr} (ha : a.block < B) (u : Value) : Nums (w.setCell a u) B e k v xs := ownsRow_setCell_below h ha u
theorem Rows2.setBelow {w : World} {B : Nat} {v : Value} {vs : List Value} (h : Rows2 w B v vs) {a : Addr} (ha : a.block < B) (u : Value) : Rows2 (w.setCell a u) B v vs := ownsRow_setCell_below h ha u
theorem blkL_small {f : Fc} (h : SmallF f) : ∀ p ∈ blkL f, p.2.length ≤ 1048576 := by
  have haux : ∀ (ss : List St) (k : Nat), (∀ s ∈ ss, SmallS s) → ∀ p ∈ blkFrom k ss, p.2.length ≤ 1048576 := by
    intro ss
    induction ss with
    | nil => intro k _ p hp; simp [blkFrom] at hp
    | cons s r ih =>
      intro k hs p hp
      simp only [blkFrom, List.mem_cons] at hp
      rcases hp with rfl | rfl | hp
      · exact (hs s (by simp)).2.1
      · exact (hs s (by simp)).2.2
      · exact ih (k + 1) (fun x hx => hs x (by simp [hx])) p hp
  intro p hp
  simp only [blkL, List.mem_cons] at hp
  rcases hp with rfl | hp
  · exact h.1
  · exact haux _ _ h.2.2 p hp
theorem flat_len {bs : List (Int × List Int)} (h : ∀ p ∈ bs, p.2.length ≤ 1048576) : (bs.flatMap Prod.snd).length ≤ bs.length * 1048576 := by
  induction bs with
  | nil => simp
  | cons a r ih =>
    have h1 := h a (by simp)
    have h2 := ih (fun p hp => h p (by simp [hp]))
    simp only [List.flatMap_cons, List.length_append, List.length_cons]
    omega

set_option maxHeartbeats 4000000 in
set_option maxRecDepth 100000 in
theorem l3Blocks_any (f : Fc) (A1 : Option Addr) (n1 c1 : Nat) (A2 : Option Addr) (n2 c2 : Nat) (w : World) (hr : IsFc w w.heap.size f A1 n1 A2 n2) (hsm : SmallF f) (h16 : n2 ≤ 16) :
    Calls Try.prog 43 #[fcV f A1 n1 c1 A2 n2 c2] w fun e w' => e = .returned (.bool (blocksB f)) ∧ Below w.heap.size w w' := by
  have HL := put hr.stmts.1
  have hmk := fun W => run_make_row' (P := Try.prog) 22 3 (.int .i64 0) 8 Try.underlying22 Try.info3 rfl .i64 .i64 n2 (by omega) (by omega) W
  have hbA : Below w.heap.size w (w.alloc (.cells #[.int .i64 f.params, .int .i64 f.vars, .slice A1 n1 c1, .slice A2 n2 c2] 51)) := (Below.refl _ _).alloc (Nat.le_refl _) _
  have hkA := Keep.new w #[.int .i64 f.params, .int .i64 f.vars, .slice A1 n1 c1, .slice A2 n2 c2] 51
  unfold fcV
  have hroom0 : Room ((w.alloc (.cells #[.int .i64 f.params, .int .i64 f.vars, .slice A1 n1 c1, .slice A2 n2 c2] 51)).alloc (.cells (madeCells #[.int .i64 0] n2) 3)) (w.heap.size + 1) 3 n2 .i64 (seenL n2 []) := by
    refine ⟨madeCells #[.int .i64 0] n2, ?_, size_madeCells _ _, ?_⟩
    · have := heap_alloc_new (w.alloc (.cells #[.int .i64 f.params, .int .i64 f.vars, .slice A1 n1 c1, .slice A2 n2 c2] 51)) (.cells (madeCells #[.int .i64 0] n2) 3)
      rwa [World.size_alloc] at this
    · rw [seenL_length, toList_madeCells_one, seenL_nil, List.map_replicate, List.take_replicate, Nat.min_self]
  have hkB := hkA.alloc (.cells (madeCells #[.int .i64 0] n2) 3)
  have hbB := hbA.alloc (by simp) (.cells (madeCells #[.int .i64 0] n2) 3)
  have hsB : ((w.alloc (.cells #[.int .i64 f.params, .int .i64 f.vars, .slice A1 n1 c1, .slice A2 n2 c2] 51)).alloc (.cells (madeCells #[.int .i64 0] n2) 3)).heap.size = w.heap.size + 1 + 1 := by simp
  go_enter Try.func43, Try.ntmps43
  go_wp2
  clear hmk hbA hkA
  generalize (w.alloc (.cells #[.int .i64 f.params, .int .i64 f.vars, .slice A1 n1 c1, .slice A2 n2 c2] 51)).alloc (.cells (madeCells #[.int .i64 0] n2) 3) = WB at hroom0 hkB hbB hsB ⊢
  have hrows0 := Rows2.lit WB (w.heap.size + 2) (by omega) (.slice A1 n1 c1)
  have hnums0 := Nums.lit (WB.alloc (.cells #[.slice A1 n1 c1] 22)) (w.heap.size + 2) (by simp; omega) (-1)
  rw [hsB] at hrows0
  rw [World.size_alloc, hsB] at hnums0
  have hrows1 := hrows0.alloc (.cells #[.int .i64 (-1)] 3)
  have hkC := (hkB.alloc (.cells #[.slice A1 n1 c1] 22)).alloc (.cells #[.int .i64 (-1)] 3)
  have hbC := (hbB.alloc hbB.size (.cells #[.slice A1 n1 c1] 22)).alloc (by have := hbB.size; simp; omega) (.cells #[.int .i64 (-1)] 3)
  have hroomC := (hroom0.same (SameFrom.of_below ((Below.refl _ WB).alloc (Nat.le_refl _) (.cells #[.slice A1 n1 c1] 22)))).same (SameFrom.of_below ((Below.refl _ _).alloc (Nat.le_refl _) (.cells #[.int .i64 (-1)] 3)))
  clear hrows0 hroom0 hkB hbB
  go_loopw [4, 5, 23] (fun v u i wr => ∃ (k : Nat) (vs : List Value), k ≤ n2 ∧ i = .int .i64 k ∧ Rows2 wr (w.heap.size + 2) v vs ∧ Blks wr w.heap.size (blkTo f k) vs ∧ Nums wr (w.heap.size + 2) 3 .i64 u ((blkTo f k).map Prod.fst) ∧
      Room wr (w.heap.size + 1) 3 n2 .i64 (seenL n2 []) ∧ Keep wr w.heap.size #[.int .i64 f.params, .int .i64 f.vars, .slice A1 n1 c1, .slice A2 n2 c2] 51 ∧ Below w.heap.size w wr) (fun _ _ i _ => n2 - (intOf i).toNat)
  case atStart =>
    exact ⟨0, [.slice A1 n1 c1], Nat.zero_le _, rfl, hrows1, ⟨rfl, fun i o b hi => by
      match i, hi with
      | 0, hi => simp [blkTo, blkFrom] at hi; obtain ⟨rfl, rfl⟩ := hi; exact ⟨A1, n1, c1, rfl, hr.body.below hbC⟩
      | i + 1, hi => simp [blkTo, blkFrom] at hi⟩, hnums0, hroomC, hkC, hbC⟩
  case round =>
    obtain ⟨k, vs, hk, rfl, hrows, hblks, hnums, hroom, hkeep, hbel⟩ := hrel
    clear hrows1 hnums0 hroomC hkC hbC hsB
    have hsw := hkeep.lt
    have hsr := hroom.lt
    by_cases hlt : k < n2
    · obtain ⟨b, off, s, B1, m1, d1, B2, m2, d2, B3, m3, d3, hA, hb, g0, g1, g2, g3, g4, r1, r2, r3, hx⟩ := (hr.stmts.below hbel).at_ hlt
      subst hA
      have hlv : vs.length ≤ 1 + 2 * k := by rw [hblks.1]; exact blkTo_length f k
      have hlo : ((blkTo f k).map Prod.fst).length ≤ 1 + 2 * k := by rw [List.length_map]; exact blkTo_length f k
      have hmore := put (blkTo_more hx.out)
      clear r1
      go_wp2_with (first
        | (at_builtin; refine wpList_append_two rfl _ _ rfl (w.heap.size + 2) _ vs rfl (by simp; omega) ((hrows.alloc _).alloc _) (by omega) (wr.heap.size + 1) (.slice B2 m2 d2) (.slice B3 m3 d3) rfl (by simp) (by simp) rfl rfl ?_; intro v1 w1 hrows1 hg1; have hnums1 := ((hnums.alloc _).alloc _).other ((hrows.alloc _).alloc _) hg1; have hs1 := hg1.size; simp at hs1)
        | (at_builtin; refine wpList_append_two_nums rfl _ _ rfl (w.heap.size + 2) _ ((blkTo f k).map Prod.fst) rfl (by simp; omega) (hnums1.alloc _) (by omega) w1.heap.size (k : Int) (k : Int) rfl (by simp) (by simp) ?_; intro u2 w2 hnums2 hg2))
      have hrw1 : ∀ q, _ = some q → w.heap.size + 1 < q := fun q hq => by have := (((hrows.alloc (.cells #[.int .i64 s.kind, .int .i64 s.n, .slice B1 m1 d1, .slice B2 m2 d2, .slice B3 m3 d3] 68)).alloc (.cells #[.slice B2 m2 d2, .slice B3 m3 d3] 22)).lt q hq).1; omega
      have hrw2 : ∀ q, _ = some q → w.heap.size + 1 < q := fun q hq => by have := (World.ownsRow.lt hnums1 q hq).1; omega
      have hrows2 := (hrows1.alloc (.cells #[.int .i64 (k : Int), .int .i64 (k : Int)] 3)).other (hnums1.alloc _) hg2
      have hbel1 : Below w.heap.size w w1 := ((hbel.alloc hbel.size (.cells #[.int .i64 s.kind, .int .i64 s.n, .slice B1 m1 d1, .slice B2 m2 d2, .slice B3 m3 d3] 68)).alloc (by have := hbel.size; simp; omega) (.cells #[.slice B2 m2 d2, .slice B3 m3 d3] 22)).grown hg1 (by have := hbel.size; simp; omega) (fun q hq => by have := hrw1 q hq; omega)
      have hbel2 : Below w.heap.size w w2 := (hbel1.alloc hbel1.size (.cells #[.int .i64 (k : Int), .int .i64 (k : Int)] 3)).grown hg2 (by have := hbel1.size; simp; omega) (fun q hq => by have := hrw2 q hq; omega)
      have hroom2 := (((((hroom.same (SameFrom.of_below ((Below.refl _ wr).alloc (Nat.le_refl _) (.cells #[.int .i64 s.kind, .int .i64 s.n, .slice B1 m1 d1, .slice B2 m2 d2, .slice B3 m3 d3] 68)))).same (SameFrom.of_below ((Below.refl _ _).alloc (Nat.le_refl _) (.cells #[.slice B2 m2 d2, .slice B3 m3 d3] 22)))).grownR hg1 hrw1).same (SameFrom.of_below ((Below.refl _ _).alloc (Nat.le_refl _) (.cells #[.int .i64 (k : Int), .int .i64 (k : Int)] 3)))).grownR hg2 hrw2)
      have hkeep2 := (((((hkeep.alloc (.cells #[.int .i64 s.kind, .int .i64 s.n, .slice B1 m1 d1, .slice B2 m2 d2, .slice B3 m3 d3] 68)).alloc (.cells #[.slice B2 m2 d2, .slice B3 m3 d3] 22)).grownR hg1 (fun q hq => by have := hrw1 q hq; omega)).alloc (.cells #[.int .i64 (k : Int), .int .i64 (k : Int)] 3)).grownR hg2 (fun q hq => by have := hrw2 q hq; omega))
      have hbl2 : Blks w2 w.heap.size (blkTo f (k + 1)) (vs ++ [.slice B2 m2 d2, .slice B3 m3 d3]) := by
        have hbw : Below w.heap.size wr w2 := ⟨hbel2.os.trans hbel.os.symm, hbel2.tape.trans hbel.tape.symm, hbel2.output.trans hbel.output.symm, by have := hg2.size; simp at this; omega, fun q hq => (hbel2.block q hq).trans (hbel.block q hq).symm⟩
        have := ((hblks.below hbw).snoc (c := d2) (k : Int) (r2.below hbw)).snoc (c := d3) (k : Int) (r3.below hbw)
        rw [hmore.out]
        simpa [List.append_assoc] using this
      have hnm2 := put (show Nums w2 (w.heap.size + 2) 3 .i64 u2 ((blkTo f (k + 1)).map Prod.fst) by rw [hmore.out]; simpa using hnums2)
      clear hnums1 hnums2 hrows1 hrw1 hrw2 hg1 hg2 hblks hrows hnums hroom hkeep hbel hbel1
      go_wp2
      go_roundw
      case rel => exact ⟨k + 1, _, by omega, by go_num, hrows2, hbl2, hnm2.out, hroom2, hkeep2, hbel2⟩
      case measure => simp [intOf]; omega
    · obtain rfl : k = n2 := by omega
      have hall : blkTo f k = blkL f := by unfold blkTo blkL; rw [List.take_of_length_le (by rw [HL.out]; omega)]
      rw [hall] at hblks hnums
      have hN1 : 0 < vs.length := by rw [hblks.1]; simp [blkL]
      have hN2 : vs.length ≤ 33 := by rw [hblks.1, ← hall]; have := blkTo_length f k; omega
      obtain ⟨gv, cv, rfl, _⟩ := hrows.form hN1
      obtain ⟨gu, cu, rfl⟩ := hnums.form (by simp [blkL])
      have HLen := put hblks.1
      have hul : (List.map Prod.fst (blkL f)).length = vs.length := by rw [List.length_map, HLen.out]
      rw [hul]
      have hsmall := put (blkL_small hsm)
      clear hall hul
      go_wp2
      go_loopw [43] (fun i wq => ∃ i' : Nat, i' ≤ vs.length ∧ i = .int .i64 i' ∧ Hid (∀ p ∈ (blkL f).take i', blkOk k p) ∧ Rows2 wq (w.heap.size + 2) (.slice (some ⟨gv, 0, none⟩) vs.length cv) vs ∧ Blks wq w.heap.size (blkL f) vs ∧ Nums wq (w.heap.size + 2) 3 .i64 (.slice (some ⟨gu, 0, none⟩) vs.length cu) ((blkL f).map Prod.fst) ∧
          Room wq (w.heap.size + 1) 3 k .i64 (seenL k (((blkL f).take i').flatMap Prod.snd)) ∧ Keep wq w.heap.size #[.int .i64 f.params, .int .i64 f.vars, .slice A1 n1 c1, .slice A2 k c2] 51 ∧ Below w.heap.size w wq) (fun i _ => vs.length - (intOf i).toNat)
      case atStart => exact ⟨0, Nat.zero_le _, rfl, put (by simp), hrows, hblks, by rw [← show (List.map Prod.fst (blkL f)).length = vs.length by rw [List.length_map, HLen.out]]; exact hnums, by simpa using hroom, hkeep, hbel⟩
      case round =>
        clear hrows hblks hnums hroom hkeep hbel
        obtain ⟨i, hi, rfl, hok, hrows, hblks, hnums, hroom, hkeep, hbel⟩ := hrel
        have hsw := hkeep.lt
        have hsr := hroom.lt
        by_cases hlt2 : i < vs.length
        · obtain ⟨⟨o, b⟩, hp⟩ : ∃ p, (blkL f)[i]? = some p := ⟨_, List.getElem?_eq_getElem (by rw [← HLen.out]; exact hlt2)⟩
          obtain ⟨A, m, c, hv, hb⟩ := hblks.2 i o b hp
          have hcell := hrows.at_ hv
          have hown := hnums.at_ (show (List.map Prod.fst (blkL f))[i]? = some o by simp [hp])
          have hm : m ≤ 1048576 := by have := hsmall.out _ (mem_of_at hp); simp only at this; rw [hb.1] at this; exact this
          have y3 := hkeep.cell 3
          simp at y3
          have HNO := put (show ¬ blkOk k (o, b) → blocksB f = false by
            intro h
            cases hB : blocksB f with
            | false => rfl
            | true => exact absurd (by have := ((blocksB_iff f).1 hB).1 _ (mem_of_at hp); rwa [HL.out] at this) h)
          go_wp2_with fail
          refine (l1Rising_any A m c b 0 ((k : Int) - 1) _ (hb.more hbel.size) hm).mono ?_
          rintro e w' ⟨rfl, rfl⟩
          cases hris : risB 0 ((k : Int) - 1) b with
          | false =>
            have hf := put (HNO.out (fun h => by have := h.1; unfold risB at hris; simp only [decide_eq_false_iff_not] at hris; exact hris this))
            clear hris
            go_wp2
            go_ret
            exact ⟨ret_bool hf.out.symm, hbel⟩
          | true =>
            have HR := put (show rises 0 ((k : Int) - 1) b by unfold risB at hris; simpa only [decide_eq_true_eq] using hris)
            clear hris hcell hown hv y3
            go_wp2
            go_loopw [57] (fun j wz => ∃ j' : Nat, j' ≤ m ∧ j = .int .i64 j' ∧ Hid (∀ x ∈ b.take j', o < x) ∧ Rows2 wz (w.heap.size + 2) (.slice (some ⟨gv, 0, none⟩) vs.length cv) vs ∧ Blks wz w.heap.size (blkL f) vs ∧ Nums wz (w.heap.size + 2) 3 .i64 (.slice (some ⟨gu, 0, none⟩) vs.length cu) ((blkL f).map Prod.fst) ∧
                Room wz (w.heap.size + 1) 3 k .i64 (seenL k (((blkL f).take i).flatMap Prod.snd ++ b.take j')) ∧ Keep wz w.heap.size #[.int .i64 f.params, .int .i64 f.vars, .slice A1 n1 c1, .slice A2 k c2] 51 ∧ Reads wz w.heap.size .i64 A m b ∧ Below w.heap.size w wz) (fun j _ => m - (intOf j).toNat)
            case atStart => exact ⟨0, Nat.zero_le _, rfl, put (by simp), hrows, hblks, hnums, by simpa using hroom, hkeep, hb, hbel⟩
            case round =>
              clear hrows hblks hnums hroom hkeep hbel hb
              obtain ⟨j, hj, rfl, hgt, hrows, hblks, hnums, hroom, hkeep, hb, hbel⟩ := hrel
              have hsr := hroom.lt
              by_cases hlt3 : j < m
              · obtain ⟨b', off', x, hA', hbb', hcx, hxx⟩ := hb.at_ hlt3
                subst hA'
                have hxr := (HR.out j x (by rw [hb.1]; exact hlt3) hxx.out).1
                obtain ⟨q, rfl⟩ : ∃ q : Nat, x = q := ⟨x.toNat, by omega⟩
                have hqk : q < k := by omega
                have hown := hnums.at_ (show (List.map Prod.fst (blkL f))[i]? = some o by simp [hp])
                obtain ⟨ys, hys⟩ : ∃ ys, ((blkL f).take i).flatMap Prod.snd ++ b.take j = ys := ⟨_, rfl⟩
                have hyl : ys.length ≤ 100000000 := by
                  rw [← hys, List.length_append, List.length_take]
                  have h1 := flat_len (bs := (blkL f).take i) (fun p hp => hsmall.out p (List.mem_of_mem_take hp))
                  rw [List.length_take] at h1
                  omega
                have hnext := put (show ys ++ [(q : Int)] = ((blkL f).take i).flatMap Prod.snd ++ b.take (j + 1) by rw [takeA_more hxx.out, ← List.append_assoc, hys])
                rw [hys] at hroom
                have hsc := hroom.cell q (by rw [seenL_length]; exact hqk)
                rw [show (seenL k ys).getD q 0 = ((ys.count (q : Int) : Nat) : Int) by simp [List.getD, seenL_at hqk]] at hsc
                have hsf := hroom.frozen q
                have hcl : ys.count (q : Int) ≤ ys.length := List.count_le_length
                have hwr : wrap64 (((ys.count (q : Int) : Nat) : Int) + 1) = ((ys.count (q : Int) : Nat) : Int) + 1 := by unfold wrap64; omega
                have hset := hroom.setAt q (wrap64 (((ys.count (q : Int) : Nat) : Int) + 1))
                rw [hwr, seenL_set hqk, hnext.out] at hset
                obtain ⟨ct, hct⟩ : ∃ ct : Nat, ys.count (q : Int) = ct := ⟨_, rfl⟩
                rw [hct] at hset hsc hwr hcl
                have HS := put hset
                have HW := put hwr
                clear hset hys hct hwr
                by_cases ho : o < (q : Int)
                · have hgt2 := put (show ∀ x ∈ b.take (j + 1), o < x by rw [takeA_more hxx.out]; intro x hx; rcases List.mem_append.1 hx with hx | hx; exact hgt.out x hx; simp at hx; subst hx; exact ho)
                  have hb2 : Below w.heap.size wr (wr.setCell ⟨w.heap.size + 1, q, none⟩ (.int .i64 ((ct : Int) + 1))) := (Below.refl _ wr).setCell (p := ⟨w.heap.size + 1, q, none⟩) (by simp) _
                  have e1 := hrows.setBelow (a := ⟨w.heap.size + 1, q, none⟩) (by simp) (.int .i64 ((ct : Int) + 1))
                  have e2 := hblks.below hb2
                  have e3 := hnums.setBelow (a := ⟨w.heap.size + 1, q, none⟩) (by simp) (.int .i64 ((ct : Int) + 1))
                  have e4 := hkeep.other (g' := w.heap.size + 1) (by omega) q (.int .i64 ((ct : Int) + 1))
                  have e5 := hb.below hb2
                  have e6 := hbel.trans hb2
                  clear hrows hblks hnums hkeep hb hbel hroom hb2
                  go_wp2
                  go_roundw
                  case rel => exact ⟨j + 1, by omega, by go_num, hgt2, e1, e2, e3, HS.out, e4, e5, e6⟩
                  case measure => simp [intOf]; omega
                · have hf := put (HNO.out (fun h => ho (h.2 _ (mem_of_at hxx.out))))
                  have ho' : (q : Int) ≤ o := by omega
                  clear hrows hblks hnums hkeep hb hroom
                  go_wp2
                  go_ret
                  exact ⟨ret_bool hf.out.symm, hbel⟩
              · have hbt : b.take j = b := List.take_of_length_le (by rw [hb.1]; omega)
                have hgt2 := hgt.out
                rw [hbt] at hgt2 hroom
                have hok2 := put (show ∀ p ∈ (blkL f).take (i + 1), blkOk k p by
                  rw [takeA_more hp]; intro p hpp; rcases List.mem_append.1 hpp with h | h; exact hok.out p h; simp at h; subst h; exact ⟨HR.out, hgt2⟩)
                have HRM := put (show Room wr (w.heap.size + 1) 3 k .i64 (seenL k (((blkL f).take (i + 1)).flatMap Prod.snd)) by rw [takeA_more hp, List.flatMap_append]; simpa using hroom)
                clear hgt2 hroom hbt
                go_wp2
                go_roundw
                case rel => exact ⟨i + 1, by omega, by go_num, hok2, hrows, hblks, hnums, HRM.out, hkeep, hbel⟩
                case measure => simp [intOf]; omega
        · have hti : (blkL f).take i = blkL f := List.take_of_length_le (by rw [← HLen.out]; omega)
          have hok2 := hok.out
          rw [hti] at hok2 hroom
          have HF := put (show blocksB f = allIn 1 1 (seenL k ((blkL f).flatMap Prod.snd)) by
            rw [Bool.eq_iff_iff, blocksB_iff, seen_all]
            unfold blocksOk
            rw [HL.out]
            exact ⟨fun h => h.2, fun h => ⟨hok2, h⟩⟩)
          have hrd := hroom.reads (by rw [seenL_length])
          go_wp2_with fail
          refine (l1All_any _ _ _ _ 1 1 _ hrd (by omega)).mono ?_
          rintro e w' ⟨rfl, rfl⟩
          clear hrd
          go_wp2
          go_ret
          exact ⟨ret_bool HF.out.symm, hbel⟩

end Go.Proofs.Ytaogdaoiijmmhaa

/-
  Texts joined: AppN LoV LoB LoK.
-/
import Derived.Test.YtpmpjiigmjnniaaGreatJSpA
import Derived.Test.YtpmpjiigmjnniaaGreatJSpO
import Derived.ArgAppend
import Derived.Test.YtpmpjiigmjnniaaGreatJLowS
import Derived.Test.YtpmpjiigmjnniaaGreatJSitI
import Derived.Test.YtpmpjiigmjnniaaGreatJYield
import Derived.Test.YtpmpjiigmjnniaaGreatJPEq4
/-
  One number put behind a row of the call's own: where the row lies afterwards. What a row cut off is. The reference's reckoning and copying.
-/
namespace Go.Proofs.YtpmpjiigmjnniaaGreat
open Go.RowKit Exs

/-- Where a row lies behind an append: where it lay, or in a new block. -/
def Stays (w : World) (v v' : Value) : Prop := ∀ k, v'.ownBlock = some k → v.ownBlock = some k ∨ w.heap.size ≤ k
theorem Stays.refl (w : World) (v : Value) : Stays w v v := fun _ h => .inl h
theorem Stays.trans {w w' : World} {v u x : Value} (h : Stays w v u) (k : Stays w' u x) (hs : w.heap.size ≤ w'.heap.size) : Stays w v x := fun i hi => by
  rcases k i hi with h1 | h1
  · exact h i h1
  · exact .inr (by omega)

theorem run_append1 (w : World) (B : Nat) (v : Value) (xs : List Int) (h : Nums w B 3 .i64 v xs) (hB : B ≤ w.heap.size) (g : Nat) (x : Int) (hc : w.cell? ⟨g, 0, none⟩ = some (.int .i64 x)) (hlen : xs.length ≤ 1000000) (ty : TypeId) :
    ∃ v' w', (Builtin.append_ #[26, 26] ty #[v, .slice (some ⟨g, 0, none⟩) 1 1]).run Tryz.prog w = .ok v' w' ∧ Nums w' B 3 .i64 v' (xs ++ [x]) ∧ w.grownBy w' v.ownBlock ∧ Stays w v v' := by
  obtain ⟨i0, hi, hz0, hz1, hz2⟩ := info_parts Tryz.info3
  have hnews : ∀ j u, [Value.int .i64 x][j]? = some u → w.cell? ((⟨g, 0, none⟩ : Addr).add j) = some u := by
    intro j u hj
    match j, hj with
    | 0, hj => simp at hj; subst hj; simpa [Addr.add] using hc
  have h1 : ∀ u ∈ [Value.int .i64 x], u.oneCell' = true := by intro u hu; simp at hu; subst hu; rfl
  obtain ⟨v', w', hr, hown, hgr, _⟩ := run_append_own (P := Tryz.prog) w B 26 ty 3 i0 (.int .i64 0) 1 8 Tryz.underlying26 hi hz0 hz1 hz2 rfl (by decide) v xs.length _ h ⟨g, 0, none⟩ 1 1 [.int .i64 x] rfl hnews h1 (by unfold maxLen; omega) (by omega) hB
  refine ⟨v', w', hr, by unfold Nums; simpa using hown, hgr, ?_⟩
  rcases h.2 with ⟨rfl, h0⟩ | ⟨g', cap, cur, rfl, hBg, hg, hnc, hcm, hcs, htk⟩
  · obtain rfl : xs = [] := List.eq_nil_of_length_eq_zero h0
    obtain ⟨v2, w2, hr2, hown2, _, _⟩ := run_append_own (P := Tryz.prog) w w.heap.size 26 ty 3 i0 (.int .i64 0) 1 8 Tryz.underlying26 hi hz0 hz1 hz2 rfl (by decide) (.slice none 0 0) 0 [] (World.ownsRow_nil _ _ _ _) ⟨g, 0, none⟩ 1 1 [.int .i64 x] rfl hnews h1 (by unfold maxLen; omega) (by omega) (Nat.le_refl _)
    rw [hr2] at hr
    injection hr with e1 e2
    subst e1; subst e2
    exact fun k hk => .inr (World.ownsRow.lt hown2 k hk).1
  · by_cases hroom : xs.length + 1 ≤ cap
    · have hr2 := run_append_room (P := Tryz.prog) w 26 ty 3 i0 Tryz.underlying26 hi g' xs.length cap cur hg ⟨g, 0, none⟩ 1 1 [.int .i64 x] (by rw [hz1]; rfl) hnews h1 hroom (by rw [hz1]; simp; omega)
      rw [hr2] at hr
      injection hr with e1 e2
      subst e1
      exact fun k hk => .inl (by simpa [Value.ownBlock] using hk)
    · obtain ⟨v2, w2, hr2, hown2, _⟩ := run_append_arg_grows (P := Tryz.prog) w 26 ty 3 i0 (.int .i64 0) 1 8 Tryz.underlying26 hi hz0 hz1 hz2 rfl (by decide) ⟨g', 0, none⟩ xs.length cap (xs.map (Value.int .i64)) (by simp) (World.ownsRow.cells (g := g') h rfl) ⟨g, 0, none⟩ 1 1 [.int .i64 x] rfl hnews (by omega) (by unfold maxLen; omega) (by omega)
      rw [hr2] at hr
      injection hr with e1 e2
      subst e1; subst e2
      exact fun k hk => .inr (World.ownsRow.lt hown2 k hk).1

section
variable {w : World} {ops : Array Oper} {rest : List Oper} {o : Oper} {a : Act} {K : Act → World → Prop} {Q : Exit → Act → World → Prop} {E : Prop}
theorem wp_append1 (s x : Operand) (ho : o.op = .call { callee := .builtin .append, args := #[s, x], argTypes := #[26, 26] }) (B : Nat) (v : Value) (xs : List Int) (hs : a.eval s = v) (hB : B ≤ w.heap.size) (hown : Nums w B 3 .i64 v xs)
    (g : Nat) (b : Int) (hx : a.eval x = .slice (some ⟨g, 0, none⟩) 1 1) (hcell : w.cell? ⟨g, 0, none⟩ = some (.int .i64 b)) (hlen : xs.length ≤ 1000000)
    (h : ∀ v' w', Nums w' B 3 .i64 v' (xs ++ [b]) → w.grownBy w' v.ownBlock → Stays w v v' → K (a.put o.dst v') w') : o.wp Tryz.prog a w K Q := by
  obtain ⟨v', w', hr, h2, h3, h4⟩ := run_append1 w B v xs hown hB g b hcell hlen o.type
  unfold Oper.wp execOp
  simp only [ho, resolve, invoke, builtin, Sem.run_bind, Sem.run_pure, Result.andThen_ok, List.map_toArray, List.map_cons, List.map_nil, hs, hx, hr]
  exact h v' w' h2 h3 h4
theorem wpList_append1 (hgd : o.guard = none) (s x : Operand) (ho : o.op = .call { callee := .builtin .append, args := #[s, x], argTypes := #[26, 26] }) (B : Nat) (v : Value) (xs : List Int) (hs : a.eval s = v) (hB : B ≤ w.heap.size) (hown : Nums w B 3 .i64 v xs)
    (g : Nat) (b : Int) (hx : a.eval x = .slice (some ⟨g, 0, none⟩) 1 1) (hcell : w.cell? ⟨g, 0, none⟩ = some (.int .i64 b)) (hlen : xs.length ≤ 1000000)
    (h : ∀ v' w', Nums w' B 3 .i64 v' (xs ++ [b]) → w.grownBy w' v.ownBlock → Stays w v v' → wpList Tryz.prog ops Q rest (a.put o.dst v') w') : wpList Tryz.prog ops Q (o :: rest) a w :=
  wpList_plain hgd fun _ hK => wp_append1 s x ho B v xs hs hB hown g b hx hcell hlen fun v' w' h1 h2 h3 => hK _ _ (h v' w' h1 h2 h3)
theorem step_append1 (hgd : o.guard = none) (s x : Operand) (ho : o.op = .call { callee := .builtin .append, args := #[s, x], argTypes := #[26, 26] }) (B : Nat) (v : Value) (xs : List Int) (hs : a.eval s = v) (hB : B ≤ w.heap.size) (hown : Nums w B 3 .i64 v xs)
    (g : Nat) (b : Int) (hx : a.eval x = .slice (some ⟨g, 0, none⟩) 1 1) (hcell : w.cell? ⟨g, 0, none⟩ = some (.int .i64 b)) (hlen : xs.length ≤ 1000000)
    (h : ∀ v' w', Nums w' B 3 .i64 v' (xs ++ [b]) → w.grownBy w' v.ownBlock → Stays w v v' → K (a.put o.dst v') w') : if Region.wanted o (yielded ops a.tmps) = true then Oper.wp Tryz.prog o a w K Q else E := by
  have hw : Region.wanted o (yielded ops a.tmps) = true := by simp [Region.wanted, hgd]
  rw [if_pos hw]
  exact wp_append1 s x ho B v xs hs hB hown g b hx hcell hlen h
end

/-- A row of the call's own that is not empty. -/
theorem Nums.form' {w : World} {B : Nat} {e : TypeId} {k : IntKind} {v : Value} {xs : List Int} (h : Nums w B e k v xs) (hn : 0 < xs.length) :
    ∃ g cap, v = .slice (some ⟨g, 0, none⟩) xs.length cap ∧ B ≤ g ∧ g < w.heap.size ∧ xs.length ≤ cap ∧ cap ≤ maxLen ∧ ∀ j, j < xs.length → w.cell? ⟨g, j, none⟩ = some (.int k (xs.getD j 0)) := by
  rcases h.2 with ⟨_, h0⟩ | ⟨g, cap, cur, rfl, hB, hg, hc, hm, _⟩
  · omega
  · refine ⟨g, cap, rfl, hB, (Array.getElem?_eq_some_iff.1 hg).1, hc, hm, fun j hj => ?_⟩
    rw [World.ownsRow.cellAt h j (by omega)]
    simp [List.getElem?_eq_getElem hj, List.getD]
theorem Nums.cut {w : World} {B : Nat} {e : TypeId} {k : IntKind} {g cap : Nat} {xs : List Int} (h : Nums w B e k (.slice (some ⟨g, 0, none⟩) xs.length cap) xs) (m : Nat) (hm : m ≤ xs.length) :
    Nums w B e k (.slice (some ⟨g, 0, none⟩) m cap) (xs.take m) := by
  have hl : (xs.take m).length = m := by rw [List.length_take]; omega
  rcases h.2 with ⟨h0, _⟩ | ⟨g', cap', cur, hv, hB, hg, hc, hmx, hs, ht⟩
  · cases h0
  · injection hv with h1 _ h2
    injection h1 with h1
    injection h1 with h1
    subst h1; subst h2
    refine ⟨by simp, .inr ⟨g, cap, cur, by rw [hl], hB, hg, by omega, hmx, hs, ?_⟩⟩
    rw [hl, List.map_take, ← ht, List.take_take]
    simp only [Nat.mul_one]
    rw [Nat.min_eq_left hm]

/-- 'append([]int{}, l...)'. -/
theorem run_append_own0 (w : World) (A : Option Addr) (n c : Nat) (xs : List Int) (hr : Reads w w.heap.size .i64 A n xs) (hn : n ≤ 1000) (ty : TypeId) :
    ∃ v' w', (Builtin.append_ #[26, 26] ty #[.slice (some ⟨w.heap.size, 0, none⟩) 0 0, .slice A n c]).run Tryz.prog (w.alloc (.cells #[] 3)) = .ok v' w' ∧ Nums w' w.heap.size 3 .i64 v' xs ∧ Below w.heap.size w w' := by
  obtain ⟨i0, hi, hz0, hz1, hz2⟩ := info_parts Tryz.info3
  have hb := (Below.refl w.heap.size w).alloc (Nat.le_refl _) (.cells #[] 3)
  have hown : Nums (w.alloc (.cells #[] 3)) w.heap.size 3 .i64 (.slice (some ⟨w.heap.size, 0, none⟩) 0 0) [] := ⟨rfl, .inr ⟨w.heap.size, 0, #[], rfl, Nat.le_refl _, heap_alloc_new _ _, Nat.le_refl _, by unfold maxLen; omega, rfl, rfl⟩⟩
  have hl := hr.1
  by_cases h0 : n = 0
  · subst h0
    obtain rfl : xs = [] := List.eq_nil_of_length_eq_zero hl
    refine ⟨.slice (some ⟨w.heap.size, 0, none⟩) 0 0, w.alloc (.cells #[] 3), ?_, hown, hb⟩
    cases A with
    | none => exact run_append_none (P := Tryz.prog) _ 26 ty 3 i0 Tryz.underlying26 hi _ 0 0 (Nat.le_refl _)
    | some a =>
      have := run_append_room_cells (P := Tryz.prog) (w.alloc (.cells #[] 3)) 26 ty 3 i0 Tryz.underlying26 hi w.heap.size 0 0 0 a 0 c [] (by simp) (by simp) (by simp) (Nat.le_refl _) (by simp) (by simp)
      simpa [World.setCells] using this
  · obtain ⟨b, off, rfl, hbl, hc⟩ := hr.2 (by omega)
    have hnews : ∀ j u, (xs.map (Value.int .i64))[j]? = some u → (w.alloc (.cells #[] 3)).cell? ((⟨b, off, none⟩ : Addr).add j) = some u := by
      intro j u hj
      simp only [List.getElem?_map, Option.map_eq_some_iff] at hj
      obtain ⟨x, hx, rfl⟩ := hj
      rw [show (⟨b, off, none⟩ : Addr).add j = ⟨b, off + j, none⟩ by unfold Addr.add; split <;> simp_all]
      exact (hb.cell (p := ⟨b, off + j, none⟩) hbl).trans (hc j x hx)
    obtain ⟨v', w', hrun, hown', hgr, _⟩ := run_append_own (P := Tryz.prog) (w.alloc (.cells #[] 3)) w.heap.size 26 ty 3 i0 (.int .i64 0) 1 8 Tryz.underlying26 hi hz0 hz1 hz2 rfl (by decide) _ 0 [] hown ⟨b, off, none⟩ n c (xs.map (Value.int .i64)) (by simp [hl]) hnews (nums_oneCell .i64 xs) (by unfold maxLen; omega) (by omega) hb.size
    refine ⟨v', w', hrun, ?_, hb.grown hgr hb.size fun j hj => (World.ownsRow.lt hown j hj).1⟩
    unfold Nums
    rw [hl]
    simpa using hown'
theorem wpList_own0 {w : World} {ops : Array Oper} {rest : List Oper} {o : Oper} {a : Act} {Q : Exit → Act → World → Prop} (hgd : o.guard = none) (s x : Operand) (ho : o.op = .call { callee := .builtin .append, args := #[s, x], argTypes := #[26, 26] })
    (A : Option Addr) (n c : Nat) (xs : List Int) (hs : a.eval s = .slice (some ⟨w.heap.size, 0, none⟩) 0 0) (hx : a.eval x = .slice A n c) (hr : Reads w w.heap.size .i64 A n xs) (hn : n ≤ 1000)
    (h : ∀ v' w', Nums w' w.heap.size 3 .i64 v' xs → Below w.heap.size w w' → wpList Tryz.prog ops Q rest (a.put o.dst v') w') : wpList Tryz.prog ops Q (o :: rest) a (w.alloc (.cells #[] 3)) := by
  refine wpList_plain hgd fun K hK => ?_
  obtain ⟨v', w', hrun, h2, h3⟩ := run_append_own0 w A n c xs hr hn o.type
  unfold Oper.wp execOp
  simp only [ho, resolve, invoke, builtin, Sem.run_bind, Sem.run_pure, Result.andThen_ok, List.map_toArray, List.map_cons, List.map_nil, hs, hx, hrun]
  exact hK _ _ (h v' w' h2 h3)

end Go.Proofs.YtpmpjiigmjnniaaGreat

/-
  Statements of the program's blocks as values; a row of them in the making.
-/
namespace Go.Proofs.YtpmpjiigmjnniaaGreat
open Go.RowKit Exs

/-- The values of a block's statements; what they lead to lies in blocks of a set. -/
def HV (W : World) (S : Nat → Prop) : List Value → Lo → Prop
  | xs, .nil => xs = []
  | xs, .plain c r => ∃ v ys, xs = .iface 130 v :: ys ∧ InsAt W S v c ∧ HV W S ys r
  | xs, .ifs e t l r => ∃ v At nt ct Al nl cl ys, xs = .iface 132 (.agg #[v, .slice At nt ct, .slice Al nl cl]) :: ys ∧ InsAt W S v e ∧ nt = t.many ∧ nl = l.many ∧ HoldsLo W S At 0 t ∧ HoldsLo W S Al 0 l ∧ HV W S ys r
  | xs, .whl e t r => ∃ v At nt ct ys, xs = .iface 134 (.agg #[v, .slice At nt ct]) :: ys ∧ InsAt W S v e ∧ nt = t.many ∧ HoldsLo W S At 0 t ∧ HV W S ys r
theorem HV.app {W : World} {S : Nat → Prop} {ys : List Value} {b : Lo} (hb : HV W S ys b) : ∀ (a : Lo) (xs : List Value), HV W S xs a → HV W S (xs ++ ys) (a.app b)
  | .nil, xs, h => by
    have h : xs = [] := h
    subst h; exact hb
  | .plain c r, xs, h => by
    obtain ⟨v, zs, rfl, h1, h2⟩ := h
    exact ⟨v, zs ++ ys, rfl, h1, HV.app hb r zs h2⟩
  | .ifs e t l r, xs, h => by
    obtain ⟨v, At, nt, ct, Al, nl, cl, zs, rfl, h1, h2, h3, h4, h5, h6⟩ := h
    exact ⟨v, At, nt, ct, Al, nl, cl, zs ++ ys, rfl, h1, h2, h3, h4, h5, HV.app hb r zs h6⟩
  | .whl e t r, xs, h => by
    obtain ⟨v, At, nt, ct, zs, rfl, h1, h2, h3, h4⟩ := h
    exact ⟨v, At, nt, ct, zs ++ ys, rfl, h1, h2, h3, HV.app hb r zs h4⟩
theorem HV.kept {W W' : World} {S : Nat → Prop} (hs : ∀ b, S b → W'.heap[b]? = W.heap[b]?) : ∀ (a : Lo) (xs : List Value), HV W S xs a → HV W' S xs a
  | .nil, _, h => h
  | .plain c r, xs, h => by
    obtain ⟨v, zs, rfl, h1, h2⟩ := h
    exact ⟨v, zs, rfl, h1.kept hs, HV.kept hs r zs h2⟩
  | .ifs e t l r, xs, h => by
    obtain ⟨v, At, nt, ct, Al, nl, cl, zs, rfl, h1, h2, h3, h4, h5, h6⟩ := h
    exact ⟨v, At, nt, ct, Al, nl, cl, zs, rfl, h1.kept hs, h2, h3, HoldsLo.kept hs t _ _ h4, HoldsLo.kept hs l _ _ h5, HV.kept hs r zs h6⟩
  | .whl e t r, xs, h => by
    obtain ⟨v, At, nt, ct, zs, rfl, h1, h2, h3, h4⟩ := h
    exact ⟨v, At, nt, ct, zs, rfl, h1.kept hs, h2, HoldsLo.kept hs t _ _ h3, HV.kept hs r zs h4⟩
theorem HV.more {W : World} {S S' : Nat → Prop} (hs : ∀ b, S b → S' b) : ∀ (a : Lo) (xs : List Value), HV W S xs a → HV W S' xs a
  | .nil, _, h => h
  | .plain c r, xs, h => by
    obtain ⟨v, zs, rfl, h1, h2⟩ := h
    exact ⟨v, zs, rfl, h1.more hs, HV.more hs r zs h2⟩
  | .ifs e t l r, xs, h => by
    obtain ⟨v, At, nt, ct, Al, nl, cl, zs, rfl, h1, h2, h3, h4, h5, h6⟩ := h
    exact ⟨v, At, nt, ct, Al, nl, cl, zs, rfl, h1.more hs, h2, h3, HoldsLo.more hs t _ _ h4, HoldsLo.more hs l _ _ h5, HV.more hs r zs h6⟩
  | .whl e t r, xs, h => by
    obtain ⟨v, At, nt, ct, zs, rfl, h1, h2, h3, h4⟩ := h
    exact ⟨v, At, nt, ct, zs, rfl, h1.more hs, h2, HoldsLo.more hs t _ _ h3, HV.more hs r zs h4⟩
theorem HV.many {W : World} {S : Nat → Prop} : ∀ (a : Lo) (xs : List Value), HV W S xs a → xs.length = a.many
  | .nil, xs, h => by
    have h : xs = [] := h
    subst h; rfl
  | .plain c r, xs, h => by
    obtain ⟨v, zs, rfl, h1, h2⟩ := h
    simp [Lo.many, HV.many r zs h2]
  | .ifs e t l r, xs, h => by
    obtain ⟨v, At, nt, ct, Al, nl, cl, zs, rfl, h1, h2, h3, h4, h5, h6⟩ := h
    simp [Lo.many, HV.many r zs h6]
  | .whl e t r, xs, h => by
    obtain ⟨v, At, nt, ct, zs, rfl, h1, h2, h3, h4⟩ := h
    simp [Lo.many, HV.many r zs h4]
/-- Values that stand in cells from a place on. -/
theorem HV.holds {W : World} {S : Nat → Prop} {g : Nat} (hg : S g) : ∀ (a : Lo) (xs : List Value) (i : Nat), HV W S xs a → (∀ j u, xs[j]? = some u → W.cell? ⟨g, i + j, none⟩ = some u) → HoldsLo W S (some ⟨g, 0, none⟩) i a
  | .nil, _, _, _, _ => trivial
  | .plain c r, xs, i, h, hc => by
    obtain ⟨v, zs, rfl, h1, h2⟩ := h
    have h0 := hc 0 _ rfl
    exact ⟨⟨g, 0, v, rfl, hg, by rw [Nat.zero_add]; exact h0, h1⟩, HV.holds hg r zs (i + 1) h2 fun j u hj => by rw [show i + 1 + j = i + (j + 1) by omega]; exact hc (j + 1) u hj⟩
  | .ifs e t l r, xs, i, h, hc => by
    obtain ⟨v, At, nt, ct, Al, nl, cl, zs, rfl, h1, h2, h3, h4, h5, h6⟩ := h
    have h0 := hc 0 _ rfl
    exact ⟨⟨g, 0, v, At, nt, ct, Al, nl, cl, rfl, hg, by rw [Nat.zero_add]; exact h0, h1, h2, h3, h4, h5⟩, HV.holds hg r zs (i + 1) h6 fun j u hj => by rw [show i + 1 + j = i + (j + 1) by omega]; exact hc (j + 1) u hj⟩
  | .whl e t r, xs, i, h, hc => by
    obtain ⟨v, At, nt, ct, zs, rfl, h1, h2, h3, h4⟩ := h
    have h0 := hc 0 _ rfl
    exact ⟨⟨g, 0, v, At, nt, ct, rfl, hg, by rw [Nat.zero_add]; exact h0, h1, h2, h3⟩, HV.holds hg r zs (i + 1) h4 fun j u hj => by rw [show i + 1 + j = i + (j + 1) by omega]; exact hc (j + 1) u hj⟩

/-- A row of statements' values of the call's own. -/
def LoRow (W : World) (B : Nat) (v : Value) (xs : List Value) : Prop := W.ownsRow B 110 1 v xs.length xs
theorem LoRow.nil (W : World) (B : Nat) : LoRow W B (.slice none 0 0) [] := World.ownsRow_nil _ _ _ _
theorem LoRow.below {W W' : World} {B : Nat} {v : Value} {xs : List Value} (h : LoRow W B v xs) (hb : Below W.heap.size W W') : LoRow W' B v xs := by
  refine ⟨h.1, ?_⟩
  rcases h.2 with h0 | ⟨g, cap, cur, hv, hB, hg, r⟩
  · exact .inl h0
  · exact .inr ⟨g, cap, cur, hv, hB, (hb.block g (Array.getElem?_eq_some_iff.1 hg).1).trans hg, r⟩
theorem Tryz.info110 : (Tryz.prog.info? 110).map (fun i => (i.zero, i.size, i.bytes)) = some (some .nilIface, 1, 16) := by kernel_rfl
theorem run_append_lo (w : World) (B : Nat) (v : Value) (xs : List Value) (h : LoRow w B v xs) (hB : B ≤ w.heap.size) (g : Nat) (u : Value) (hu : u.oneCell' = true) (hc : w.cell? ⟨g, 0, none⟩ = some u) (hlen : xs.length ≤ 2000000) (ty : TypeId) :
    ∃ v' w', (Builtin.append_ #[89, 89] ty #[v, .slice (some ⟨g, 0, none⟩) 1 1]).run Tryz.prog w = .ok v' w' ∧ LoRow w' B v' (xs ++ [u]) ∧ w.grownBy w' v.ownBlock ∧ Stays w v v' := by
  obtain ⟨i0, hi, hz0, hz1, hz2⟩ := info_parts Tryz.info110
  have hnews : ∀ j x, [u][j]? = some x → w.cell? ((⟨g, 0, none⟩ : Addr).add j) = some x := by
    intro j x hj
    match j, hj with
    | 0, hj => simp at hj; subst hj; simpa [Addr.add] using hc
  have h1 : ∀ x ∈ [u], x.oneCell' = true := by intro x hx; simp at hx; subst hx; exact hu
  obtain ⟨v', w', hr, hown, hgr, _⟩ := run_append_own (P := Tryz.prog) w B 89 ty 110 i0 .nilIface 1 16 Tryz.underlying89 hi hz0 hz1 hz2 rfl (by decide) v xs.length _ h ⟨g, 0, none⟩ 1 1 [u] rfl hnews h1 (by unfold maxLen; omega) (by omega) hB
  refine ⟨v', w', hr, by unfold LoRow; simpa using hown, hgr, ?_⟩
  rcases h.2 with ⟨rfl, h0⟩ | ⟨g', cap, cur, rfl, hBg, hg, hnc, hcm, hcs, htk⟩
  · obtain rfl : xs = [] := List.eq_nil_of_length_eq_zero h0
    obtain ⟨v2, w2, hr2, hown2, _, _⟩ := run_append_own (P := Tryz.prog) w w.heap.size 89 ty 110 i0 .nilIface 1 16 Tryz.underlying89 hi hz0 hz1 hz2 rfl (by decide) (.slice none 0 0) 0 [] (World.ownsRow_nil _ _ _ _) ⟨g, 0, none⟩ 1 1 [u] rfl hnews h1 (by unfold maxLen; omega) (by omega) (Nat.le_refl _)
    rw [hr2] at hr
    injection hr with e1 e2
    subst e1; subst e2
    exact fun k hk => .inr (World.ownsRow.lt hown2 k hk).1
  · by_cases hroom : xs.length + 1 ≤ cap
    · have hr2 := run_append_room (P := Tryz.prog) w 89 ty 110 i0 Tryz.underlying89 hi g' xs.length cap cur hg ⟨g, 0, none⟩ 1 1 [u] (by rw [hz1]; rfl) hnews h1 hroom (by rw [hz1]; simp; omega)
      rw [hr2] at hr
      injection hr with e1 e2
      subst e1
      exact fun k hk => .inl (by simpa [Value.ownBlock] using hk)
    · obtain ⟨v2, w2, hr2, hown2, _⟩ := run_append_arg_grows (P := Tryz.prog) w 89 ty 110 i0 .nilIface 1 16 Tryz.underlying89 hi hz0 hz1 hz2 rfl (by decide) ⟨g', 0, none⟩ xs.length cap xs (by simp) (World.ownsRow.cells (g := g') h rfl) ⟨g, 0, none⟩ 1 1 [u] rfl hnews (by omega) (by unfold maxLen; omega) (by omega)
      rw [hr2] at hr
      injection hr with e1 e2
      subst e1; subst e2
      exact fun k hk => .inr (World.ownsRow.lt hown2 k hk).1
theorem wpList_append_lo {w : World} {ops : Array Oper} {rest : List Oper} {o : Oper} {a : Act} {Q : Exit → Act → World → Prop} (hgd : o.guard = none) (s x : Operand) (ho : o.op = .call { callee := .builtin .append, args := #[s, x], argTypes := #[89, 89] }) (B : Nat) (v : Value) (xs : List Value) (hs : a.eval s = v) (hB : B ≤ w.heap.size) (hown : LoRow w B v xs)
    (g : Nat) (u : Value) (hx : a.eval x = .slice (some ⟨g, 0, none⟩) 1 1) (hu : u.oneCell' = true) (hc : w.cell? ⟨g, 0, none⟩ = some u) (hlen : xs.length ≤ 2000000)
    (h : ∀ v' w', LoRow w' B v' (xs ++ [u]) → w.grownBy w' v.ownBlock → Stays w v v' → wpList Tryz.prog ops Q rest (a.put o.dst v') w') : wpList Tryz.prog ops Q (o :: rest) a w := by
  obtain ⟨v', w', hr, h2, h3, h4⟩ := run_append_lo w B v xs hown hB g u hu hc hlen o.type
  refine wpList_plain hgd fun K hK => ?_
  unfold Oper.wp execOp
  simp only [ho, resolve, invoke, builtin, Sem.run_bind, Sem.run_pure, Result.andThen_ok, List.map_toArray, List.map_cons, List.map_nil, hs, hx, hr]
  exact hK _ _ (h v' w' h2 h3 h4)

/-- Blocks made between two worlds. -/
def Btw (w w' : World) (b : Nat) : Prop := w.heap.size ≤ b ∧ b < w'.heap.size
/-- A block of statements in the making. -/
structure LSt (w0 W : World) (v : Value) (lo : Lo) : Prop where
  row : ∃ xs S, LoRow W w0.heap.size v xs ∧ HV W S xs lo ∧ (∀ b, S b → Btw w0 W b ∧ v.ownBlock ≠ some b)
  bel : Below w0.heap.size w0 W
theorem LSt.holds {w0 W : World} {v : Value} {lo : Lo} (h : LSt w0 W v lo) : ∃ A n c, v = .slice A n c ∧ n = lo.many ∧ HoldsLo W (Btw w0 W) A 0 lo := by
  obtain ⟨xs, S, h1, h2, h3⟩ := h.row
  have hm := HV.many lo xs h2
  have h2' := HV.more (S' := Btw w0 W) (fun b hb => (h3 b hb).1) lo xs h2
  rcases h1.2 with ⟨rfl, h0⟩ | ⟨g, cap, cur, rfl, hB, hg, _⟩
  · obtain rfl : xs = [] := List.eq_nil_of_length_eq_zero h0
    refine ⟨none, 0, 0, rfl, hm, ?_⟩
    cases lo with
    | nil => trivial
    | plain c r => obtain ⟨_, _, h, _⟩ := h2; cases h
    | ifs e t l r => obtain ⟨_, _, _, _, _, _, _, _, h, _⟩ := h2; cases h
    | whl e t r => obtain ⟨_, _, _, _, _, h, _⟩ := h2; cases h
  · exact ⟨_, _, _, rfl, hm, HV.holds ⟨hB, (Array.getElem?_eq_some_iff.1 hg).1⟩ lo xs 0 h2' fun j u hj => by
      have hlt := (List.getElem?_eq_some_iff.1 hj).1
      rw [Nat.zero_add, World.ownsRow.cellAt h1 j (by omega), hj]⟩

theorem app_assoc : ∀ a b c : Lo, (a.app b).app c = a.app (b.app c)
  | .nil, b, c => rfl
  | .plain _ r, b, c => by simp [Lo.app, app_assoc r b c]
  | .ifs _ _ _ r, b, c => by simp [Lo.app, app_assoc r b c]
  | .whl _ _ r, b, c => by simp [Lo.app, app_assoc r b c]
theorem loB_snoc (st : Int → Lo) (n : Int) : ∀ l, loB st (l ++ [n]) = (loB st l).app (st n)
  | [] => by simp [loB, app_nil, Lo.app]
  | m :: r => by simp [loB, loB_snoc st n r, app_assoc]
theorem LSt.push {w0 wr w2 : World} {v u : Value} {lo b : Lo} (h : LSt w0 wr v lo) (hv : HV w2 (Btw wr w2) [u] b) (hb2 : Below wr.heap.size wr w2) (O : Obj) :
    ∃ xs, LoRow (w2.alloc O) w0.heap.size v xs ∧ xs.length = lo.many ∧ w0.heap.size ≤ (w2.alloc O).heap.size ∧ ∀ v' w3, LoRow w3 w0.heap.size v' (xs ++ [u]) → (w2.alloc O).grownBy w3 v.ownBlock → Stays (w2.alloc O) v v' → LSt w0 w3 v' (lo.app b) := by
  obtain ⟨xs, S, h1, h2, h3⟩ := h.row
  have hs1 := h.bel.size
  have hs2 := hb2.size
  have hba : Below w2.heap.size w2 (w2.alloc O) := (Below.refl _ _).alloc (Nat.le_refl _) _
  have ho := fun k => World.ownsRow.lt h1 k
  refine ⟨xs, (h1.below hb2).below hba, HV.many lo xs h2, by simp; omega, fun v' w3 hr hg hst => ?_⟩
  have hg3 := hg.size
  simp only [World.size_alloc] at hg3
  refine ⟨⟨xs ++ [u], fun k => S k ∨ Btw wr w2 k, hr, ?_, ?_⟩, ?_⟩
  · refine HV.app ?_ lo xs ?_
    · refine HV.more (S := Btw wr w2) (fun k hk => .inr hk) b _ (HV.kept (fun k hk => ?_) b _ hv)
      exact (hg.block k (by simp; have := hk.2; omega) (fun e => by have := (ho k e.symm).2; have := hk.1; omega)).trans (hba.block k hk.2)
    · refine HV.more (S := S) (fun k hk => .inl hk) lo _ (HV.kept (fun k hk => ?_) lo _ h2)
      have hk1 := (h3 k hk).1.2
      exact ((hg.block k (by simp; omega) (fun e => (h3 k hk).2 e.symm)).trans (hba.block k (by omega))).trans (hb2.block k hk1)
  · intro k hk
    rcases hk with hk | hk
    · refine ⟨⟨(h3 k hk).1.1, by have := (h3 k hk).1.2; omega⟩, fun e => ?_⟩
      rcases hst k e with e' | e'
      · exact (h3 k hk).2 e'
      · have := (h3 k hk).1.2; simp at e'; omega
    · refine ⟨⟨by have := hk.1; omega, by have := hk.2; omega⟩, fun e => ?_⟩
      rcases hst k e with e' | e'
      · have := (ho k e').2; have := hk.1; omega
      · have := hk.2; simp at e'; omega
  · have hbel := (h.bel.trans (hb2.mono hs1)).trans (hba.mono (by omega))
    exact hbel.grown hg (by simp; omega) fun j hj => (ho j hj).1
theorem Room.inss {w : World} {g B n : Nat} {ts : List Token} (h : Room w g 83 (2 * n) .i64 (flat ts)) (hB : B ≤ g) (hn : ts.length = n) (hm : n ≤ 1000000) : Inss w B (.slice (some ⟨g, 0, none⟩) n n) ts := by
  subst hn
  obtain ⟨cs, h1, h2, h3⟩ := h
  refine ⟨by rw [List.length_map, flat_length]; omega, .inr ⟨g, ts.length, cs, rfl, hB, h1, Nat.le_refl _, by unfold maxLen; omega, by rw [h2]; omega, ?_⟩⟩
  rw [flat_length] at h3
  rw [Nat.mul_comm]
  exact h3

end Go.Proofs.YtpmpjiigmjnniaaGreat

/-
  The program's lowStmts: given what it makes of a statement.
-/
namespace Go.Proofs.YtpmpjiigmjnniaaGreat
open Go.RowKit Exs

def LstC (f : Fc) (A1 : Option Addr) (n1 c1 : Nat) (A2 : Option Addr) (n2 c2 : Nat) (As : Option Addr) (ns cs g : Nat) : Prop := ∀ (block : List Int) (A : Option Addr) (m c lo : Nat) (w : World), (∀ n ∈ block, (lo : Int) ≤ n ∧ n < f.stmts.length) → f.stmts.length ≤ g + lo → IsFc w w.heap.size f A1 n1 A2 n2 → Reads w w.heap.size .i64 A m block → m ≤ 1048576 → Reads w w.heap.size .i64 As ns (sitesL f) →
  Calls Tryz.prog 50 #[fcV f A1 n1 c1 A2 n2 c2, .slice A m c, .slice As ns cs] w fun e w' => ∃ A' n' c', e = .returned (.slice A' n' c') ∧ n' = (loB (loSt f g) block).many ∧ HoldsLo w' (Btw w w') A' 0 (loB (loSt f g) block) ∧ Below w.heap.size w w'
def SttC (f : Fc) (A1 : Option Addr) (n1 c1 : Nat) (A2 : Option Addr) (n2 c2 : Nat) (As : Option Addr) (ns cs g : Nat) : Prop := ∀ (q : Nat) (s : St) (w : World), f.stmts[q]? = some s → f.stmts.length ≤ g + (q + 1) → IsFc w w.heap.size f A1 n1 A2 n2 → Reads w w.heap.size .i64 As ns (sitesL f) →
  Calls Tryz.prog 71 #[fcV f A1 n1 c1 A2 n2 c2, .int .i64 (q : Int), .slice As ns cs] w fun e w' => ∃ (ty : TypeId) (x : Value), e = .returned (.iface ty x) ∧ HV w' (Btw w w') [.iface ty x] (loSt f (g + 1) q) ∧ Below w.heap.size w w'

set_option maxHeartbeats 1000000 in
set_option maxRecDepth 100000 in
theorem lst_base (f : Fc) (A1 : Option Addr) (n1 c1 : Nat) (A2 : Option Addr) (n2 c2 : Nat) (As : Option Addr) (ns cs : Nat) : LstC f A1 n1 c1 A2 n2 c2 As ns cs 0 := by
  intro block A m c lo w hb hfu hf hr hm _
  obtain rfl : block = [] := by
    cases block with
    | nil => rfl
    | cons n r => have := hb n (by simp); omega
  obtain rfl : m = 0 := by have := hr.1; simpa using this.symm
  unfold fcV
  go_enter Tryz.func50, Tryz.ntmps50
  go_wp2
  refine wp_loop_rounds 1 ?_
  rw [rounds_succ]
  go_wp2
  go_ret
  exact ⟨_, _, _, rfl, rfl, trivial, (Below.refl _ _).alloc (Nat.le_refl _) _⟩

set_option maxHeartbeats 2000000 in
set_option maxRecDepth 100000 in
theorem lst_step (f : Fc) (A1 : Option Addr) (n1 c1 : Nat) (A2 : Option Addr) (n2 c2 : Nat) (As : Option Addr) (ns cs g : Nat) (HS : Hid (SttC f A1 n1 c1 A2 n2 c2 As ns cs g)) : LstC f A1 n1 c1 A2 n2 c2 As ns cs (g + 1) := by
  intro block A m c lo w hb hfu hf hr hm hsr
  have HB := put hb
  have HFU := put hfu
  have HLN := put hr.1
  clear hb hfu
  unfold fcV
  have hb0 : Below w.heap.size w (w.alloc (.cells #[.int .i64 f.params, .int .i64 f.vars, .slice A1 n1 c1, .slice A2 n2 c2] 59)) := (Below.refl _ _).alloc (Nat.le_refl _) _
  have kf0 := Keep.new w #[.int .i64 f.params, .int .i64 f.vars, .slice A1 n1 c1, .slice A2 n2 c2] 59
  go_enter Tryz.func50, Tryz.ntmps50
  go_wp2
  generalize hW : w.alloc (.cells #[.int .i64 f.params, .int .i64 f.vars, .slice A1 n1 c1, .slice A2 n2 c2] 59) = W0 at hb0 kf0 ⊢
  clear hW
  have hlt0 := kf0.lt
  go_loopw [7, 12] (fun v i wr => ∃ k : Nat, k ≤ m ∧ i = .int .i64 k ∧ LSt W0 wr v (loB (loSt f (g + 1)) (block.take k))) (fun _ i _ => m - (intOf i).toNat)
  case atStart => exact ⟨0, Nat.zero_le _, rfl, ⟨⟨[], fun _ => False, LoRow.nil _ _, rfl, fun _ h => h.elim⟩, Below.refl _ _⟩⟩
  case round =>
    obtain ⟨k, hk, rfl, hst⟩ := hrel
    have hbw : Below w.heap.size w wr := hb0.trans (hst.bel.mono hb0.size)
    by_cases hlt : k < m
    · obtain ⟨b, off, x, rfl, hb', hc, hx⟩ := (hr.below hbw).at_ hlt
      obtain ⟨hx0, hx1⟩ := HB.out x (mem_of_at hx.out)
      obtain ⟨q, rfl⟩ : ∃ q : Nat, x = (q : Int) := ⟨x.toNat, by omega⟩
      obtain ⟨s, hs⟩ : ∃ s, f.stmts[q]? = some s := ⟨_, List.getElem?_eq_getElem (by omega)⟩
      have HM := put (show loB (loSt f (g + 1)) (block.take (k + 1)) = (loB (loSt f (g + 1)) (block.take k)).app (loSt f (g + 1) q) by rw [takeA_more hx.out, loB_snoc])
      have hmany : (loB (loSt f (g + 1)) (block.take k)).many ≤ 2000000 := by
        rw [lo_many]
        · rw [List.length_take]; omega
        · intro n hn
          have h := HB.out n (List.mem_of_mem_take hn)
          exact ⟨_, List.getElem?_eq_getElem (by omega)⟩
      generalize loB (loSt f (g + 1)) (block.take k) = lo0 at HM hst hmany
      have kfr := kf0.belowAt hst.bel hlt0
      have y0 := kfr.cell 0
      have y1 := kfr.cell 1
      have y2 := kfr.cell 2
      have y3 := kfr.cell 3
      simp at y0 y1 y2 y3
      have HCALL := put (HS.out q s wr hs (by have := HFU.out; omega) (hf.now hbw) (hsr.now hbw))
      unfold fcV at HCALL
      clear hs hx0 hx1
      go_wp2_with fail
      refine HCALL.out.mono ?_
      rintro e w2 ⟨ty, x, rfl, hv, hb2⟩
      obtain ⟨xs, r1, r2, r3, r4⟩ := hst.push hv hb2 (.cells #[.iface ty x] 110)
      have hxl : xs.length ≤ 2000000 := by omega
      have R4 := put r4
      clear r4 hv y0 y1 y2 y3 kfr hst
      go_wp2_with (at_builtin; refine wpList_append_lo rfl _ _ rfl W0.heap.size _ xs rfl r3 r1 w2.heap.size (.iface ty x) rfl rfl (by simp) hxl ?_)
      intro v' w3 hown' hgr hst'
      have HN := put (R4.out v' w3 hown' hgr hst')
      clear R4 r1 r3 hown' hgr hst'
      go_wp2
      go_roundw
      case rel => exact ⟨k + 1, by omega, by go_num, by rw [HM.out]; exact HN.out⟩
      case measure => simp [intOf]; omega
    · have hfin : block.take k = block := List.take_of_length_le (by have := HLN.out; omega)
      rw [hfin] at hst
      obtain ⟨A', n', c', rfl, hn', hh⟩ := hst.holds
      have hh' := HoldsLo.more (S' := Btw w wr) (fun b hb => ⟨by have := hb.1; have := hb0.size; omega, hb.2⟩) _ _ _ hh
      have HH := put hh'
      have HN := put hn'
      clear hst hh hh' hn' hfin
      go_wp2
      go_ret
      exact ⟨A', n', c', rfl, HN.out, HH.out, hbw⟩

end Go.Proofs.YtpmpjiigmjnniaaGreat

/-
  slices.Backward over a row of numbers: its walk, for whatever loop body.
-/
namespace Go.Proofs.YtpmpjiigmjnniaaGreat
open Go.RowKit Go.Shelf Exs
attribute [local go_sem] Oper.semAt_some

/-- A box that holds a row, and the row's numbers where they lie. -/
def Fix (B : Nat) (A : Option Addr) (m c : Nat) (xs : List Int) (W : World) : Prop :=
  W.cell? ⟨B, 0, none⟩ = some (.slice A m c) ∧ m = xs.length ∧ ∀ j x, xs[j]? = some x → ∃ g o, A = some ⟨g, o, none⟩ ∧ W.cell? ⟨g, o + j, none⟩ = some (.int .i64 x)

set_option maxRecDepth 100000 in
set_option maxHeartbeats 2000000 in
theorem back_steps (F : Fence) (hd : F.depth = none) (n : Nat) (h52 : F.fn 72) (hro : F.round = none) (B : Nat) (A : Option Addr) (m c : Nat) (xs : List Int) (hm : m ≤ 1000000) (w : World) :
    Steps F n Tryz.prog 72 #[.pointer (some ⟨B, 0, none⟩)] (fun x : Int × Int => #[.int .i64 x.1, .int .i64 x.2]) (fun _ _ => True) (fun k x => k < m ∧ x.1 = (m : Int) - 1 - (k : Int)) (fun k _ => some (k + 1)) 0 (some m) (Fix B A m c xs) w := by
  intro l J Jx W hW hJ hQ hY h0
  have hdd : ∀ k : Nat, (F.depth.isSome = true → 1 ≤ k) := fun k h => by rw [hd] at h; cases h
  have y0 := (hQ 0 W h0).2.1
  have hw0 : IntKind.i64.wrap ((m : Int) - 1) = (m : Int) - 1 := IntWalk.i64_in _ ⟨by omega, by omega⟩
  show CallsIn F n Tryz.prog 72 #[.func (.yield l) #[] #[], .pointer (some ⟨B, 0, none⟩)] W _
  refine callsIn_of_wp Tryz.func72 rfl h52 ?_ hro
  simp only [Tryz.ntmps72, List.size_toArray, List.length_cons, List.length_nil, Nat.reduceAdd, Nat.reduceSub, Array.replicate_succ, Array.replicate_zero, List.push_toArray, List.append_toArray, List.nil_append, List.cons_append]
  gi_wp2
  gi_loopw [3] (fun i wr => ∃ k : Nat, k ≤ m ∧ i = .int .i64 ((m : Int) - 1 - (k : Int)) ∧ J k wr) (fun i _ => (intOf i + 1).toNat)
  case atStart => exact ⟨0, Nat.zero_le _, by simp, h0⟩
  case round =>
    obtain ⟨k, hk, rfl, hJk⟩ := hrel
    clear y0
    by_cases hlt : k < m
    · obtain ⟨kk, hkk⟩ : ∃ kk : Nat, (m : Int) - 1 - (k : Int) = (kk : Int) := ⟨m - 1 - k, by omega⟩
      obtain ⟨z0, hml, hz⟩ := (hQ k wr hJk).2
      obtain ⟨x, hx⟩ : ∃ x, xs[kk]? = some x := ⟨_, List.getElem?_eq_getElem (by omega)⟩
      obtain ⟨g, o, hA, hc⟩ := hz kk x hx
      have hyy := hY k ((kk : Int), x) wr hJk ⟨hlt, hkk.symm⟩
      have HKK := put hkk
      have hkm : kk < m := by omega
      have hwk : IntKind.i64.wrap ((kk : Int) - 1) = (kk : Int) - 1 := IntWalk.i64_in _ ⟨by omega, by omega⟩
      rw [hkk]
      subst hA
      obtain ⟨fn, tmps, assign, body, hy, hR⟩ := hyy
      clear hz hx hkk hml hY hQ hJk
      gi_wp2_with ((try refine ⟨hdd _, ?_⟩); refine hR.mono ?_; clear hR; rintro e W2 (⟨_, ⟨⟩, rfl, hJ2, _⟩ | ⟨⟨⟩, _⟩))
      go_roundw
      case rel => exact ⟨k + 1, by omega, by have := HKK.out; congr 1; omega, hJ2⟩
      case measure => simp [intOf]
    · obtain rfl : k = m := by omega
      have hneg : (k : Int) - 1 - (k : Int) = -1 := by omega
      rw [hneg]
      gi_wp2
      go_end0
      exact ⟨⟨_, rfl⟩, .inl ⟨k, rfl, hJk⟩⟩

end Go.Proofs.YtpmpjiigmjnniaaGreat

/-
  Ways in a row of the call's own; the ways into a code.
-/
import Derived.Test.YtcpjddkhclaafaaDoorHtS
namespace Go.Proofs.YtcpjddkhclaafaaDoor
open Go.RowKit Exs Ht

/-- Ways (a place, a height) in a row of the call's own. -/
def Ways (w : World) (B : Nat) (v : Value) (ts : List Token) : Prop := w.ownsRow B 113 2 v ts.length ((flat ts).map (Value.int .i64))
section
variable {w w' : World} {B : Nat} {v : Value} {ts : List Token}
theorem Ways.alloc (h : Ways w B v ts) (o : Obj) : Ways (w.alloc o) B v ts := World.ownsRow.alloc h o
theorem Ways.keep (h : Ways w B v ts) (hb : ∀ b, v.ownBlock = some b → w'.heap[b]? = w.heap[b]?) : Ways w' B v ts := by
  obtain ⟨h1, h2⟩ := h
  refine ⟨h1, ?_⟩
  rcases h2 with h2 | ⟨g', cap, cur, rfl, hg', hh, r⟩
  · exact Or.inl h2
  · exact Or.inr ⟨g', cap, cur, rfl, hg', (hb g' (by simp [Value.ownBlock])).trans hh, r⟩
theorem Ways.own_lt (h : Ways w B v ts) {b : Nat} (hb : v.ownBlock = some b) : B ≤ b ∧ b < w.heap.size := World.ownsRow.lt h b hb
theorem Ways.below (h : Ways w B v ts) (hb : Below w.heap.size w w') : Ways w' B v ts := h.keep fun b e => hb.block b (h.own_lt e).2
theorem Ways.other (h : Ways w B v ts) {g i : Nat} {u : Value} (hg : g < B) : Ways (w.setCell ⟨g, i, none⟩ u) B v ts := h.keep fun b e => Below.heap_setCell _ _ _ _ (by have := h.own_lt e; show b ≠ g; omega)
theorem Ways.more {B' : Nat} (h : Ways w B v ts) (hB : B' ≤ B) : Ways w B' v ts := by
  obtain ⟨h1, h2⟩ := h
  refine ⟨h1, ?_⟩
  rcases h2 with h2 | ⟨g', cap, cur, rfl, hg', hh, r⟩
  · exact Or.inl h2
  · exact Or.inr ⟨g', cap, cur, rfl, by omega, hh, r⟩
/-- A row of ways that is not empty. -/
theorem Ways.form (h : Ways w B v ts) (hn : 0 < ts.length) : ∃ g cap, v = .slice (some ⟨g, 0, none⟩) ts.length cap ∧ B ≤ g ∧ g < w.heap.size ∧ ts.length ≤ cap ∧ cap ≤ maxLen ∧ ∀ (j : Nat) (t : Token), ts[j]? = some t → w.cell? ⟨g, j * 2, none⟩ = some (.int .i64 t.1) ∧ w.cell? ⟨g, j * 2 + 1, none⟩ = some (.int .i64 t.2) := by
  rcases h.2 with ⟨_, h0⟩ | ⟨g, cap, cur, rfl, hB, hg, hc, hm, hs, ht⟩
  · omega
  · refine ⟨g, cap, rfl, hB, (Array.getElem?_eq_some_iff.1 hg).1, hc, hm, fun j t hj => ?_⟩
    have hl := (List.getElem?_eq_some_iff.1 hj).1
    have hf := flat_at hj
    have e : ∀ i : Nat, i < ts.length * 2 → w.cell? ⟨g, i, none⟩ = ((flat ts).map (Value.int .i64))[i]? := fun i hi => by
      rw [cell_of_row w g i cur 113 (0, 0) hg, ← ht, ← Array.getElem?_toList, List.getElem?_take, if_pos (by simpa using hi)]
    rw [e _ (by omega), e _ (by omega), List.getElem?_map, List.getElem?_map, Nat.mul_comm j 2, hf.1, hf.2]
    exact ⟨rfl, rfl⟩
end
theorem flat_take (ts : List Token) (m : Nat) : flat (ts.take m) = (flat ts).take (2 * m) := by
  induction m generalizing ts with
  | zero => simp [flat]
  | succ m ih =>
    cases ts with
    | nil => simp [flat]
    | cons a r =>
      rw [List.take_succ_cons, show 2 * (m + 1) = 2 * m + 1 + 1 by omega]
      have := ih r
      simp only [flat, List.flatMap_cons] at *
      simp [this]
theorem Ways.cut {w : World} {B g cap : Nat} {ts : List Token} (h : Ways w B (.slice (some ⟨g, 0, none⟩) ts.length cap) ts) (m : Nat) (hm : m ≤ ts.length) : Ways w B (.slice (some ⟨g, 0, none⟩) m cap) (ts.take m) := by
  have hl : (ts.take m).length = m := by rw [List.length_take]; omega
  rcases h.2 with ⟨h0, _⟩ | ⟨g', cap', cur, hv, hB, hg, hc, hmx, hs, ht⟩
  · cases h0
  · injection hv with h1 _ h2
    injection h1 with h1
    injection h1 with h1
    subst h1; subst h2
    refine ⟨by rw [List.length_map, flat_length]; omega, .inr ⟨g, cap, cur, by rw [hl], hB, hg, by omega, hmx, hs, ?_⟩⟩
    rw [hl, flat_take, List.map_take, ← ht, List.take_take, Nat.mul_comm 2 m, Nat.min_eq_left (by omega)]

theorem Tryd.info113 : (Tryd.prog.info? 113).map (fun i => (i.zero, i.size, i.bytes)) = some (some (.agg #[.int .i64 0, .int .i64 0]), 2, 16) := by kernel_rfl

theorem run_appendW (w : World) (B : Nat) (v : Value) (ts : List Token) (h : Ways w B v ts) (hB : B ≤ w.heap.size) (g : Nat) (p y : Int) (hc : w.cell? ⟨g, 0, none⟩ = some (.int .i64 p)) (hc1 : w.cell? ⟨g, 1, none⟩ = some (.int .i64 y)) (hlen : ts.length ≤ 1000000) (ty : TypeId) :
    ∃ v' w', (Builtin.append_ #[110, 110] ty #[v, .slice (some ⟨g, 0, none⟩) 1 1]).run Tryd.prog w = .ok v' w' ∧ Ways w' B v' (ts ++ [(p, y)]) ∧ w.grownBy w' v.ownBlock ∧ Stays w v v' := by
  obtain ⟨i0, hi, hz0, hz1, hz2⟩ := info_parts Tryd.info113
  have hnews : ∀ j u, [Value.int .i64 p, Value.int .i64 y][j]? = some u → w.cell? ((⟨g, 0, none⟩ : Addr).add j) = some u := by
    intro j u hj
    match j, hj with
    | 0, hj => simp at hj; subst hj; simpa [Addr.add] using hc
    | 1, hj => simp at hj; subst hj; simpa [Addr.add] using hc1
  have h1 : ∀ u ∈ [Value.int .i64 p, Value.int .i64 y], u.oneCell' = true := by intro u hu; simp at hu; rcases hu with rfl | rfl <;> rfl
  obtain ⟨v', w', hr, hown, hgr, _⟩ := run_append_own (P := Tryd.prog) w B 110 ty 113 i0 (.agg #[.int .i64 0, .int .i64 0]) 2 16 Tryd.underlying110 hi hz0 hz1 hz2 rfl (by decide) v ts.length _ h ⟨g, 0, none⟩ 1 1 [.int .i64 p, .int .i64 y] rfl hnews h1 (by unfold maxLen; omega) (by omega) hB
  refine ⟨v', w', hr, by unfold Ways; rw [flat_snoc]; simpa using hown, hgr, ?_⟩
  rcases h.2 with ⟨rfl, h0⟩ | ⟨g', cap, cur, rfl, hBg, hg, hnc, hcm, hcs, htk⟩
  · obtain rfl : ts = [] := List.eq_nil_of_length_eq_zero h0
    obtain ⟨v2, w2, hr2, hown2, _, _⟩ := run_append_own (P := Tryd.prog) w w.heap.size 110 ty 113 i0 (.agg #[.int .i64 0, .int .i64 0]) 2 16 Tryd.underlying110 hi hz0 hz1 hz2 rfl (by decide) (.slice none 0 0) 0 [] (World.ownsRow_nil _ _ _ _) ⟨g, 0, none⟩ 1 1 [.int .i64 p, .int .i64 y] rfl hnews h1 (by unfold maxLen; omega) (by omega) (Nat.le_refl _)
    rw [hr2] at hr
    injection hr with e1 e2
    subst e1; subst e2
    exact fun k hk => .inr (World.ownsRow.lt hown2 k hk).1
  · by_cases hroom : ts.length + 1 ≤ cap
    · have hr2 := run_append_room (P := Tryd.prog) w 110 ty 113 i0 Tryd.underlying110 hi g' ts.length cap cur hg ⟨g, 0, none⟩ 1 1 [.int .i64 p, .int .i64 y] (by rw [hz1]; rfl) hnews h1 hroom (by rw [hz1]; simp; omega)
      rw [hr2] at hr
      injection hr with e1 e2
      subst e1
      exact fun k hk => .inl (by simpa [Value.ownBlock] using hk)
    · obtain ⟨v2, w2, hr2, hown2, _⟩ := run_append_arg_grows (P := Tryd.prog) w 110 ty 113 i0 (.agg #[.int .i64 0, .int .i64 0]) 2 16 Tryd.underlying110 hi hz0 hz1 hz2 rfl (by decide) ⟨g', 0, none⟩ ts.length cap ((flat ts).map (Value.int .i64)) (by rw [List.length_map, flat_length]; omega) (World.ownsRow.cells (g := g') h rfl) ⟨g, 0, none⟩ 1 1 [.int .i64 p, .int .i64 y] rfl hnews (by omega) (by unfold maxLen; omega) (by omega)
      rw [hr2] at hr
      injection hr with e1 e2
      subst e1; subst e2
      exact fun k hk => .inr (World.ownsRow.lt hown2 k hk).1

section
variable {w : World} {ops : Array Oper} {rest : List Oper} {o : Oper} {a : Act} {K : Act → World → Prop} {Q : Exit → Act → World → Prop} {E : Prop}
theorem wp_appendW (s x : Operand) (ho : o.op = .call { callee := .builtin .append, args := #[s, x], argTypes := #[110, 110] }) (B : Nat) (v : Value) (ts : List Token) (hs : a.eval s = v) (hB : B ≤ w.heap.size) (hown : Ways w B v ts)
    (g : Nat) (p y : Int) (hx : a.eval x = .slice (some ⟨g, 0, none⟩) 1 1) (hc : w.cell? ⟨g, 0, none⟩ = some (.int .i64 p)) (hc1 : w.cell? ⟨g, 1, none⟩ = some (.int .i64 y)) (hlen : ts.length ≤ 1000000)
    (h : ∀ v' w', Ways w' B v' (ts ++ [(p, y)]) → w.grownBy w' v.ownBlock → Stays w v v' → K (a.put o.dst v') w') : o.wp Tryd.prog a w K Q := by
  obtain ⟨v', w', hr, h2, h3, h4⟩ := run_appendW w B v ts hown hB g p y hc hc1 hlen o.type
  unfold Oper.wp execOp
  simp only [ho, resolve, invoke, builtin, Sem.run_bind, Sem.run_pure, Result.andThen_ok, List.map_toArray, List.map_cons, List.map_nil, hs, hx, hr]
  exact h v' w' h2 h3 h4
theorem wpList_appendW (hgd : o.guard = none) (s x : Operand) (ho : o.op = .call { callee := .builtin .append, args := #[s, x], argTypes := #[110, 110] }) (B : Nat) (v : Value) (ts : List Token) (hs : a.eval s = v) (hB : B ≤ w.heap.size) (hown : Ways w B v ts)
    (g : Nat) (p y : Int) (hx : a.eval x = .slice (some ⟨g, 0, none⟩) 1 1) (hc : w.cell? ⟨g, 0, none⟩ = some (.int .i64 p)) (hc1 : w.cell? ⟨g, 1, none⟩ = some (.int .i64 y)) (hlen : ts.length ≤ 1000000)
    (h : ∀ v' w', Ways w' B v' (ts ++ [(p, y)]) → w.grownBy w' v.ownBlock → Stays w v v' → wpList Tryd.prog ops Q rest (a.put o.dst v') w') : wpList Tryd.prog ops Q (o :: rest) a w :=
  wpList_plain hgd fun _ hK => wp_appendW s x ho B v ts hs hB hown g p y hx hc hc1 hlen fun v' w' h1 h2 h3 => hK _ _ (h v' w' h1 h2 h3)
theorem step_appendW (hgd : o.guard = none) (s x : Operand) (ho : o.op = .call { callee := .builtin .append, args := #[s, x], argTypes := #[110, 110] }) (B : Nat) (v : Value) (ts : List Token) (hs : a.eval s = v) (hB : B ≤ w.heap.size) (hown : Ways w B v ts)
    (g : Nat) (p y : Int) (hx : a.eval x = .slice (some ⟨g, 0, none⟩) 1 1) (hc : w.cell? ⟨g, 0, none⟩ = some (.int .i64 p)) (hc1 : w.cell? ⟨g, 1, none⟩ = some (.int .i64 y)) (hlen : ts.length ≤ 1000000)
    (h : ∀ v' w', Ways w' B v' (ts ++ [(p, y)]) → w.grownBy w' v.ownBlock → Stays w v v' → K (a.put o.dst v') w') : if Region.wanted o (yielded ops a.tmps) = true then Oper.wp Tryd.prog o a w K Q else E := by
  have hw : Region.wanted o (yielded ops a.tmps) = true := by simp [Region.wanted, hgd]
  rw [if_pos hw]
  exact wp_appendW s x ho B v ts hs hB hown g p y hx hc hc1 hlen h
end

/-- The ways into a code: its beginning and its pads. -/
def wayT (q : Nat × Int) : Token := ((q.1 : Int), q.2)
theorem Ways.one {w : World} (x y : Int) : Ways (w.alloc (.cells #[.int .i64 x, .int .i64 y] 113)) w.heap.size (.slice (some ⟨w.heap.size, 0, none⟩) 1 1) [(x, y)] :=
  ⟨rfl, .inr ⟨w.heap.size, 1, #[.int .i64 x, .int .i64 y], rfl, Nat.le_refl _, heap_alloc_new _ _, Nat.le_refl _, by unfold maxLen; omega, rfl, rfl⟩⟩

end Go.Proofs.YtcpjddkhclaafaaDoor

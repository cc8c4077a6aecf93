/-
  Texts joined: Wys SMul Rep Wi HtI Cda4.
-/
import Derived.Test.YtpbkkjiikhjanaaDoorJHtS
import Derived.Shelf.Bits.Mul64
import Derived.Test.YtpbkkjiikhjanaaDoorProg
import Derived.Test.YtpbkkjiikhjanaaDoorJGc4
import Derived.Lib.SlBuf
import Derived.Deep.RegionLaw
import Derived.ScopeJumps
import Derived.WalkMore
import Derived.Test.YtpbkkjiikhjanaaDoorJCda
/-
  Ways in a row of the call's own; the ways into a code.
-/
namespace Go.Proofs.YtpbkkjiikhjanaaDoor
open Go.RowKit Exs Ht

/-- Ways (a place, a height) in a row of the call's own. -/
def Ways (w : World) (B : Nat) (v : Value) (ts : List Token) : Prop := w.ownsRow B 136 2 v ts.length ((flat ts).map (Value.int .i64))
section
variable {w w' : World} {B : Nat} {v : Value} {ts : List Token}
theorem Ways.alloc (h : Ways w B v ts) (o : Obj) : Ways (w.alloc o) B v ts := World.ownsRow.alloc h o
theorem Ways.keep (h : Ways w B v ts) (hb : ∀ b, v.ownBlock = some b → w'.heap[b]? = w.heap[b]?) : Ways w' B v ts := by
  obtain ⟨h1, h2⟩ := h
  refine ⟨h1, ?_⟩
  rcases h2 with h2 | ⟨g', cap, cur, rfl, hg', hh, r⟩
  · exact Or.inl h2
  · exact Or.inr ⟨g', cap, cur, rfl, hg', (hb g' (by simp [Value.ownBlock])).trans hh, r⟩
theorem Ways.own_lt (h : Ways w B v ts) {b : Nat} (hb : v.ownBlock = some b) : B ≤ b ∧ b < w.heap.size := World.ownsRow.lt h b hb
theorem Ways.below (h : Ways w B v ts) (hb : Below w.heap.size w w') : Ways w' B v ts := h.keep fun b e => hb.block b (h.own_lt e).2
theorem Ways.other (h : Ways w B v ts) {g i : Nat} {u : Value} (hg : g < B) : Ways (w.setCell ⟨g, i, none⟩ u) B v ts := h.keep fun b e => Below.heap_setCell _ _ _ _ (by have := h.own_lt e; show b ≠ g; omega)
theorem Ways.more {B' : Nat} (h : Ways w B v ts) (hB : B' ≤ B) : Ways w B' v ts := by
  obtain ⟨h1, h2⟩ := h
  refine ⟨h1, ?_⟩
  rcases h2 with h2 | ⟨g', cap, cur, rfl, hg', hh, r⟩
  · exact Or.inl h2
  · exact Or.inr ⟨g', cap, cur, rfl, by omega, hh, r⟩
/-- A row of ways that is not empty. -/
theorem Ways.form (h : Ways w B v ts) (hn : 0 < ts.length) : ∃ g cap, v = .slice (some ⟨g, 0, none⟩) ts.length cap ∧ B ≤ g ∧ g < w.heap.size ∧ ts.length ≤ cap ∧ cap ≤ maxLen ∧ ∀ (j : Nat) (t : Token), ts[j]? = some t → w.cell? ⟨g, j * 2, none⟩ = some (.int .i64 t.1) ∧ w.cell? ⟨g, j * 2 + 1, none⟩ = some (.int .i64 t.2) := by
  rcases h.2 with ⟨_, h0⟩ | ⟨g, cap, cur, rfl, hB, hg, hc, hm, hs, ht⟩
  · omega
  · refine ⟨g, cap, rfl, hB, (Array.getElem?_eq_some_iff.1 hg).1, hc, hm, fun j t hj => ?_⟩
    have hl := (List.getElem?_eq_some_iff.1 hj).1
    have hf := flat_at hj
    have e : ∀ i : Nat, i < ts.length * 2 → w.cell? ⟨g, i, none⟩ = ((flat ts).map (Value.int .i64))[i]? := fun i hi => by
      rw [cell_of_row w g i cur 136 (0, 0) hg, ← ht, ← Array.getElem?_toList, List.getElem?_take, if_pos (by simpa using hi)]
    rw [e _ (by omega), e _ (by omega), List.getElem?_map, List.getElem?_map, Nat.mul_comm j 2, hf.1, hf.2]
    exact ⟨rfl, rfl⟩
end
theorem flat_take (ts : List Token) (m : Nat) : flat (ts.take m) = (flat ts).take (2 * m) := by
  induction m generalizing ts with
  | zero => simp [flat]
  | succ m ih =>
    cases ts with
    | nil => simp [flat]
    | cons a r =>
      rw [List.take_succ_cons, show 2 * (m + 1) = 2 * m + 1 + 1 by omega]
      have := ih r
      simp only [flat, List.flatMap_cons] at *
      simp [this]
theorem Ways.cut {w : World} {B g cap : Nat} {ts : List Token} (h : Ways w B (.slice (some ⟨g, 0, none⟩) ts.length cap) ts) (m : Nat) (hm : m ≤ ts.length) : Ways w B (.slice (some ⟨g, 0, none⟩) m cap) (ts.take m) := by
  have hl : (ts.take m).length = m := by rw [List.length_take]; omega
  rcases h.2 with ⟨h0, _⟩ | ⟨g', cap', cur, hv, hB, hg, hc, hmx, hs, ht⟩
  · cases h0
  · injection hv with h1 _ h2
    injection h1 with h1
    injection h1 with h1
    subst h1; subst h2
    refine ⟨by rw [List.length_map, flat_length]; omega, .inr ⟨g, cap, cur, by rw [hl], hB, hg, by omega, hmx, hs, ?_⟩⟩
    rw [hl, flat_take, List.map_take, ← ht, List.take_take, Nat.mul_comm 2 m, Nat.min_eq_left (by omega)]

theorem Tryd.info136 : (Tryd.prog.info? 136).map (fun i => (i.zero, i.size, i.bytes)) = some (some (.agg #[.int .i64 0, .int .i64 0]), 2, 16) := by kernel_rfl

theorem run_appendW (w : World) (B : Nat) (v : Value) (ts : List Token) (h : Ways w B v ts) (hB : B ≤ w.heap.size) (g : Nat) (p y : Int) (hc : w.cell? ⟨g, 0, none⟩ = some (.int .i64 p)) (hc1 : w.cell? ⟨g, 1, none⟩ = some (.int .i64 y)) (hlen : ts.length ≤ 1000000) (ty : TypeId) :
    ∃ v' w', (Builtin.append_ #[133, 133] ty #[v, .slice (some ⟨g, 0, none⟩) 1 1]).run Tryd.prog w = .ok v' w' ∧ Ways w' B v' (ts ++ [(p, y)]) ∧ w.grownBy w' v.ownBlock ∧ Stays w v v' := by
  obtain ⟨i0, hi, hz0, hz1, hz2⟩ := info_parts Tryd.info136
  have hnews : ∀ j u, [Value.int .i64 p, Value.int .i64 y][j]? = some u → w.cell? ((⟨g, 0, none⟩ : Addr).add j) = some u := by
    intro j u hj
    match j, hj with
    | 0, hj => simp at hj; subst hj; simpa [Addr.add] using hc
    | 1, hj => simp at hj; subst hj; simpa [Addr.add] using hc1
  have h1 : ∀ u ∈ [Value.int .i64 p, Value.int .i64 y], u.oneCell' = true := by intro u hu; simp at hu; rcases hu with rfl | rfl <;> rfl
  obtain ⟨v', w', hr, hown, hgr, _⟩ := run_append_own (P := Tryd.prog) w B 133 ty 136 i0 (.agg #[.int .i64 0, .int .i64 0]) 2 16 Tryd.underlying133 hi hz0 hz1 hz2 rfl (by decide) v ts.length _ h ⟨g, 0, none⟩ 1 1 [.int .i64 p, .int .i64 y] rfl hnews h1 (by unfold maxLen; omega) (by omega) hB
  refine ⟨v', w', hr, by unfold Ways; rw [flat_snoc]; simpa using hown, hgr, ?_⟩
  rcases h.2 with ⟨rfl, h0⟩ | ⟨g', cap, cur, rfl, hBg, hg, hnc, hcm, hcs, htk⟩
  · obtain rfl : ts = [] := List.eq_nil_of_length_eq_zero h0
    obtain ⟨v2, w2, hr2, hown2, _, _⟩ := run_append_own (P := Tryd.prog) w w.heap.size 133 ty 136 i0 (.agg #[.int .i64 0, .int .i64 0]) 2 16 Tryd.underlying133 hi hz0 hz1 hz2 rfl (by decide) (.slice none 0 0) 0 [] (World.ownsRow_nil _ _ _ _) ⟨g, 0, none⟩ 1 1 [.int .i64 p, .int .i64 y] rfl hnews h1 (by unfold maxLen; omega) (by omega) (Nat.le_refl _)
    rw [hr2] at hr
    injection hr with e1 e2
    subst e1; subst e2
    exact fun k hk => .inr (World.ownsRow.lt hown2 k hk).1
  · by_cases hroom : ts.length + 1 ≤ cap
    · have hr2 := run_append_room (P := Tryd.prog) w 133 ty 136 i0 Tryd.underlying133 hi g' ts.length cap cur hg ⟨g, 0, none⟩ 1 1 [.int .i64 p, .int .i64 y] (by rw [hz1]; rfl) hnews h1 hroom (by rw [hz1]; simp; omega)
      rw [hr2] at hr
      injection hr with e1 e2
      subst e1
      exact fun k hk => .inl (by simpa [Value.ownBlock] using hk)
    · obtain ⟨v2, w2, hr2, hown2, _⟩ := run_append_arg_grows (P := Tryd.prog) w 133 ty 136 i0 (.agg #[.int .i64 0, .int .i64 0]) 2 16 Tryd.underlying133 hi hz0 hz1 hz2 rfl (by decide) ⟨g', 0, none⟩ ts.length cap ((flat ts).map (Value.int .i64)) (by rw [List.length_map, flat_length]; omega) (World.ownsRow.cells (g := g') h rfl) ⟨g, 0, none⟩ 1 1 [.int .i64 p, .int .i64 y] rfl hnews (by omega) (by unfold maxLen; omega) (by omega)
      rw [hr2] at hr
      injection hr with e1 e2
      subst e1; subst e2
      exact fun k hk => .inr (World.ownsRow.lt hown2 k hk).1

section
variable {w : World} {ops : Array Oper} {rest : List Oper} {o : Oper} {a : Act} {K : Act → World → Prop} {Q : Exit → Act → World → Prop} {E : Prop}
theorem wp_appendW (s x : Operand) (ho : o.op = .call { callee := .builtin .append, args := #[s, x], argTypes := #[133, 133] }) (B : Nat) (v : Value) (ts : List Token) (hs : a.eval s = v) (hB : B ≤ w.heap.size) (hown : Ways w B v ts)
    (g : Nat) (p y : Int) (hx : a.eval x = .slice (some ⟨g, 0, none⟩) 1 1) (hc : w.cell? ⟨g, 0, none⟩ = some (.int .i64 p)) (hc1 : w.cell? ⟨g, 1, none⟩ = some (.int .i64 y)) (hlen : ts.length ≤ 1000000)
    (h : ∀ v' w', Ways w' B v' (ts ++ [(p, y)]) → w.grownBy w' v.ownBlock → Stays w v v' → K (a.put o.dst v') w') : o.wp Tryd.prog a w K Q := by
  obtain ⟨v', w', hr, h2, h3, h4⟩ := run_appendW w B v ts hown hB g p y hc hc1 hlen o.type
  unfold Oper.wp execOp
  simp only [ho, resolve, invoke, builtin, Sem.run_bind, Sem.run_pure, Result.andThen_ok, List.map_toArray, List.map_cons, List.map_nil, hs, hx, hr]
  exact h v' w' h2 h3 h4
theorem wpList_appendW (hgd : o.guard = none) (s x : Operand) (ho : o.op = .call { callee := .builtin .append, args := #[s, x], argTypes := #[133, 133] }) (B : Nat) (v : Value) (ts : List Token) (hs : a.eval s = v) (hB : B ≤ w.heap.size) (hown : Ways w B v ts)
    (g : Nat) (p y : Int) (hx : a.eval x = .slice (some ⟨g, 0, none⟩) 1 1) (hc : w.cell? ⟨g, 0, none⟩ = some (.int .i64 p)) (hc1 : w.cell? ⟨g, 1, none⟩ = some (.int .i64 y)) (hlen : ts.length ≤ 1000000)
    (h : ∀ v' w', Ways w' B v' (ts ++ [(p, y)]) → w.grownBy w' v.ownBlock → Stays w v v' → wpList Tryd.prog ops Q rest (a.put o.dst v') w') : wpList Tryd.prog ops Q (o :: rest) a w :=
  wpList_plain hgd fun _ hK => wp_appendW s x ho B v ts hs hB hown g p y hx hc hc1 hlen fun v' w' h1 h2 h3 => hK _ _ (h v' w' h1 h2 h3)
theorem step_appendW (hgd : o.guard = none) (s x : Operand) (ho : o.op = .call { callee := .builtin .append, args := #[s, x], argTypes := #[133, 133] }) (B : Nat) (v : Value) (ts : List Token) (hs : a.eval s = v) (hB : B ≤ w.heap.size) (hown : Ways w B v ts)
    (g : Nat) (p y : Int) (hx : a.eval x = .slice (some ⟨g, 0, none⟩) 1 1) (hc : w.cell? ⟨g, 0, none⟩ = some (.int .i64 p)) (hc1 : w.cell? ⟨g, 1, none⟩ = some (.int .i64 y)) (hlen : ts.length ≤ 1000000)
    (h : ∀ v' w', Ways w' B v' (ts ++ [(p, y)]) → w.grownBy w' v.ownBlock → Stays w v v' → K (a.put o.dst v') w') : if Region.wanted o (yielded ops a.tmps) = true then Oper.wp Tryd.prog o a w K Q else E := by
  have hw : Region.wanted o (yielded ops a.tmps) = true := by simp [Region.wanted, hgd]
  rw [if_pos hw]
  exact wp_appendW s x ho B v ts hs hB hown g p y hx hc hc1 hlen h
end

/-- The ways into a code: its beginning and its pads. -/
def wayT (q : Nat × Int) : Token := ((q.1 : Int), q.2)
theorem Ways.one {w : World} (x y : Int) : Ways (w.alloc (.cells #[.int .i64 x, .int .i64 y] 136)) w.heap.size (.slice (some ⟨w.heap.size, 0, none⟩) 1 1) [(x, y)] :=
  ⟨rfl, .inr ⟨w.heap.size, 1, #[.int .i64 x, .int .i64 y], rfl, Nat.le_refl _, heap_alloc_new _ _, Nat.le_refl _, by unfold maxLen; omega, rfl, rfl⟩⟩

end Go.Proofs.YtpbkkjiikhjanaaDoor

/-
  The library's contract on bits.Mul, laid at this program.
-/
namespace Go.Proofs
open Go.Shelf
def Tryd.lays212_ren : Go.Shelf.Ren := ⟨fun | 212 => 100 | 263 => 101 | 264 => 102 | n => n, fun | 46 => 137 | 51 => 140 | 146 => 141 | 53 => 143 | 148 => 144 | n => n, fun | n => n⟩
theorem Tryd.lays212 : Go.Proofs.Lays.n212 Tryd.prog Tryd.lays212_ren := {
  mixed := by kernel_rfl
  f212 := Tryd.func100.trans (congrArg some (by kernel_rfl))
  f263 := Tryd.func101.trans (congrArg some (by kernel_rfl))
  f264 := Tryd.func102.trans (congrArg some (by kernel_rfl))
  t46 := Tryd.underlying137
  a46 := Tryd.isAgg137
  z46 := Tryd.sizeOf137
  v46 := Tryd.zeroValue137
  t51 := Tryd.underlying140
  a51 := Tryd.isAgg140
  z51 := Tryd.sizeOf140
  v51 := Tryd.zeroValue140
  t53 := Tryd.underlying143
  a53 := Tryd.isAgg143
  z53 := Tryd.sizeOf143
  v53 := Tryd.zeroValue143
  t146 := Tryd.underlying141
  a146 := Tryd.isAgg141
  z146 := Tryd.sizeOf141
  v146 := Tryd.zeroValue141
  t148 := Tryd.underlying144
  a148 := Tryd.isAgg144
  z148 := Tryd.sizeOf144
  v148 := Tryd.zeroValue144 }
open Go.RowKit Go.Lib in
theorem Tryd.bits_Mul (x y : Nat) (hx : x < 18446744073709551616) (hy : y < 18446744073709551616) (w : World) :
    Calls Tryd.prog 100 #[.int .u64 x, .int .u64 y] w fun e w' => e = .returned (.tuple #[.int .u64 ((x * y / 18446744073709551616 : Nat) : Int), .int .u64 ((x * y % 18446744073709551616 : Nat) : Int)]) ∧ w' = w := Any.bits_Mul Tryd.lays212 x y hx hy w
end Go.Proofs

/-
  slices.Repeat of one number: contract.
-/
namespace Go.Proofs.YtpbkkjiikhjanaaDoor
open Go.RowKit Exs

theorem Room.pushes {g : Nat} {t : TypeId} {c : Nat} {k : IntKind} {x : Int} : ∀ (q m : Nat) {w : World}, Room w g t c k (List.replicate m x) → m + q ≤ c → Room (w.setCells g m ((List.replicate q x).map (Value.int k))) g t c k (List.replicate (m + q) x)
  | 0, m, w, h, _ => by simpa [World.setCells] using h
  | q + 1, m, w, h, hc => by
    have h1 := h.push (by simp; omega) x
    rw [List.length_replicate, ← List.replicate_succ'] at h1
    have h2 := Room.pushes q (m + 1) h1 (by omega)
    rw [List.replicate_succ, List.map_cons, World.setCells, show m + (q + 1) = m + 1 + q by omega]
    exact h2
theorem Below.setCells {g B : Nat} {a : World} (hg : B ≤ g) : ∀ (vs : List Value) (o : Nat) {w : World}, Below B a w → Below B a (w.setCells g o vs)
  | [], _, _, h => h
  | v :: r, o, _, h => Below.setCells hg r (o + 1) (h.setCell hg v)

/-- A row is copied on behind itself. -/
theorem copy_rep {P : Program} (w : World) (g n m : Nat) (x : Int) (ty t : TypeId) (ht : P.underlying t = some (.slice 3)) (hi : (P.info? 3).map (·.size) = some 1) (h : Room w g 3 n .i64 (List.replicate m x)) (hmn : m < n) (b off sc dc : Nat) (src : ∀ j, j < Nat.min m (n - m) → w.cell? ⟨b, off + j, none⟩ = some (.int .i64 x)) :
    ∃ w', (Builtin.copy_ #[t, t] ty #[.slice (some ⟨g, m, none⟩) (n - m) dc, .slice (some ⟨b, off, none⟩) m sc]).run P w = .ok (.int .i64 (Nat.min m (n - m) : Nat)) w' ∧ Room w' g 3 n .i64 (List.replicate (m + Nat.min m (n - m)) x) ∧ Below g w w' := by
  have hle : Nat.min m (n - m) ≤ n - m := Nat.min_le_right _ _
  have hrun := run_copy_cells (P := P) w t t ty 3 g m (n - m) dc ⟨b, off, none⟩ m sc ((List.replicate (Nat.min m (n - m)) x).map (Value.int .i64)) ht hi (by simp)
    (fun j v hj => by
      rw [List.getElem?_map] at hj
      obtain ⟨y, hy, rfl⟩ := Option.map_eq_some_iff.1 hj
      rw [List.getElem?_replicate] at hy
      split at hy
      · injection hy with hy
        subst hy
        have := src j (by assumption)
        by_cases hj0 : j = 0
        · subst hj0; simpa [Addr.add] using this
        · simpa [Addr.add, hj0] using this
      · cases hy)
    (fun j hj => by simp at hj; obtain ⟨v, hv⟩ := h.at_ (m + j) (by omega); rw [hv]; rfl)
    (fun j _ => h.frozen _)
    (fun v hv => by simp at hv; obtain ⟨_, rfl⟩ := hv; rfl)
  exact ⟨_, by rw [hrun]; simp [goInt], h.pushes _ _ (by omega), Below.setCells (Nat.le_refl _) _ _ (Below.refl _ _)⟩

section
variable {w : World} {ops : Array Oper} {o : Oper} {a : Act} {K : Act → World → Prop} {Q : Exit → Act → World → Prop} {E : Prop}
theorem step_copy {P : Program} (hgd : o.guard = none) (d s : Operand) (t t' : TypeId) (ho : o.op = .call { callee := .builtin .copy, args := #[d, s], argTypes := #[t, t'] }) (v u : Value) (hd : a.eval d = v) (hs : a.eval s = u) {v' : Value} {w' : World}
    (hr : (Builtin.copy_ #[t, t'] o.type #[v, u]).run P w = .ok v' w') (h : K (a.put o.dst v') w') : if Region.wanted o (yielded ops a.tmps) = true then Oper.wp P o a w K Q else E := by
  have hw : Region.wanted o (yielded ops a.tmps) = true := by simp [Region.wanted, hgd]
  rw [if_pos hw]
  exact Lib.wp_copy_run w d s t t' ho v u hd hs hr h
end

theorem Tryd.size3 : (Tryd.prog.info? 3).map (·.size) = some 1 := by kernel_rfl

set_option maxHeartbeats 600000 in
set_option maxRecDepth 100000 in
theorem repeat_any (x : Int) (n : Nat) (g : Nat) (w : World) (hk : Keep w g #[.int .i64 x] 3) (hn : 1 ≤ n) (hm : n ≤ 300) :
    Calls Tryd.prog 94 #[.slice (some ⟨g, 0, none⟩) 1 1, .int .i64 n] w fun e w' => e = .returned (.slice (some ⟨w.heap.size, 0, none⟩) n n) ∧ Room w' w.heap.size 3 n .i64 (List.replicate n x) ∧ Below w.heap.size w w' := by
  have hmk := fun W => run_make_row' (P := Tryd.prog) 26 3 (.int .i64 0) 8 Tryd.underlying26 Tryd.info3 rfl .i64 .i64 n (by omega) (by omega) W
  have hmul := Tryd.bits_Mul 1 n (by omega) (by omega) w
  have e1 : 1 * n / 18446744073709551616 = 0 := Nat.div_eq_of_lt (by omega)
  have e2 : 1 * n % 18446744073709551616 = n := by rw [Nat.one_mul]; exact Nat.mod_eq_of_lt (by omega)
  rw [e1, e2] at hmul
  clear e1 e2
  have hb := (Below.refl w.heap.size w).alloc (Nat.le_refl _) (.cells (madeCells #[.int .i64 0] n) 3)
  have hr0 := Room.made w 3 n .i64
  have c0 := ((hk.below hb).cell 0)
  simp at c0
  go_enter Tryd.func94, Tryd.ntmps94
  go_wp2_with fail
  refine hmul.mono ?_
  rintro e w1 ⟨rfl, rfl⟩
  clear hmul
  have hn1 : (1 : Nat) < n ∨ n = 1 := by omega
  obtain ⟨w2, hrun, hroom2, hbel2⟩ : ∃ w', (Builtin.copy_ #[26, 26] 3 #[.slice (some ⟨w1.heap.size, 0, none⟩) n n, .slice (some ⟨g, 0, none⟩) 1 1]).run Tryd.prog (w1.alloc (.cells (madeCells #[.int .i64 0] n) 3)) = .ok (.int .i64 1) w' ∧ Room w' w1.heap.size 3 n .i64 (List.replicate 1 x) ∧ Below w1.heap.size (w1.alloc (.cells (madeCells #[.int .i64 0] n) 3)) w' := by
    have hmin : Nat.min 1 n = 1 := by simp only [Nat.min_def]; split <;> omega
    have hrun := run_copy_cells (P := Tryd.prog) (w1.alloc (.cells (madeCells #[.int .i64 0] n) 3)) 26 26 3 3 w1.heap.size 0 n n ⟨g, 0, none⟩ 1 1 [.int .i64 x] Tryd.underlying26 Tryd.size3 (by rw [hmin]; rfl)
      (fun j v hj => by
        match j, hj with
        | 0, hj => simp at hj; subst hj; simpa [Addr.add] using c0)
      (fun j hj => by simp at hj; subst hj; obtain ⟨v, hv⟩ := hr0.at_ 0 (by omega); rw [hv]; rfl)
      (fun j _ => hr0.frozen _)
      (fun v hv => by simp at hv; subst hv; rfl)
    refine ⟨_, hrun, ?_, Below.setCells (Nat.le_refl _) _ _ (Below.refl _ _)⟩
    have := hr0.pushes 1 0 (x := x) (by omega)
    simpa using this
  have hB2 : Below w1.heap.size w1 w2 := hb.trans hbel2
  clear hn1 hbel2
  go_wp2_with (at_builtin; refine Lib.wpList_copy_run _ rfl _ _ 26 26 rfl _ _ rfl rfl hrun ?_)
  clear hrun c0 hr0 hb hmk
  go_loopw [8] (fun i wr => ∃ m : Nat, 1 ≤ m ∧ m ≤ n ∧ i = .int .i64 m ∧ Room wr w1.heap.size 3 n .i64 (List.replicate m x) ∧ Below w1.heap.size w1 wr) (fun i _ => n - (intOf i).toNat)
  case atStart => exact ⟨1, Nat.le_refl _, hn, rfl, hroom2, hB2⟩
  case round =>
    clear hroom2 hB2
    obtain ⟨m, hm1, hmn, rfl, hroom, hbel⟩ := hrel
    by_cases hlt : m < n
    · obtain ⟨q, hq⟩ : ∃ q, Nat.min m (n - m) = q := ⟨_, rfl⟩
      have hq1 : 1 ≤ q ∧ q ≤ m ∧ q ≤ n - m := by rw [← hq]; simp only [Nat.min_def]; split <;> omega
      have hcopy := copy_rep (P := Tryd.prog) wr.drew w1.heap.size n m x 3 26 Tryd.underlying26 Tryd.size3 hroom hlt w1.heap.size 0 n (n - m) (fun j hj => by
        have hjm : j < m := by rw [hq] at hj; omega
        rw [Nat.zero_add]
        have := hroom.at (j := j) (x := x) (by rw [List.getElem?_replicate, if_pos hjm])
        exact this)
      rw [hq] at hcopy
      obtain ⟨w3, hrun, hr3, hb3⟩ := hcopy
      have hw : IntKind.i64.wrap ((m : Int) + (q : Int)) = (m : Int) + (q : Int) := IntWalk.i64_in _ ⟨by omega, by omega⟩
      have hmI : (m : Int) ≤ (n : Int) := by omega
      have hrun2 : (Builtin.copy_ #[26, 26] 3 #[.slice (if n = m then some ⟨w1.heap.size, 0, none⟩ else some ⟨w1.heap.size, m, none⟩) (n - m) (n - m), .slice (some ⟨w1.heap.size, 0, none⟩) m n]).run Tryd.prog wr.drew = .ok (.int .i64 (q : Int)) w3 := by rw [if_neg (by omega)]; exact hrun
      go_wp2
      go_region_law (first | (refine step_copy rfl (.tmp 41) (.tmp 44) 26 26 rfl (.slice (if n = m then some ⟨w1.heap.size, 0, none⟩ else some ⟨w1.heap.size, m, none⟩) (n - m) (n - m)) (.slice (some ⟨w1.heap.size, 0, none⟩) m n) (by go_simp) (by go_simp) hrun2 ?_))
      all_goals (
        go_wp2
        go_roundw
        case rel => exact ⟨m + q, by omega, by omega, by simp, hr3, (hbel.drew.trans hb3)⟩
        case measure => simp [intOf]; omega)
    · obtain rfl : m = n := by omega
      go_wp2
      go_ret
      exact ⟨rfl, hroom, hbel⟩

end Go.Proofs.YtpbkkjiikhjanaaDoor

/-
  The ways into a code: contract.
-/
namespace Go.Proofs.YtpbkkjiikhjanaaDoor
open Go.RowKit Exs Ht

def padT (rs : List Row3) : List Token := rs.map fun r => (r.2.2, 0)
theorem padT_more {rs : List Row3} {k : Nat} {x y z : Int} (h : rs[k]? = some (x, y, z)) : padT (rs.take (k + 1)) = padT (rs.take k) ++ [(z, 0)] := by rw [takeA_more h]; simp [padT]
theorem padT_length (rs : List Row3) : (padT rs).length = rs.length := by simp [padT]

set_option maxHeartbeats 1000000 in
set_option maxRecDepth 100000 in
theorem waysInto_any (s : Cd) (A1 : Option Addr) (n1 c1 : Nat) (A2 : Option Addr) (n2 c2 : Nat) (A3 : Option Addr) (n3 c3 : Nat) (w : World) (hs0 : IsCd w w.heap.size s A1 n1 A2 n2 A3 n3) (hi : cdB s = true) :
    Calls Tryd.prog 95 #[cdV s A1 n1 c1 A2 n2 c2 A3 n3 c3] w fun e w' => ∃ v, e = .returned v ∧ Ways w' w.heap.size v ((0, 0) :: padT s.rows) ∧ Below w.heap.size w w' := by
  have hs := hs0
  have hrows := hs.rows
  have hb := (Below.refl w.heap.size w).alloc (Nat.le_refl _) (Obj.cells #[.int .i64 s.params, .int .i64 s.vars, .slice A1 n1 c1, .slice A2 n2 c2, .slice A3 n3 c3] 76)
  have k2 := Keep.new w #[.int .i64 s.params, .int .i64 s.vars, .slice A1 n1 c1, .slice A2 n2 c2, .slice A3 n3 c3] 76
  have hsz := cdB_iff s |>.1 hi
  rw [hs.sites.1, hs.ins.1, hs.rows.1] at hsz
  have HSZ := put hsz
  have l2 : n2 ≤ 300 := by omega
  have E := put hs.ins.1
  have hins := hs.ins
  clear hsz hi hs
  unfold cdV
  have l3 : n3 ≤ 300 := by have := HSZ.out; omega
  have hb1 := hb.alloc hb.size (.cells #[.int .i64 0, .int .i64 0] 136)
  have hw0 := (Ways.one (w := w.alloc (Obj.cells #[.int .i64 s.params, .int .i64 s.vars, .slice A1 n1 c1, .slice A2 n2 c2, .slice A3 n3 c3] 76)) 0 0).more hb.size
  rw [World.size_alloc] at hw0
  clear HSZ E hins k2 hs0
  go_enter Tryd.func95, Tryd.ntmps95
  go_wp2
  generalize hW : (w.alloc (Obj.cells #[.int .i64 s.params, .int .i64 s.vars, .slice A1 n1 c1, .slice A2 n2 c2, .slice A3 n3 c3] 76)).alloc (.cells #[.int .i64 0, .int .i64 0] 136) = W0 at hb1 hw0 ⊢
  clear hW hb
  go_loopw [3, 11] (fun v i wr => ∃ k : Nat, k ≤ n3 ∧ i = .int .i64 k ∧ Ways wr w.heap.size v ((0, 0) :: padT (s.rows.take k)) ∧ Below w.heap.size w wr) (fun _ i _ => n3 - (intOf i).toNat)
  case atStart => exact ⟨0, Nat.zero_le _, rfl, by simpa [padT] using hw0, hb1⟩
  case round =>
    clear hw0 hb1
    obtain ⟨k, hk, rfl, hown, hbel⟩ := hrel
    by_cases hlt : k < n3
    · obtain ⟨b, off, x, y, z, rfl, hb', g1, g2, g3, hx⟩ := (hrows.below hbel).at_ hlt
      have hB := (Below.refl wr.heap.size wr).alloc (Nat.le_refl _) (.cells #[.int .i64 x, .int .i64 y, .int .i64 z] 115)
      have HM := put (padT_more hx.out)
      have HL := put (show ((0, 0) :: padT (s.rows.take k)).length ≤ 1000000 by rw [List.length_cons, padT_length, List.length_take]; omega)
      have hs1 := hbel.size
      have h2 := (hown.alloc (.cells #[.int .i64 x, .int .i64 y, .int .i64 z] 115)).alloc (.cells #[.int .i64 z, .int .i64 0] 136)
      have hbel2 := (hbel.alloc hbel.size (.cells #[.int .i64 x, .int .i64 y, .int .i64 z] 115)).alloc (by simp; omega) (.cells #[.int .i64 z, .int .i64 0] 136)
      have OWN := put (fun (b : Nat) e => hown.own_lt (b := b) e)
      generalize padT (s.rows.take k) = l at hown HM HL h2
      clear hB
      go_wp2_with (at_builtin; refine wpList_appendW rfl _ _ rfl w.heap.size _ ((0, 0) :: l) rfl (by simp; omega) h2 (wr.heap.size + 1) z 0 rfl (by simp) (by simp) HL.out ?_; intro v' w1 hn1 hg1 hst1)
      go_roundw
      case rel => exact ⟨k + 1, by omega, by go_num, by rw [HM.out]; exact hn1, hbel2.grown hg1 (by simp; omega) (fun b e => (OWN.out b e).1)⟩
      case measure => simp [intOf]; omega
    · have hfin := put (show s.rows.take k = s.rows from List.take_of_length_le (by rw [hrows.1]; omega))
      go_wp2
      go_ret
      exact ⟨_, rfl, by rw [hfin.out] at hown; exact hown, hbel⟩

end Go.Proofs.YtpbkkjiikhjanaaDoor

/-
  The program's heights: contract.
-/
namespace Go.Proofs.YtpbkkjiikhjanaaDoor
open Go.RowKit Exs Ht

theorem least_of {p : Nat → Prop} : (∃ n, p n) → ∃ n, p n ∧ ∀ m, p m → n ≤ m := by
  rintro ⟨n, hn⟩
  induction n using Nat.strongRecOn with
  | _ n ih =>
    by_cases h : ∃ m, m < n ∧ p m
    · obtain ⟨m, hm, hp⟩ := h; exact ih m hm hp
    · exact ⟨n, hn, fun m hm => Nat.le_of_not_lt fun hlt => h ⟨m, hlt, hm⟩⟩
open Classical in
noncomputable def leastN (p : Nat → Prop) : Nat := if h : ∃ n, p n then Classical.choose (least_of h) else 0
theorem leastN_is {p : Nat → Prop} (h : ∃ n, p n) : p (leastN p) ∧ ∀ m, p m → leastN p ≤ m := by
  unfold leastN
  rw [dif_pos h]
  exact Classical.choose_spec (least_of h)

theorem wp_mono' {P : Program} {a : Act} {w : World} {Q Q' : Exit → Act → World → Prop} {c : Code} (h : c.wp P Q a w) (hq : ∀ e a w, Q e a w → Q' e a w) : c.wp P Q' a w := fun b k cs => by
  obtain ⟨e, a', w', h1, h2⟩ := h b k cs
  exact ⟨e, a', w', hq _ _ _ h1, h2⟩

/-- A scope in which the run jumps back to a label, with a count that no part of the frame tells. -/
theorem wp_scope_ghost {P : Program} {a : Act} {w : World} {Q : Exit → Act → World → Prop} {c rest : Code} (l : Nat) (J : Nat → Act → World → Prop) (hf : findLabel c l = some (Code.skip.seq rest))
    (first : (∀ n a w, J n a w → rest.wp P (Exit.jump l (fun a' w' => ∃ n, J n a' w') Q) a w) → c.wp P (Exit.jump l (fun a' w' => ∃ n, J n a' w') Q) a w)
    (pass0 : ∀ n a w (JJ : Act → World → Prop), J n a w → (∀ n' a' w', J n' a' w' → n' < n → JJ a' w') → rest.wp P (Exit.jump l JJ Q) a w) : (Code.scope c).wp P Q a w := by
  have pass : ∀ n a w, J n a w → rest.wp P (Exit.jump l (fun a' w' => ∃ n', J n' a' w' ∧ n' < n) Q) a w := fun n a w h => pass0 n a w _ h fun n' _ _ h' hl => ⟨n', h', hl⟩
  refine wp_scope_jumps l (fun a w => ∃ n, J n a w) (fun a w => leastN fun n => J n a w) hf (first fun n a w h => wp_mono' (pass n a w h) fun e a' w' he => ?_) fun a w h => ?_
  · cases e <;> first | exact he | (obtain ⟨h1, n', h2, _⟩ := he; exact ⟨h1, n', h2⟩)
  · obtain ⟨h1, h2⟩ := leastN_is h
    refine wp_seq (wp_skip ?_)
    refine wp_mono' (pass _ a w h1) fun e a' w' he => ?_
    cases e <;> first | exact he | (obtain ⟨e1, n', h3, h4⟩ := he; exact ⟨e1, ⟨n', h3⟩, Nat.lt_of_le_of_lt ((leastN_is ⟨n', h3⟩).2 n' h3) h4⟩)

structure WMem (V wr : World) (g k : Nat) (hs : List Int) (v : Value) (ts : List Token) : Prop where
  room : Room wr g 3 k .i64 hs
  ways : Ways wr (g + 1) v ts
  bel : Below g V wr
theorem WMem.below {V wr W : World} {g k : Nat} {hs : List Int} {v : Value} {ts : List Token} (h : WMem V wr g k hs v ts) (hg : g ≤ V.heap.size) (hb : Below wr.heap.size wr W) : WMem V W g k hs v ts :=
  ⟨h.room.below hb h.room.lt, h.ways.below hb, h.bel.trans (hb.mono (by have := h.bel.size; omega))⟩
theorem WMem.set {V wr : World} {g k : Nat} {hs : List Int} {v : Value} {ts : List Token} (h : WMem V wr g k hs v ts) (hl : hs.length ≤ k) (i : Nat) (x : Int) : WMem V (wr.setCell ⟨g, i, none⟩ (.int .i64 x)) g k (hs.set i x) v ts :=
  ⟨h.room.set hl x, h.ways.other (Nat.lt_succ_self g), h.bel.setCell (Nat.le_refl _) _⟩
theorem WMem.app {V W w1 : World} {g k : Nat} {hs : List Int} {v v' : Value} {ts ts' : List Token} (h : WMem V W g k hs v ts) (hn : Ways w1 (g + 1) v' ts') (hgr : W.grownBy w1 v.ownBlock) : WMem V w1 g k hs v' ts' := by
  have hb : Below (g + 1) W w1 := ⟨hgr.os, hgr.tape, hgr.output, hgr.size, fun j hj => hgr.block j (by have := h.room.lt; omega) fun e => by have := h.ways.own_lt e.symm; omega⟩
  exact ⟨h.room.below hb (Nat.lt_succ_self g), hn, h.bel.trans (hb.mono (Nat.le_succ g))⟩
theorem Ways.shape {w : World} {B : Nat} {v : Value} {ts : List Token} (h : Ways w B v ts) : ∃ A c, v = .slice A ts.length c := by
  rcases h.2 with ⟨rfl, h0⟩ | ⟨g, cap, cur, rfl, _⟩
  · exact ⟨none, 0, by rw [h0]⟩
  · exact ⟨_, _, rfl⟩
theorem Ways.cut' {w : World} {B g cap n : Nat} {ts : List Token} (h : Ways w B (.slice (some ⟨g, 0, none⟩) n cap) ts) (m : Nat) (hm : m ≤ n) : Ways w B (.slice (some ⟨g, 0, none⟩) m cap) (ts.take m) := by
  obtain ⟨A, c, hv⟩ := h.shape
  injection hv with h1 h2 h3
  subst h2
  exact h.cut m hm
theorem after_quiet {W1 w3 : World} {q : Nat} {cs : Array Value} {t : TypeId} (hb3 : Below ((W1.drewN q).alloc (.cells cs t)).heap.size ((W1.drewN q).alloc (.cells cs t)) w3) : Below W1.heap.size W1 w3 ∧ Keep w3 W1.heap.size cs t :=
  ⟨((below_drewN (Below.refl _ W1) q).alloc (Nat.le_refl _) (.cells cs t)).trans (hb3.mono (by simp [World.drewN])), (Keep.new (W1.drewN q) cs t).below hb3⟩
theorem ways_eq {ws : List (Nat × Int)} {l : List Int} {H : Int} (hp : ∀ y ∈ l, 0 ≤ y) : (ws ++ (l.map Int.toNat).map fun q => (q, H)).map wayT = ws.map wayT ++ l.map fun y => (y, H) := by
  rw [List.map_append, List.map_map, List.map_map]
  congr 1
  apply List.map_congr_left
  intro y hy
  simp only [Function.comp, wayT]
  rw [Int.toNat_of_nonneg (hp y hy)]
theorem start_ways {cs : List Cd} {s : Cd} {n2 : Nat} (hro : rowsF n2 0 s.rows = true) : (0, 0) :: padT s.rows = ((0, 0) :: (gr cs s).pads.map fun p => (p, 0)).map wayT := by
  rw [List.map_cons]
  congr 1
  show padT s.rows = List.map wayT (List.map _ (List.map _ s.rows))
  rw [List.map_map, List.map_map]
  unfold padT
  apply List.map_congr_left
  intro r hr
  have := rowsF_mem hro r hr
  simp only [Function.comp, wayT]
  rw [Int.toNat_of_nonneg this.1]

set_option maxHeartbeats 4000000 in
set_option maxRecDepth 100000 in
theorem heightsIn_any (A : Option Addr) (n c : Nat) (cs : List Cd) (s : Cd) (A1 : Option Addr) (n1 c1 : Nat) (A2 : Option Addr) (n2 c2 : Nat) (A3 : Option Addr) (n3 c3 : Nat) (w : World) (hr : ReadsC w w.heap.size A n cs) (hs : IsCd w w.heap.size s A1 n1 A2 n2 A3 n3) (_ : n ≤ 5) (hi : cdB s = true) (hp : ∀ c ∈ cs, cdB c = true) (hnm : namedB cs s = true) (hgo : goesB s = true) (hro : rowsF s.ins.length 0 s.rows = true) (hkd : Kinds w) (hpos : 0 < w.heap.size) :
    Calls Tryd.prog 83 #[.agg #[.slice A n c], cdV s A1 n1 c1 A2 n2 c2 A3 n3 c3] w fun e w' => ∃ v, e = .returned (.tuple #[v, .bool (htAns (hts (gr cs s))).2]) ∧ Nums w' w.heap.size 3 .i64 v (htAns (hts (gr cs s))).1 ∧ Below w.heap.size w w' := by
  have WF := put (gr_wf hp hi hgo hro)
  have HNM := put hnm
  have HP := put hp
  have HRO := put hro
  have hi0 := hi
  have hs0 := hs
  clear hp hnm hgo hro
  have hb := ((Below.refl w.heap.size w).alloc (Nat.le_refl _) (Obj.cells #[.slice A n c] 36)).alloc (by simp) (Obj.cells #[.int .i64 s.params, .int .i64 s.vars, .slice A1 n1 c1, .slice A2 n2 c2, .slice A3 n3 c3] 76)
  have k1 := (Keep.new w #[.slice A n c] 36).alloc (Obj.cells #[.int .i64 s.params, .int .i64 s.vars, .slice A1 n1 c1, .slice A2 n2 c2, .slice A3 n3 c3] 76)
  have k2 := Keep.new (w.alloc (Obj.cells #[.slice A n c] 36)) #[.int .i64 s.params, .int .i64 s.vars, .slice A1 n1 c1, .slice A2 n2 c2, .slice A3 n3 c3] 76
  rw [World.size_alloc] at k2
  have hsz := cdB_iff s |>.1 hi
  rw [hs.sites.1, hs.ins.1, hs.rows.1] at hsz
  have HSZ := put hsz
  have l1 : n1 ≤ 4 := by omega
  have l2 : n2 ≤ 300 := by omega
  have l3 : n3 ≤ 300 := by omega
  clear hsz hi
  unfold cdV
  have GN := put (show (gr cs s).n = n2 from hs.ins.1)
  have l0 : 1 ≤ n2 := by have := HSZ.out; omega
  have hbN := hb.alloc hb.size (.cells #[.int .i64 (-1)] 3)
  have kN := Keep.new ((w.alloc (Obj.cells #[.slice A n c] 36)).alloc (Obj.cells #[.int .i64 s.params, .int .i64 s.vars, .slice A1 n1 c1, .slice A2 n2 c2, .slice A3 n3 c3] 76)) #[.int .i64 (-1)] 3
  rw [World.size_alloc, World.size_alloc] at kN
  replace k1 := k1.alloc (.cells #[.int .i64 (-1)] 3)
  replace k2 := k2.alloc (.cells #[.int .i64 (-1)] 3)
  have hins := hs.ins.now hbN
  have hrd := hr.now hbN
  have hcd := hs0.now hbN
  have EN := put hr.1
  have HKD := put (hkd.below hbN hpos)
  have VS : (((w.alloc (Obj.cells #[.slice A n c] 36)).alloc (Obj.cells #[.int .i64 s.params, .int .i64 s.vars, .slice A1 n1 c1, .slice A2 n2 c2, .slice A3 n3 c3] 76)).alloc (.cells #[.int .i64 (-1)] 3)).heap.size = w.heap.size + 1 + 1 + 1 := by simp
  have SW := put (start_ways (cs := cs) (s := s) HRO.out)
  clear hr hs hs0 hkd hb
  generalize hV : ((w.alloc (Obj.cells #[.slice A n c] 36)).alloc (Obj.cells #[.int .i64 s.params, .int .i64 s.vars, .slice A1 n1 c1, .slice A2 n2 c2, .slice A3 n3 c3] 76)).alloc (.cells #[.int .i64 (-1)] 3) = V at hbN kN k1 k2 hins hrd hcd HKD VS
  have HV := put hV
  clear hV
  go_enter Tryd.func83, Tryd.ntmps83
  go_wp2
  refine wp_scope_ghost 0 (fun m a' w' => ∃ (hs : List Int) (ws : List (Nat × Int)) (v : Value) (us : List Value), a' = { tmps := #[.agg #[.slice A n c], .agg #[.int .i64 s.params, .int .i64 s.vars, .slice A1 n1 c1, .slice A2 n2 c2, .slice A3 n3 c3], .pointer (some ⟨w.heap.size, 0, none⟩), .pointer (some ⟨w.heap.size + 1, 0, none⟩), .slice none 0 0, .bool false, .slice (some ⟨w.heap.size + 1 + 1 + 1, 0, none⟩) n2 n2, v, us.getD 0 undef, us.getD 1 undef, us.getD 2 undef, us.getD 3 undef, us.getD 4 undef, us.getD 5 undef, us.getD 6 undef, us.getD 7 undef, us.getD 8 undef, us.getD 9 undef, us.getD 10 undef, us.getD 11 undef, us.getD 12 undef, us.getD 13 undef, us.getD 14 undef, us.getD 15 undef, us.getD 16 undef, us.getD 17 undef, us.getD 18 undef, us.getD 19 undef, us.getD 20 undef, us.getD 21 undef, us.getD 22 undef, us.getD 23 undef, us.getD 24 undef, us.getD 25 undef, us.getD 26 undef, us.getD 27 undef, us.getD 28 undef, us.getD 29 undef, us.getD 30 undef, us.getD 31 undef, us.getD 32 undef, us.getD 33 undef, us.getD 34 undef, us.getD 35 undef, us.getD 36 undef, us.getD 37 undef, us.getD 38 undef, us.getD 39 undef, us.getD 40 undef, us.getD 41 undef, us.getD 42 undef, us.getD 43 undef, us.getD 44 undef, us.getD 45 undef, us.getD 46 undef, us.getD 47 undef, us.getD 48 undef, us.getD 49 undef, us.getD 50 undef, us.getD 51 undef, us.getD 52 undef, us.getD 53 undef, us.getD 54 undef, us.getD 55 undef, us.getD 56 undef, us.getD 57 undef, us.getD 58 undef, us.getD 59 undef, us.getD 60 undef, us.getD 61 undef, us.getD 62 undef, us.getD 63 undef, us.getD 64 undef, us.getD 65 undef, us.getD 66 undef, us.getD 67 undef, us.getD 68 undef, us.getD 69 undef, us.getD 70 undef, us.getD 71 undef, us.getD 72 undef, us.getD 73 undef, us.getD 74 undef, us.getD 75 undef, us.getD 76 undef, us.getD 77 undef, us.getD 78 undef, us.getD 79 undef, us.getD 80 undef, us.getD 81 undef, us.getD 82 undef, us.getD 83 undef, us.getD 84 undef, us.getD 85 undef, us.getD 86 undef, us.getD 87 undef, us.getD 88 undef, us.getD 89 undef, us.getD 90 undef, us.getD 91 undef], defers := [] } ∧ Hid (Ht.Im (gr cs s) hs ws) ∧ WMem V w' (w.heap.size + 1 + 1 + 1) n2 hs v (ws.map wayT) ∧ m = 2 * miss hs + ws.length) rfl ?_ ?_
  · intro hrest
    go_wp2_with fail
    rw [HV.out]
    refine (repeat_any (-1) n2 (w.heap.size + 1 + 1) V kN l0 l2).mono ?_
    rintro e w1 ⟨rfl, hroom, hb1⟩
    rw [VS] at hroom hb1 ⊢
    have z := (k2.below' hb1 (by omega))
    have z0 := z.cell 0
    have z1 := z.cell 1
    have z2 := z.cell 2
    have z3 := z.cell 3
    have z4 := z.cell 4
    simp at z0 z1 z2 z3 z4
    have hcon := waysInto_any s A1 n1 c1 A2 n2 c2 A3 n3 c3 w1 (hcd.now (by rw [VS]; exact hb1)) hi0
    unfold cdV at hcon
    go_wp2_with fail
    refine hcon.mono ?_
    rintro e w2 ⟨v, rfl, hways, hb2⟩
    have hr2 := hroom.below hb2 hroom.lt
    have hg1 := hroom.lt
    clear z z0 z1 z2 z3 z4 hcon
    go_wp2
    go_step3
    rename_i hK
    refine hK _ _ (hrest _ _ _ ⟨List.replicate n2 (-1), (0, 0) :: (gr cs s).pads.map fun p => (p, 0), v, [_, _, _, _, _, _, _, _, _, _, _, _, _, _, _, _, _, _, _, _, _, _, _, _, _, _, _, _, _, _, _, _, _, _, _, _, _, _, _, _, _, _, _, _, _, _, _, _, _, _, _, _, _, _, _, _, _, _, _, _, _, _, _, _, _, _, _, _, _, _, _, _, _, _, _, _, _, _, _, _, _, _, _, _, _, _, _, _, _, _, _, _], rfl, ?_, ⟨hr2, ?_, ?_⟩, rfl⟩)
    · have := Ht.Im.start (gr cs s)
      rw [GN.out] at this
      exact put this
    · rw [← SW.out]
      exact hways.more hg1
    · exact hb1.trans (hb2.mono (by omega))
  · rintro m a' wo JJ ⟨hs, ws, v, us, rfl, IM, hm, rfl⟩ hJ
    have HJ := put hJ
    clear hJ
    have hbV : Below V.heap.size V wo := by rw [VS]; exact hm.bel
    have hlen : hs.length = n2 := by rw [IM.out.len, GN.out]
    have hVG : w.heap.size + 1 + 1 + 1 ≤ V.heap.size := by omega
    have hgl : w.heap.size + 1 + 1 + 1 < wo.heap.size := hm.room.lt
    have hwl : ws.length ≤ 1000 := by
      have h1 := IM.out.size
      have h2 : (gr cs s).pads.length = n3 := by show (List.map _ _).length = n3; rw [List.length_map]; exact hcd.rows.1
      rw [GN.out, h2] at h1
      omega
    have bwr : Below w.heap.size w wo := hbN.trans (hbV.mono hbN.size)
    rcases List.eq_nil_or_concat ws with rfl | ⟨ws', ⟨t, h⟩, rfl⟩
    · obtain ⟨Aw, cw, hv⟩ := hm.ways.shape
      rw [List.length_map, List.length_nil] at hv
      subst hv
      have HY := put (hts_of (IM.out.end_ WF.out))
      have hnum := Nums.of_room (B := w.heap.size) hm.room (by omega) (by omega) (by unfold maxLen; omega)
      rw [hlen] at hnum
      clear IM
      go_wp2
      simp only [Exit.jump]
      go_ret2
      rw [HY.out]
      exact ⟨_, rfl, hnum, bwr⟩
    · rw [List.concat_eq_append] at IM hm hwl HJ
      obtain ⟨h0, h41, hrch, htn, gg, hgg, hg0, hg1⟩ := IM.out.top WF.out
      obtain ⟨L, hL⟩ : ∃ L, ws'.length = L := ⟨_, rfl⟩
      have hwL : (List.map wayT (ws' ++ [(t, h)])).length = L + 1 := by simp [hL]
      obtain ⟨gw, cap, hv, hgw, hgwl, hcap, hcm, hcell⟩ := hm.ways.form (by rw [hwL]; omega)
      rw [hwL] at hv hcap
      subst hv
      obtain ⟨e1, e2⟩ := hcell L (wayT (t, h)) (by rw [List.getElem?_map, List.getElem?_append_right (by omega), hL, Nat.sub_self]; rfl)
      simp only [wayT] at e1 e2
      rw [GN.out] at htn
      have hcut := hm.ways.cut' L (by omega)
      rw [List.map_append, List.take_append_of_le_length (by simp [hL]), List.take_of_length_le (by simp [hL])] at hcut
      have hA := (Below.refl wo.heap.size wo).alloc (Nat.le_refl _) (.cells #[.int .i64 (t : Int), .int .i64 h] 136)
      have kb := Keep.new wo #[.int .i64 (t : Int), .int .i64 h] 136
      have hmC := (WMem.mk hm.room hcut hm.bel).below hVG hA
      have bw1 := bwr.alloc bwr.size (.cells #[.int .i64 (t : Int), .int .i64 h] 136)
      have hLb : L ≤ 1000 := by simp at hwl; omega
      have OW := put (fun (b : Nat) e => hcut.own_lt (b := b) e)
      clear hm hcut hcell hwL hA
      go_wp2
      generalize hW1 : wo.alloc (.cells #[.int .i64 (t : Int), .int .i64 h] 136) = W1 at kb hmC bw1 ⊢
      have hsz1 : W1.heap.size = wo.heap.size + 1 := by rw [← hW1]; simp
      clear hW1 e1 e2
      have cg := hmC.room.at hgg
      have y0 := kb.cell 0
      have y1 := kb.cell 1
      simp at y0 y1
      have htI : (t : Int) < (n2 : Int) := by omega
      by_cases hq : gg = h
      · subst hq
        have IMA := put (IM.out.again hgg)
        go_quiet (fail)
        go_wp2
        go_step3
        refine ⟨rfl, HJ.out _ _ _ ⟨hs, ws', _, [_, _, _, _, _, _, _, _, _, _, _, _, _, _, _, _, _, _, _, _, _, _, _, _, _, _, _, _, _, _, _, _, _, _, _, _, _, _, _, _, _, _, _, _, _, _, _, _, _, _, _, _, _, _, _, _, _, _, _, _, _, _, _, _, _, _, _, _, _, _, _, _, _, _, _, _, _, _, _, _, _, _, _, _, _, _, _, _, _, _, _, _], rfl, IMA, hmC.below hVG (below_drewN (Below.refl _ _) _), rfl⟩ (by simp)⟩
      · have hqb := beq_of hq
        have hbV1 : Below V.heap.size V W1 := by rw [VS]; exact hmC.bel
        obtain ⟨b, off, op, x, rfl, hb', i1, i2, hxt⟩ := (hins.below hbV1).at_ htn
        have HI : Hid (insB op x = true) := put (HSZ.out.2 _ (mem_of_at hxt.out))
        have HCALL := put (show op = 7 → x < (n : Int) from fun e => by
          have h1 := (namedB_iff cs s).1 HNM.out _ (mem_of_at hxt.out)
          subst e
          have h2 : x < (cs.length : Int) := of_decide_eq_true (show decide _ = true from h1)
          rw [EN.out] at h2
          exact h2)
        have TK := put (gr_tk (cs := cs) hxt.out)
        have PT := put (gr_pt (cs := cs) hxt.out)
        have NX := put (gr_nx (cs := cs) hxt.out)
        obtain ⟨tb0, tb1⟩ := tkI_is HP.out op x
        have pb : 0 ≤ kP op ∧ kP op ≤ 1 := by rcases kP_is op with e | ⟨e, _⟩ <;> omega
        obtain ⟨pb0, pb1⟩ := pb
        have CON := put (fun W (hW : Below W1.heap.size W1 W) => insTakes_any A n c cs op x W ((hrd.now hbV1).now hW) ((HKD.out.below hbV1 (by omega)).below hW (by omega)) (by have := hW.size; omega) HI.out HCALL.out)
        have z3 := (k2.below hbV1).cell 3
        have z0 := (k1.below hbV1).cell 0
        have zz0 : ∀ q, ((W1.drewN q).alloc (.cells #[.int .i64 op, .int .i64 x] 72)).cell? ⟨w.heap.size, 0, none⟩ = some (.slice A n c) := fun q => (((k1.below hbV1).below (below_drewN (Below.refl _ W1) q)).alloc (.cells #[.int .i64 op, .int .i64 x] 72)).cell 0
        simp at z3 z0
        obtain ⟨T, hT⟩ : ∃ T, tkI cs op x = T := ⟨_, rfl⟩
        rw [hT] at tb0 tb1 TK CON
        clear hT
        go_quiet (fail)
        go_wp2_with fail
        refine (CON.out _ ((below_drewN (Below.refl _ W1) _).alloc (Nat.le_refl _) _)).mono ?_
        rintro e w3 ⟨rfl, hb3⟩
        obtain ⟨hB3, kn⟩ := after_quiet hb3
        rw [hsz1] at kn
        replace hsz1 : wo.heap.size + 1 ≤ W1.heap.size := by omega
        have kb3 := kb.below hB3
        have hm3 := hmC.below hVG hB3
        have bw3 := bw1.trans (hB3.mono bw1.size)
        clear hb3 y0 y1 cg z3 z0 i1 i2 kb hmC CON zz0
        have cg := hm3.room.at hgg
        have fg := hm3.room.frozen t
        have y0 := kb3.cell 0
        have y1 := kb3.cell 1
        have n0 := kn.cell 0
        have n1' := kn.cell 1
        simp at y0 y1 n0 n1'
        by_cases hbad : gg ≠ -1 ∨ 40 < h ∨ h < T
        · have HN := put (hts_none (IM.out.bad WF.out hgg hq (by rw [TK.out]; exact hbad)))
          by_cases a1 : gg = -1
          · subst a1
            by_cases a2 : 40 < h
            · go_wp2
              simp only [Exit.jump]
              go_ret2
              rw [HN.out]
              exact ⟨_, rfl, Nums.nil _ _ _ _, bw3⟩
            · have a3 : h < T := by rcases hbad with h1 | h1 | h1 <;> first | exact absurd rfl h1 | exact absurd h1 a2 | exact h1
              replace a2 : h ≤ 40 := by omega
              go_wp2
              simp only [Exit.jump]
              go_ret2
              rw [HN.out]
              exact ⟨_, rfl, Nums.nil _ _ _ _, bw3⟩
          · have a2 : (gg != -1) = true := by simp [a1]
            go_wp2
            simp only [Exit.jump]
            go_ret2
            rw [HN.out]
            exact ⟨_, rfl, Nums.nil _ _ _ _, bw3⟩
        · have a1 : gg = -1 := Classical.byContradiction fun e => hbad (.inl e)
          have a2 : h ≤ 40 := by omega
          have a3 : T ≤ h := by omega
          clear hbad
          subst a1
          have IMN := put (IM.out.new WF.out hgg a2 (by rw [TK.out]; exact a3))
          rw [TK.out, PT.out, NX.out] at IMN
          have MS := put (miss_set hgg (by decide) h0)
          have hs3 := hB3.size
          have hm4 := hm3.set (by omega) t h
          have kn4 := kn.other (g' := w.heap.size + 1 + 1 + 1) (by omega) t (.int .i64 h)
          have kb4 := kb3.other (g' := w.heap.size + 1 + 1 + 1) (by omega) t (.int .i64 h)
          have bw4 := bw3.setCell (p := ⟨w.heap.size + 1 + 1 + 1, t, none⟩) (show w.heap.size ≤ w.heap.size + 1 + 1 + 1 by omega) (.int .i64 h)
          have hsz4 : w3.heap.size ≤ (w3.setCell ⟨w.heap.size + 1 + 1 + 1, t, none⟩ (.int .i64 h)).heap.size := by rw [size_set]; exact Nat.le_refl _
          have x0 := kn4.cell 0
          have x1 := kn4.cell 1
          have x2 := kb4.cell 0
          have x3 := kb4.cell 1
          simp at x0 x1 x2 x3
          have HLN := put (nxL_length op x (t : Int))
          have HPOS := put (nxL_pos (a := (t : Int)) HI.out (by omega))
          clear hm3 kb3
          go_wp2_with fail
          generalize hW4 : w3.setCell ⟨w.heap.size + 1 + 1 + 1, t, none⟩ (.int .i64 h) = W4 at hm4 kn4 kb4 bw4 hsz4 ⊢
          clear hW4 x0 x1 x2 x3 y0 y1 n0 n1' cg fg
          refine (goesOn_any op x (t : Int) W4 (by omega) (by omega)).mono ?_
          rintro e w5 ⟨vn, rfl, nu, hb5⟩
          have hm5 := hm4.below hVG hb5
          have kn5 := kn4.below hb5
          have kb5 := kb4.below hb5
          have hs5 := hb5.size
          have NB := put (fun (b : Nat) e => nu.own_lt (b := b) e)
          obtain ⟨An, cn, hvn, _⟩ := nu.reads
          subst hvn
          clear hm4 kn4 kb4 hb5 bw4
          generalize nxL op x (t : Int) = l at HLN HPOS IMN NX nu NB ⊢
          obtain ⟨ln, hln⟩ : ∃ ln, l.length = ln := ⟨_, rfl⟩
          rw [hln] at HLN nu NB ⊢
          have hl2 := HLN.out
          have hop := insB_range HI.out
          obtain ⟨jn, rfl⟩ : ∃ jn : Nat, op = (jn : Int) := ⟨op.toNat, by omega⟩
          have hjn : jn < 19 := by omega
          have hjI : (jn : Int) < 19 := by omega
          obtain ⟨H, hH⟩ : ∃ H, h - T + kP (jn : Int) = H := ⟨_, rfl⟩
          have hw1 : IntKind.i64.wrap (h - T) = h - T := IntWalk.i64_in _ ⟨by omega, by omega⟩
          have hw2 : IntKind.i64.wrap H = H := IntWalk.i64_in _ ⟨by omega, by omega⟩
          rw [hH] at IMN
          have OB0 := put (show ∀ b, (Value.slice (some ⟨gw, 0, none⟩) L cap).ownBlock = some b → b < wo.heap.size from fun b e => (OW.out b e).2)
          have HLW := put (show (ws'.map wayT).length ≤ 1000 by rw [List.length_map]; omega)
          have HLW2 := put hL
          have hk5 := kn5.lt
          clear hgg hbV1 hxt
          go_wp2
          go_loopw [7, 80] (fun v i wr => ∃ j : Nat, j ≤ ln ∧ i = .int .i64 j ∧ WMem V wr (w.heap.size + 1 + 1 + 1) n2 (hs.set t h) v (ws'.map wayT ++ (l.take j).map fun y => (y, H)) ∧ Nums wr W4.heap.size 3 .i64 (.slice An ln cn) l ∧ Keep wr (wo.heap.size + 1) #[.int .i64 (jn : Int), .int .i64 x] 72 ∧ Keep wr wo.heap.size #[.int .i64 (t : Int), .int .i64 h] 136 ∧ Hid (∀ b, v.ownBlock = some b → b < wo.heap.size ∨ w5.heap.size ≤ b) ∧ w5.heap.size ≤ wr.heap.size) (fun _ i _ => ln - (intOf i).toNat)
          case atStart => exact ⟨0, Nat.zero_le _, rfl, by simpa using hm5, nu, kn5, kb5, put (fun b e => .inl (OB0.out b e)), Nat.le_refl _⟩
          case round =>
            clear hm5 nu kn5 kb5
            obtain ⟨j, hj, rfl, hm, nu, kn, kb, OB, hsw⟩ := hrel
            by_cases hlt : j < ln
            · obtain ⟨A', c', hv', hrl⟩ := nu.reads
              rw [hln] at hv' hrl
              injection hv' with hv1 hv2 hv3
              subst hv1 hv3
              obtain ⟨bl, ol, y, rfl, hbl, ey, hy⟩ := hrl.at_ hlt
              have HMORE := put (show (l.take (j + 1)).map (fun y => (y, H)) = (l.take j).map (fun y => (y, H)) ++ [(y, H)] by rw [takeA_more hy.out]; simp)
              have hbVr : Below V.heap.size V wr := by rw [VS]; exact hm.bel
              have c2 := (HKD.out.below hbVr (by omega) jn hjn).2.2.1
              have y1 := kb.cell 1
              have n0 := kn.cell 0
              simp at y1 n0
              have hB := (Below.refl wr.heap.size wr).alloc (Nat.le_refl _) (.cells #[.int .i64 y, .int .i64 H] 136)
              have hmB := hm.below hVG hB
              have hmD : WMem V (wr.alloc (.cells #[.int .i64 y, .int .i64 H] 136)).drew (w.heap.size + 1 + 1 + 1) n2 (hs.set t h) _ _ := ⟨hmB.room, hmB.ways, hmB.bel.drew⟩
              have HLEN := put (show (ws'.map wayT ++ (l.take j).map fun y => (y, H)).length ≤ 1000000 by have := HLW.out; simp at this ⊢; omega)
              have hgw2 : w.heap.size + 1 + 1 + 1 + 1 ≤ wr.heap.size := hm.room.lt
              have NBB := put (fun (b : Nat) e => NB.out b e)
              clear hB hrl hv2 hm
              go_wp2
              go_region_law (first | (refine step_appendW rfl (.tmp 84) (.tmp 97) rfl (w.heap.size + 1 + 1 + 1 + 1) _ (ws'.map wayT ++ (l.take j).map fun y => (y, H)) (by first | rfl | go_simp) (show w.heap.size + 1 + 1 + 1 + 1 ≤ (wr.alloc (.cells #[.int .i64 y, .int .i64 H] 136)).heap.size by rw [World.size_alloc]; omega) hmD.ways wr.heap.size y H (by first | rfl | go_simp) ((Keep.new wr #[.int .i64 y, .int .i64 H] 136).cell 0) ((Keep.new wr #[.int .i64 y, .int .i64 H] 136).cell 1) HLEN.out ?_; intro v6 w6 hn6 hg6 hst6))
              all_goals (
                have hm6 := hmD.app hn6 hg6
                have hz6 : wr.heap.size + 1 ≤ w6.heap.size := by have := hg6.size; simpa using this
                have kn6 := (kn.alloc (.cells #[.int .i64 y, .int .i64 H] 136)).grown (W := (wr.alloc (.cells #[.int .i64 y, .int .i64 H] 136)).drew) hg6 (fun e => by have := OB.out _ e.symm; omega)
                have kb6 := (kb.alloc (.cells #[.int .i64 y, .int .i64 H] 136)).grown (W := (wr.alloc (.cells #[.int .i64 y, .int .i64 H] 136)).drew) hg6 (fun e => by have := OB.out _ e.symm; omega)
                have nu6 := Nums.grown (w := (wr.alloc (.cells #[.int .i64 y, .int .i64 H] 136)).drew) (nu.alloc (.cells #[.int .i64 y, .int .i64 H] 136)) hg6 (fun b e e2 => by have h1 := NBB.out b e; have h2 := OB.out b e2.symm; omega)
                go_wp2
                go_roundw
                case rel =>
                  refine ⟨j + 1, by omega, by go_num, by rw [HMORE.out, ← List.append_assoc]; exact hm6, nu6, kn6, kb6, put (fun b e => ?_), by omega⟩
                  rcases hst6 b e with h1 | h1
                  · exact OB.out b h1
                  · have : wr.heap.size + 1 ≤ b := by simpa using h1
                    omega
                case measure => simp [intOf]; omega)
            · have hfin := put (show l.take j = l from List.take_of_length_le (by omega))
              rw [hfin.out] at hm
              have hWE := put (ways_eq (ws := ws') (H := H) HPOS.out)
              rw [← hWE.out] at hm
              clear hfin
              go_wp2
              go_step3
              refine ⟨rfl, HJ.out _ _ _ ⟨hs.set t h, _, _, [_, _, _, _, _, _, _, _, _, _, _, _, _, _, _, _, _, _, _, _, _, _, _, _, _, _, _, _, _, _, _, _, _, _, _, _, _, _, _, _, _, _, _, _, _, _, _, _, _, _, _, _, _, _, _, _, _, _, _, _, _, _, _, _, _, _, _, _, _, _, _, _, _, _, _, _, _, _, _, _, _, _, _, _, _, _, _, _, _, _, _, _], rfl, IMN, hm, rfl⟩ ?_⟩
              have := MS.out
              simp [hln]
              omega

end Go.Proofs.YtpbkkjiikhjanaaDoor

/-
  The program's fault of a code: contract.
-/
namespace Go.Proofs.YtpbkkjiikhjanaaDoor
open Go.RowKit Exs Ht

set_option maxHeartbeats 4000000 in
set_option maxRecDepth 100000 in
theorem codeFault_any (A : Option Addr) (n c : Nat) (cs : List Cd) (s : Cd) (A1 : Option Addr) (n1 c1 : Nat) (A2 : Option Addr) (n2 c2 : Nat) (A3 : Option Addr) (n3 c3 : Nat) (w : World) (hr : ReadsC w w.heap.size A n cs) (hs : IsCd w w.heap.size s A1 n1 A2 n2 A3 n3) (hn : n ≤ 5) (hi : cdB s = true) (hp : ∀ c ∈ cs, cdB c = true) (hkd : Kinds w) (hpos : 0 < w.heap.size) :
    Calls Tryd.prog 56 #[.agg #[.slice A n c], cdV s A1 n1 c1 A2 n2 c2 A3 n3 c3] w fun e w' => e = .returned (.int .i64 (cdAns cs s)) ∧ Below w.heap.size w w' := by
  have hb := ((Below.refl w.heap.size w).alloc (Nat.le_refl _) (Obj.cells #[.slice A n c] 36)).alloc (by simp) (Obj.cells #[.int .i64 s.params, .int .i64 s.vars, .slice A1 n1 c1, .slice A2 n2 c2, .slice A3 n3 c3] 76)
  have j2 := (Keep.new w #[.slice A n c] 36).alloc (Obj.cells #[.int .i64 s.params, .int .i64 s.vars, .slice A1 n1 c1, .slice A2 n2 c2, .slice A3 n3 c3] 76)
  have k2 := Keep.new (w.alloc (Obj.cells #[.slice A n c] 36)) #[.int .i64 s.params, .int .i64 s.vars, .slice A1 n1 c1, .slice A2 n2 c2, .slice A3 n3 c3] 76
  rw [World.size_alloc] at k2
  have hsz := cdB_iff s |>.1 hi
  rw [hs.sites.1, hs.ins.1, hs.rows.1] at hsz
  have HSZ := put hsz
  have l1 : n1 ≤ 4 := by omega
  have l2 : n2 ≤ 300 := by omega
  have l3 : n3 ≤ 300 := by omega
  have E := put hs.ins.1
  have LR := put hs.rows.1
  clear hsz
  have C1 := put (fun W hW => namesAreThere_any A n c cs s A1 n1 c1 A2 n2 c2 A3 n3 c3 W (hr.now hW) (hs.now hW) hn hi)
  have C2 := put (fun W hW => sitesAreThere_any A n c cs s A1 n1 c1 A2 n2 c2 A3 n3 c3 W (hr.now hW) (hs.now hW) hn hi)
  have C3 := put (fun W hW => goesOnWithin_any s A1 n1 c1 A2 n2 c2 A3 n3 c3 W (hs.now hW) hi)
  have C4 := put (fun W (hW : Below w.heap.size w W) => goodRows_any A3 n3 c3 s.rows n2 W (hs.rows.now hW) l3 l2)
  have C5 := put (fun W (hW : Below w.heap.size w W) h1 h3 h4 => heightsIn_any A n c cs s A1 n1 c1 A2 n2 c2 A3 n3 c3 W (hr.now hW) (hs.now hW) hn hi hp h1 h3 h4 (hkd.below hW hpos) (by have := hW.size; omega))
  have C6 := put (fun W (hW : Below w.heap.size w W) v hs0 B hv hl hg => raisesInRows_any s A1 n1 c1 A2 n2 c2 A3 n3 c3 W (hs.now hW) hi v hs0 B hv hl hg)
  have C7 := put (fun W (hW : Below w.heap.size w W) v hs0 B hv hl => endsAtNothing_any s A1 n1 c1 A2 n2 c2 A3 n3 c3 W (hs.now hW) hi v hs0 B hv hl)
  unfold cdV at C1 C2 C3 C5 C6 C7 ⊢
  clear hi hp hs hr hkd
  go_enter Tryd.func56, Tryd.ntmps56
  go_wp2_with fail
  generalize hW : (w.alloc (Obj.cells #[.slice A n c] 36)).alloc (Obj.cells #[.int .i64 s.params, .int .i64 s.vars, .slice A1 n1 c1, .slice A2 n2 c2, .slice A3 n3 c3] 76) = W0 at hb j2 k2 ⊢
  clear hW
  cases h1 : namedB cs s
  · have HA := put (cdAns_1 h1)
    have HQ := put h1
    refine (C1.out W0 hb).mono ?_
    rintro e w1 ⟨rfl, hb1⟩
    rw [HQ.out]
    go_wp2
    go_ret
    exact ⟨ret_int HA.out.symm, hb.trans (hb1.mono hb.size)⟩
  have H1 := put h1
  clear h1
  refine (C1.out W0 hb).mono ?_
  rintro e w1 ⟨rfl, hb1⟩
  rw [H1.out]
  have b1 := hb.trans (hb1.mono hb.size)
  have k3 := k2.below hb1
  have j3 := j2.below hb1
  clear hb1 hb k2 j2
  have y0 := j3.cell 0
  have z0 := k3.cell 0
  have z1 := k3.cell 1
  have z2 := k3.cell 2
  have z3 := k3.cell 3
  have z4 := k3.cell 4
  simp at y0 z0 z1 z2 z3 z4
  cases h2 : sitesB cs s
  · have HA := put (cdAns_2 H1.out h2)
    have HQ := put h2
    clear h2
    go_wp2_with fail
    refine (C2.out _ b1).mono ?_
    rintro e v1 ⟨rfl, hb1⟩
    rw [HQ.out]
    go_wp2
    go_ret
    exact ⟨ret_int HA.out.symm, b1.trans (hb1.mono b1.size)⟩
  have H2 := put h2
  clear h2
  go_wp2_with fail
  refine (C2.out _ b1).mono ?_
  rintro e w2 ⟨rfl, hb1⟩
  rw [H2.out]
  have b2 := b1.trans (hb1.mono b1.size)
  have k4 := k3.below hb1
  have j4 := j3.below hb1
  clear hb1 y0 z0 z1 z2 z3 z4 k3 j3
  have y0 := j4.cell 0
  have z0 := k4.cell 0
  have z1 := k4.cell 1
  have z2 := k4.cell 2
  have z3 := k4.cell 3
  have z4 := k4.cell 4
  simp at y0 z0 z1 z2 z3 z4
  cases h3 : goesB s
  · have HA := put (cdAns_3 H1.out H2.out h3)
    have HQ := put h3
    clear h3
    go_wp2_with fail
    refine (C3.out _ b2).mono ?_
    rintro e v1 ⟨rfl, hb1⟩
    rw [HQ.out]
    go_wp2
    go_ret
    exact ⟨ret_int HA.out.symm, b2.trans (hb1.mono b2.size)⟩
  have H3 := put h3
  clear h3
  go_wp2_with fail
  refine (C3.out _ b2).mono ?_
  rintro e w3 ⟨rfl, hb1⟩
  rw [H3.out]
  have b3 := b2.trans (hb1.mono b2.size)
  have k5 := k4.below hb1
  have j5 := j4.below hb1
  clear hb1 y0 z0 z1 z2 z3 z4 k4 j4
  have z3 := k5.cell 3
  have z4 := k5.cell 4
  simp at z3 z4
  cases h4 : rowsF n2 0 s.rows
  · have HA := put (cdAns_4 H1.out H2.out H3.out (by rw [E.out]; exact h4))
    have HQ := put h4
    clear h4
    go_wp2_with fail
    refine (C4.out _ b3).mono ?_
    rintro e v1 ⟨rfl, hb1⟩
    rw [HQ.out]
    go_wp2
    go_ret
    exact ⟨ret_int HA.out.symm, b3.trans (hb1.mono b3.size)⟩
  have H4 := put h4
  clear h4
  go_wp2_with fail
  refine (C4.out _ b3).mono ?_
  rintro e w4 ⟨rfl, hb1⟩
  rw [H4.out]
  have b4 := b3.trans (hb1.mono b3.size)
  have k6 := k5.below hb1
  have j6 := j5.below hb1
  clear hb1 z3 z4 k5 j5
  have y0 := j6.cell 0
  have z0 := k6.cell 0
  have z1 := k6.cell 1
  have z2 := k6.cell 2
  have z3 := k6.cell 3
  have z4 := k6.cell 4
  simp at y0 z0 z1 z2 z3 z4
  have ON := put (cdAns_on H1.out H2.out H3.out (by rw [E.out]; exact H4.out))
  have IS := put (fun hs0 (h : hts (gr cs s) = some hs0) => hts_is h)
  have GN := put (show (gr cs s).n = n2 from E.out)
  go_wp2_with fail
  refine (C5.out _ b4 H1.out H3.out (by rw [E.out]; exact H4.out)).mono ?_
  cases hh : hts (gr cs s) with
  | none =>
    have HA := put (ON.out.1 hh)
    clear hh
    rintro e w5 ⟨v, rfl, nu, hb1⟩
    simp only [htAns]
    go_wp2
    go_ret
    exact ⟨ret_int HA.out.symm, b4.trans (hb1.mono b4.size)⟩
  | some hs0 =>
    have HON := put (ON.out.2 hs0 hh)
    have HIS := put (IS.out hs0 hh)
    clear hh
    rintro e w5 ⟨v, rfl, nu, hb1⟩
    simp only [htAns] at nu ⊢
    have b5 := b4.trans (hb1.mono b4.size)
    have k7 := k6.below hb1
    have HLEN := put (show hs0.length = n2 by rw [HIS.out.len, GN.out])
    have HGE := put (show ∀ (a : Nat) (g : Int), hs0[a]? = some g → g = -1 ∨ 0 ≤ g from fun a g h => by
      rcases HIS.out.at_ a g h with h | h
      · exact .inr h.1
      · exact .inl h.1)
    clear hb1 y0 z0 z1 z2 z3 z4 k6 j6
    have z0 := k7.cell 0
    have z1 := k7.cell 1
    have z2 := k7.cell 2
    have z3 := k7.cell 3
    have z4 := k7.cell 4
    simp at z0 z1 z2 z3 z4
    obtain ⟨An, cn, hvn, _⟩ := nu.reads
    subst hvn
    go_wp2_with fail
    refine (C6.out _ b5 _ hs0 _ nu HLEN.out HGE.out).mono ?_
    rintro e w6 ⟨⟨q, rfl, HQ⟩, hb1⟩
    have HQ := put HQ
    have b6 := b5.trans (hb1.mono b5.size)
    have k8 := k7.below hb1
    have nu6 := nu.belowNew hb1
    clear z0 z1 z2 z3 z4 hb1 k7 nu
    cases q with
    | false =>
      have HA := put (HON.out.1 (fun h => by have := HQ.out.2 h; cases this))
      go_wp2
      go_ret
      exact ⟨ret_int HA.out.symm, b6⟩
    | true =>
      have HR := put (HQ.out.1 rfl)
      have z0 := k8.cell 0
      have z1 := k8.cell 1
      have z2 := k8.cell 2
      have z3 := k8.cell 3
      have z4 := k8.cell 4
      simp at z0 z1 z2 z3 z4
      go_wp2_with fail
      refine (C7.out _ b6 _ hs0 _ nu6 HLEN.out).mono ?_
      rintro e w7 ⟨⟨q, rfl, HE⟩, hb1⟩
      have HE := put HE
      cases q with
      | false =>
        have HA := put (HON.out.2.1 HR.out (fun h => by have := HE.out.2 h; cases this))
        go_wp2
        go_ret
        exact ⟨ret_int HA.out.symm, b6.trans (hb1.mono b6.size)⟩
      | true =>
        have HA := put (HON.out.2.2 HR.out (HE.out.1 rfl))
        go_wp2
        go_ret
        exact ⟨ret_int HA.out.symm, b6.trans (hb1.mono b6.size)⟩

end Go.Proofs.YtpbkkjiikhjanaaDoor

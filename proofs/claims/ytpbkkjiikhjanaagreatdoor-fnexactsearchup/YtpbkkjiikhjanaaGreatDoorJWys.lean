/-
  Texts joined: Wys SMul Rep Wi.
-/
import Derived.Test.YtpbkkjiikhjanaaGreatDoorJHtS
import Derived.Shelf.Bits.Mul64
import Derived.Test.YtpbkkjiikhjanaaGreatDoorProg
import Derived.Test.YtpbkkjiikhjanaaGreatDoorJAppN
import Derived.Lib.SlBuf
import Derived.Deep.RegionLaw
/-
  Ways in a row of the call's own; the ways into a code.
-/
namespace Go.Proofs.YtpbkkjiikhjanaaGreatDoor
open Go.RowKit Exs Ht

/-- Ways (a place, a height) in a row of the call's own. -/
def Ways (w : World) (B : Nat) (v : Value) (ts : List Token) : Prop := w.ownsRow B 171 2 v ts.length ((flat ts).map (Value.int .i64))
section
variable {w w' : World} {B : Nat} {v : Value} {ts : List Token}
theorem Ways.alloc (h : Ways w B v ts) (o : Obj) : Ways (w.alloc o) B v ts := World.ownsRow.alloc h o
theorem Ways.keep (h : Ways w B v ts) (hb : ∀ b, v.ownBlock = some b → w'.heap[b]? = w.heap[b]?) : Ways w' B v ts := by
  obtain ⟨h1, h2⟩ := h
  refine ⟨h1, ?_⟩
  rcases h2 with h2 | ⟨g', cap, cur, rfl, hg', hh, r⟩
  · exact Or.inl h2
  · exact Or.inr ⟨g', cap, cur, rfl, hg', (hb g' (by simp [Value.ownBlock])).trans hh, r⟩
theorem Ways.own_lt (h : Ways w B v ts) {b : Nat} (hb : v.ownBlock = some b) : B ≤ b ∧ b < w.heap.size := World.ownsRow.lt h b hb
theorem Ways.below (h : Ways w B v ts) (hb : Below w.heap.size w w') : Ways w' B v ts := h.keep fun b e => hb.block b (h.own_lt e).2
theorem Ways.other (h : Ways w B v ts) {g i : Nat} {u : Value} (hg : g < B) : Ways (w.setCell ⟨g, i, none⟩ u) B v ts := h.keep fun b e => Below.heap_setCell _ _ _ _ (by have := h.own_lt e; show b ≠ g; omega)
theorem Ways.more {B' : Nat} (h : Ways w B v ts) (hB : B' ≤ B) : Ways w B' v ts := by
  obtain ⟨h1, h2⟩ := h
  refine ⟨h1, ?_⟩
  rcases h2 with h2 | ⟨g', cap, cur, rfl, hg', hh, r⟩
  · exact Or.inl h2
  · exact Or.inr ⟨g', cap, cur, rfl, by omega, hh, r⟩
/-- A row of ways that is not empty. -/
theorem Ways.form (h : Ways w B v ts) (hn : 0 < ts.length) : ∃ g cap, v = .slice (some ⟨g, 0, none⟩) ts.length cap ∧ B ≤ g ∧ g < w.heap.size ∧ ts.length ≤ cap ∧ cap ≤ maxLen ∧ ∀ (j : Nat) (t : Token), ts[j]? = some t → w.cell? ⟨g, j * 2, none⟩ = some (.int .i64 t.1) ∧ w.cell? ⟨g, j * 2 + 1, none⟩ = some (.int .i64 t.2) := by
  rcases h.2 with ⟨_, h0⟩ | ⟨g, cap, cur, rfl, hB, hg, hc, hm, hs, ht⟩
  · omega
  · refine ⟨g, cap, rfl, hB, (Array.getElem?_eq_some_iff.1 hg).1, hc, hm, fun j t hj => ?_⟩
    have hl := (List.getElem?_eq_some_iff.1 hj).1
    have hf := flat_at hj
    have e : ∀ i : Nat, i < ts.length * 2 → w.cell? ⟨g, i, none⟩ = ((flat ts).map (Value.int .i64))[i]? := fun i hi => by
      rw [cell_of_row w g i cur 171 (0, 0) hg, ← ht, ← Array.getElem?_toList, List.getElem?_take, if_pos (by simpa using hi)]
    rw [e _ (by omega), e _ (by omega), List.getElem?_map, List.getElem?_map, Nat.mul_comm j 2, hf.1, hf.2]
    exact ⟨rfl, rfl⟩
end
theorem flat_take (ts : List Token) (m : Nat) : flat (ts.take m) = (flat ts).take (2 * m) := by
  induction m generalizing ts with
  | zero => simp [flat]
  | succ m ih =>
    cases ts with
    | nil => simp [flat]
    | cons a r =>
      rw [List.take_succ_cons, show 2 * (m + 1) = 2 * m + 1 + 1 by omega]
      have := ih r
      simp only [flat, List.flatMap_cons] at *
      simp [this]
theorem Ways.cut {w : World} {B g cap : Nat} {ts : List Token} (h : Ways w B (.slice (some ⟨g, 0, none⟩) ts.length cap) ts) (m : Nat) (hm : m ≤ ts.length) : Ways w B (.slice (some ⟨g, 0, none⟩) m cap) (ts.take m) := by
  have hl : (ts.take m).length = m := by rw [List.length_take]; omega
  rcases h.2 with ⟨h0, _⟩ | ⟨g', cap', cur, hv, hB, hg, hc, hmx, hs, ht⟩
  · cases h0
  · injection hv with h1 _ h2
    injection h1 with h1
    injection h1 with h1
    subst h1; subst h2
    refine ⟨by rw [List.length_map, flat_length]; omega, .inr ⟨g, cap, cur, by rw [hl], hB, hg, by omega, hmx, hs, ?_⟩⟩
    rw [hl, flat_take, List.map_take, ← ht, List.take_take, Nat.mul_comm 2 m, Nat.min_eq_left (by omega)]

theorem Tryz.info171 : (Tryz.prog.info? 171).map (fun i => (i.zero, i.size, i.bytes)) = some (some (.agg #[.int .i64 0, .int .i64 0]), 2, 16) := by kernel_rfl

theorem run_appendW (w : World) (B : Nat) (v : Value) (ts : List Token) (h : Ways w B v ts) (hB : B ≤ w.heap.size) (g : Nat) (p y : Int) (hc : w.cell? ⟨g, 0, none⟩ = some (.int .i64 p)) (hc1 : w.cell? ⟨g, 1, none⟩ = some (.int .i64 y)) (hlen : ts.length ≤ 1000000) (ty : TypeId) :
    ∃ v' w', (Builtin.append_ #[168, 168] ty #[v, .slice (some ⟨g, 0, none⟩) 1 1]).run Tryz.prog w = .ok v' w' ∧ Ways w' B v' (ts ++ [(p, y)]) ∧ w.grownBy w' v.ownBlock ∧ Stays w v v' := by
  obtain ⟨i0, hi, hz0, hz1, hz2⟩ := info_parts Tryz.info171
  have hnews : ∀ j u, [Value.int .i64 p, Value.int .i64 y][j]? = some u → w.cell? ((⟨g, 0, none⟩ : Addr).add j) = some u := by
    intro j u hj
    match j, hj with
    | 0, hj => simp at hj; subst hj; simpa [Addr.add] using hc
    | 1, hj => simp at hj; subst hj; simpa [Addr.add] using hc1
  have h1 : ∀ u ∈ [Value.int .i64 p, Value.int .i64 y], u.oneCell' = true := by intro u hu; simp at hu; rcases hu with rfl | rfl <;> rfl
  obtain ⟨v', w', hr, hown, hgr, _⟩ := run_append_own (P := Tryz.prog) w B 168 ty 171 i0 (.agg #[.int .i64 0, .int .i64 0]) 2 16 Tryz.underlying168 hi hz0 hz1 hz2 rfl (by decide) v ts.length _ h ⟨g, 0, none⟩ 1 1 [.int .i64 p, .int .i64 y] rfl hnews h1 (by unfold maxLen; omega) (by omega) hB
  refine ⟨v', w', hr, by unfold Ways; rw [flat_snoc]; simpa using hown, hgr, ?_⟩
  rcases h.2 with ⟨rfl, h0⟩ | ⟨g', cap, cur, rfl, hBg, hg, hnc, hcm, hcs, htk⟩
  · obtain rfl : ts = [] := List.eq_nil_of_length_eq_zero h0
    obtain ⟨v2, w2, hr2, hown2, _, _⟩ := run_append_own (P := Tryz.prog) w w.heap.size 168 ty 171 i0 (.agg #[.int .i64 0, .int .i64 0]) 2 16 Tryz.underlying168 hi hz0 hz1 hz2 rfl (by decide) (.slice none 0 0) 0 [] (World.ownsRow_nil _ _ _ _) ⟨g, 0, none⟩ 1 1 [.int .i64 p, .int .i64 y] rfl hnews h1 (by unfold maxLen; omega) (by omega) (Nat.le_refl _)
    rw [hr2] at hr
    injection hr with e1 e2
    subst e1; subst e2
    exact fun k hk => .inr (World.ownsRow.lt hown2 k hk).1
  · by_cases hroom : ts.length + 1 ≤ cap
    · have hr2 := run_append_room (P := Tryz.prog) w 168 ty 171 i0 Tryz.underlying168 hi g' ts.length cap cur hg ⟨g, 0, none⟩ 1 1 [.int .i64 p, .int .i64 y] (by rw [hz1]; rfl) hnews h1 hroom (by rw [hz1]; simp; omega)
      rw [hr2] at hr
      injection hr with e1 e2
      subst e1
      exact fun k hk => .inl (by simpa [Value.ownBlock] using hk)
    · obtain ⟨v2, w2, hr2, hown2, _⟩ := run_append_arg_grows (P := Tryz.prog) w 168 ty 171 i0 (.agg #[.int .i64 0, .int .i64 0]) 2 16 Tryz.underlying168 hi hz0 hz1 hz2 rfl (by decide) ⟨g', 0, none⟩ ts.length cap ((flat ts).map (Value.int .i64)) (by rw [List.length_map, flat_length]; omega) (World.ownsRow.cells (g := g') h rfl) ⟨g, 0, none⟩ 1 1 [.int .i64 p, .int .i64 y] rfl hnews (by omega) (by unfold maxLen; omega) (by omega)
      rw [hr2] at hr
      injection hr with e1 e2
      subst e1; subst e2
      exact fun k hk => .inr (World.ownsRow.lt hown2 k hk).1

section
variable {w : World} {ops : Array Oper} {rest : List Oper} {o : Oper} {a : Act} {K : Act → World → Prop} {Q : Exit → Act → World → Prop} {E : Prop}
theorem wp_appendW (s x : Operand) (ho : o.op = .call { callee := .builtin .append, args := #[s, x], argTypes := #[168, 168] }) (B : Nat) (v : Value) (ts : List Token) (hs : a.eval s = v) (hB : B ≤ w.heap.size) (hown : Ways w B v ts)
    (g : Nat) (p y : Int) (hx : a.eval x = .slice (some ⟨g, 0, none⟩) 1 1) (hc : w.cell? ⟨g, 0, none⟩ = some (.int .i64 p)) (hc1 : w.cell? ⟨g, 1, none⟩ = some (.int .i64 y)) (hlen : ts.length ≤ 1000000)
    (h : ∀ v' w', Ways w' B v' (ts ++ [(p, y)]) → w.grownBy w' v.ownBlock → Stays w v v' → K (a.put o.dst v') w') : o.wp Tryz.prog a w K Q := by
  obtain ⟨v', w', hr, h2, h3, h4⟩ := run_appendW w B v ts hown hB g p y hc hc1 hlen o.type
  unfold Oper.wp execOp
  simp only [ho, resolve, invoke, builtin, Sem.run_bind, Sem.run_pure, Result.andThen_ok, List.map_toArray, List.map_cons, List.map_nil, hs, hx, hr]
  exact h v' w' h2 h3 h4
theorem wpList_appendW (hgd : o.guard = none) (s x : Operand) (ho : o.op = .call { callee := .builtin .append, args := #[s, x], argTypes := #[168, 168] }) (B : Nat) (v : Value) (ts : List Token) (hs : a.eval s = v) (hB : B ≤ w.heap.size) (hown : Ways w B v ts)
    (g : Nat) (p y : Int) (hx : a.eval x = .slice (some ⟨g, 0, none⟩) 1 1) (hc : w.cell? ⟨g, 0, none⟩ = some (.int .i64 p)) (hc1 : w.cell? ⟨g, 1, none⟩ = some (.int .i64 y)) (hlen : ts.length ≤ 1000000)
    (h : ∀ v' w', Ways w' B v' (ts ++ [(p, y)]) → w.grownBy w' v.ownBlock → Stays w v v' → wpList Tryz.prog ops Q rest (a.put o.dst v') w') : wpList Tryz.prog ops Q (o :: rest) a w :=
  wpList_plain hgd fun _ hK => wp_appendW s x ho B v ts hs hB hown g p y hx hc hc1 hlen fun v' w' h1 h2 h3 => hK _ _ (h v' w' h1 h2 h3)
theorem step_appendW (hgd : o.guard = none) (s x : Operand) (ho : o.op = .call { callee := .builtin .append, args := #[s, x], argTypes := #[168, 168] }) (B : Nat) (v : Value) (ts : List Token) (hs : a.eval s = v) (hB : B ≤ w.heap.size) (hown : Ways w B v ts)
    (g : Nat) (p y : Int) (hx : a.eval x = .slice (some ⟨g, 0, none⟩) 1 1) (hc : w.cell? ⟨g, 0, none⟩ = some (.int .i64 p)) (hc1 : w.cell? ⟨g, 1, none⟩ = some (.int .i64 y)) (hlen : ts.length ≤ 1000000)
    (h : ∀ v' w', Ways w' B v' (ts ++ [(p, y)]) → w.grownBy w' v.ownBlock → Stays w v v' → K (a.put o.dst v') w') : if Region.wanted o (yielded ops a.tmps) = true then Oper.wp Tryz.prog o a w K Q else E := by
  have hw : Region.wanted o (yielded ops a.tmps) = true := by simp [Region.wanted, hgd]
  rw [if_pos hw]
  exact wp_appendW s x ho B v ts hs hB hown g p y hx hc hc1 hlen h
end

/-- The ways into a code: its beginning and its pads. -/
def wayT (q : Nat × Int) : Token := ((q.1 : Int), q.2)
theorem Ways.one {w : World} (x y : Int) : Ways (w.alloc (.cells #[.int .i64 x, .int .i64 y] 171)) w.heap.size (.slice (some ⟨w.heap.size, 0, none⟩) 1 1) [(x, y)] :=
  ⟨rfl, .inr ⟨w.heap.size, 1, #[.int .i64 x, .int .i64 y], rfl, Nat.le_refl _, heap_alloc_new _ _, Nat.le_refl _, by unfold maxLen; omega, rfl, rfl⟩⟩

end Go.Proofs.YtpbkkjiikhjanaaGreatDoor

/-
  The library's contract on bits.Mul, laid at this program.
-/
namespace Go.Proofs
open Go.Shelf
def Tryz.lays212_ren : Go.Shelf.Ren := ⟨fun | 212 => 136 | 263 => 137 | 264 => 138 | n => n, fun | 46 => 172 | 51 => 175 | 146 => 176 | 53 => 178 | 148 => 179 | n => n, fun | n => n⟩
theorem Tryz.lays212 : Go.Proofs.Lays.n212 Tryz.prog Tryz.lays212_ren := {
  mixed := by kernel_rfl
  f212 := Tryz.func136.trans (congrArg some (by kernel_rfl))
  f263 := Tryz.func137.trans (congrArg some (by kernel_rfl))
  f264 := Tryz.func138.trans (congrArg some (by kernel_rfl))
  t46 := Tryz.underlying172
  a46 := Tryz.isAgg172
  z46 := Tryz.sizeOf172
  v46 := Tryz.zeroValue172
  t51 := Tryz.underlying175
  a51 := Tryz.isAgg175
  z51 := Tryz.sizeOf175
  v51 := Tryz.zeroValue175
  t53 := Tryz.underlying178
  a53 := Tryz.isAgg178
  z53 := Tryz.sizeOf178
  v53 := Tryz.zeroValue178
  t146 := Tryz.underlying176
  a146 := Tryz.isAgg176
  z146 := Tryz.sizeOf176
  v146 := Tryz.zeroValue176
  t148 := Tryz.underlying179
  a148 := Tryz.isAgg179
  z148 := Tryz.sizeOf179
  v148 := Tryz.zeroValue179 }
open Go.RowKit Go.Lib in
theorem Tryz.bits_Mul (x y : Nat) (hx : x < 18446744073709551616) (hy : y < 18446744073709551616) (w : World) :
    Calls Tryz.prog 136 #[.int .u64 x, .int .u64 y] w fun e w' => e = .returned (.tuple #[.int .u64 ((x * y / 18446744073709551616 : Nat) : Int), .int .u64 ((x * y % 18446744073709551616 : Nat) : Int)]) ∧ w' = w := Any.bits_Mul Tryz.lays212 x y hx hy w
end Go.Proofs

/-
  slices.Repeat of one number: contract.
-/
namespace Go.Proofs.YtpbkkjiikhjanaaGreatDoor
open Go.RowKit Exs

theorem Room.pushes {g : Nat} {t : TypeId} {c : Nat} {k : IntKind} {x : Int} : ∀ (q m : Nat) {w : World}, Room w g t c k (List.replicate m x) → m + q ≤ c → Room (w.setCells g m ((List.replicate q x).map (Value.int k))) g t c k (List.replicate (m + q) x)
  | 0, m, w, h, _ => by simpa [World.setCells] using h
  | q + 1, m, w, h, hc => by
    have h1 := h.push (by simp; omega) x
    rw [List.length_replicate, ← List.replicate_succ'] at h1
    have h2 := Room.pushes q (m + 1) h1 (by omega)
    rw [List.replicate_succ, List.map_cons, World.setCells, show m + (q + 1) = m + 1 + q by omega]
    exact h2
theorem Below.setCells {g B : Nat} {a : World} (hg : B ≤ g) : ∀ (vs : List Value) (o : Nat) {w : World}, Below B a w → Below B a (w.setCells g o vs)
  | [], _, _, h => h
  | v :: r, o, _, h => Below.setCells hg r (o + 1) (h.setCell hg v)

/-- A row is copied on behind itself. -/
theorem copy_rep {P : Program} (w : World) (g n m : Nat) (x : Int) (ty t : TypeId) (ht : P.underlying t = some (.slice 3)) (hi : (P.info? 3).map (·.size) = some 1) (h : Room w g 3 n .i64 (List.replicate m x)) (hmn : m < n) (b off sc dc : Nat) (src : ∀ j, j < Nat.min m (n - m) → w.cell? ⟨b, off + j, none⟩ = some (.int .i64 x)) :
    ∃ w', (Builtin.copy_ #[t, t] ty #[.slice (some ⟨g, m, none⟩) (n - m) dc, .slice (some ⟨b, off, none⟩) m sc]).run P w = .ok (.int .i64 (Nat.min m (n - m) : Nat)) w' ∧ Room w' g 3 n .i64 (List.replicate (m + Nat.min m (n - m)) x) ∧ Below g w w' := by
  have hle : Nat.min m (n - m) ≤ n - m := Nat.min_le_right _ _
  have hrun := run_copy_cells (P := P) w t t ty 3 g m (n - m) dc ⟨b, off, none⟩ m sc ((List.replicate (Nat.min m (n - m)) x).map (Value.int .i64)) ht hi (by simp)
    (fun j v hj => by
      rw [List.getElem?_map] at hj
      obtain ⟨y, hy, rfl⟩ := Option.map_eq_some_iff.1 hj
      rw [List.getElem?_replicate] at hy
      split at hy
      · injection hy with hy
        subst hy
        have := src j (by assumption)
        by_cases hj0 : j = 0
        · subst hj0; simpa [Addr.add] using this
        · simpa [Addr.add, hj0] using this
      · cases hy)
    (fun j hj => by simp at hj; obtain ⟨v, hv⟩ := h.at_ (m + j) (by omega); rw [hv]; rfl)
    (fun j _ => h.frozen _)
    (fun v hv => by simp at hv; obtain ⟨_, rfl⟩ := hv; rfl)
  exact ⟨_, by rw [hrun]; simp [goInt], h.pushes _ _ (by omega), Below.setCells (Nat.le_refl _) _ _ (Below.refl _ _)⟩

section
variable {w : World} {ops : Array Oper} {o : Oper} {a : Act} {K : Act → World → Prop} {Q : Exit → Act → World → Prop} {E : Prop}
theorem step_copy {P : Program} (hgd : o.guard = none) (d s : Operand) (t t' : TypeId) (ho : o.op = .call { callee := .builtin .copy, args := #[d, s], argTypes := #[t, t'] }) (v u : Value) (hd : a.eval d = v) (hs : a.eval s = u) {v' : Value} {w' : World}
    (hr : (Builtin.copy_ #[t, t'] o.type #[v, u]).run P w = .ok v' w') (h : K (a.put o.dst v') w') : if Region.wanted o (yielded ops a.tmps) = true then Oper.wp P o a w K Q else E := by
  have hw : Region.wanted o (yielded ops a.tmps) = true := by simp [Region.wanted, hgd]
  rw [if_pos hw]
  exact Lib.wp_copy_run w d s t t' ho v u hd hs hr h
end

theorem Tryz.size3 : (Tryz.prog.info? 3).map (·.size) = some 1 := by kernel_rfl

set_option maxHeartbeats 600000 in
set_option maxRecDepth 100000 in
theorem repeat_any (x : Int) (n : Nat) (g : Nat) (w : World) (hk : Keep w g #[.int .i64 x] 3) (hn : 1 ≤ n) (hm : n ≤ 300) :
    Calls Tryz.prog 130 #[.slice (some ⟨g, 0, none⟩) 1 1, .int .i64 n] w fun e w' => e = .returned (.slice (some ⟨w.heap.size, 0, none⟩) n n) ∧ Room w' w.heap.size 3 n .i64 (List.replicate n x) ∧ Below w.heap.size w w' := by
  have hmk := fun W => run_make_row' (P := Tryz.prog) 26 3 (.int .i64 0) 8 Tryz.underlying26 Tryz.info3 rfl .i64 .i64 n (by omega) (by omega) W
  have hmul := Tryz.bits_Mul 1 n (by omega) (by omega) w
  have e1 : 1 * n / 18446744073709551616 = 0 := Nat.div_eq_of_lt (by omega)
  have e2 : 1 * n % 18446744073709551616 = n := by rw [Nat.one_mul]; exact Nat.mod_eq_of_lt (by omega)
  rw [e1, e2] at hmul
  clear e1 e2
  have hb := (Below.refl w.heap.size w).alloc (Nat.le_refl _) (.cells (madeCells #[.int .i64 0] n) 3)
  have hr0 := Room.made w 3 n .i64
  have c0 := ((hk.below hb).cell 0)
  simp at c0
  go_enter Tryz.func130, Tryz.ntmps130
  go_wp2_with fail
  refine hmul.mono ?_
  rintro e w1 ⟨rfl, rfl⟩
  clear hmul
  have hn1 : (1 : Nat) < n ∨ n = 1 := by omega
  obtain ⟨w2, hrun, hroom2, hbel2⟩ : ∃ w', (Builtin.copy_ #[26, 26] 3 #[.slice (some ⟨w1.heap.size, 0, none⟩) n n, .slice (some ⟨g, 0, none⟩) 1 1]).run Tryz.prog (w1.alloc (.cells (madeCells #[.int .i64 0] n) 3)) = .ok (.int .i64 1) w' ∧ Room w' w1.heap.size 3 n .i64 (List.replicate 1 x) ∧ Below w1.heap.size (w1.alloc (.cells (madeCells #[.int .i64 0] n) 3)) w' := by
    have hmin : Nat.min 1 n = 1 := by simp only [Nat.min_def]; split <;> omega
    have hrun := run_copy_cells (P := Tryz.prog) (w1.alloc (.cells (madeCells #[.int .i64 0] n) 3)) 26 26 3 3 w1.heap.size 0 n n ⟨g, 0, none⟩ 1 1 [.int .i64 x] Tryz.underlying26 Tryz.size3 (by rw [hmin]; rfl)
      (fun j v hj => by
        match j, hj with
        | 0, hj => simp at hj; subst hj; simpa [Addr.add] using c0)
      (fun j hj => by simp at hj; subst hj; obtain ⟨v, hv⟩ := hr0.at_ 0 (by omega); rw [hv]; rfl)
      (fun j _ => hr0.frozen _)
      (fun v hv => by simp at hv; subst hv; rfl)
    refine ⟨_, hrun, ?_, Below.setCells (Nat.le_refl _) _ _ (Below.refl _ _)⟩
    have := hr0.pushes 1 0 (x := x) (by omega)
    simpa using this
  have hB2 : Below w1.heap.size w1 w2 := hb.trans hbel2
  clear hn1 hbel2
  go_wp2_with (at_builtin; refine Lib.wpList_copy_run _ rfl _ _ 26 26 rfl _ _ rfl rfl hrun ?_)
  clear hrun c0 hr0 hb hmk
  go_loopw [8] (fun i wr => ∃ m : Nat, 1 ≤ m ∧ m ≤ n ∧ i = .int .i64 m ∧ Room wr w1.heap.size 3 n .i64 (List.replicate m x) ∧ Below w1.heap.size w1 wr) (fun i _ => n - (intOf i).toNat)
  case atStart => exact ⟨1, Nat.le_refl _, hn, rfl, hroom2, hB2⟩
  case round =>
    clear hroom2 hB2
    obtain ⟨m, hm1, hmn, rfl, hroom, hbel⟩ := hrel
    by_cases hlt : m < n
    · obtain ⟨q, hq⟩ : ∃ q, Nat.min m (n - m) = q := ⟨_, rfl⟩
      have hq1 : 1 ≤ q ∧ q ≤ m ∧ q ≤ n - m := by rw [← hq]; simp only [Nat.min_def]; split <;> omega
      have hcopy := copy_rep (P := Tryz.prog) wr.drew w1.heap.size n m x 3 26 Tryz.underlying26 Tryz.size3 hroom hlt w1.heap.size 0 n (n - m) (fun j hj => by
        have hjm : j < m := by rw [hq] at hj; omega
        rw [Nat.zero_add]
        have := hroom.at (j := j) (x := x) (by rw [List.getElem?_replicate, if_pos hjm])
        exact this)
      rw [hq] at hcopy
      obtain ⟨w3, hrun, hr3, hb3⟩ := hcopy
      have hw : IntKind.i64.wrap ((m : Int) + (q : Int)) = (m : Int) + (q : Int) := IntWalk.i64_in _ ⟨by omega, by omega⟩
      have hmI : (m : Int) ≤ (n : Int) := by omega
      have hrun2 : (Builtin.copy_ #[26, 26] 3 #[.slice (if n = m then some ⟨w1.heap.size, 0, none⟩ else some ⟨w1.heap.size, m, none⟩) (n - m) (n - m), .slice (some ⟨w1.heap.size, 0, none⟩) m n]).run Tryz.prog wr.drew = .ok (.int .i64 (q : Int)) w3 := by rw [if_neg (by omega)]; exact hrun
      go_wp2
      go_region_law (first | (refine step_copy rfl (.tmp 41) (.tmp 44) 26 26 rfl (.slice (if n = m then some ⟨w1.heap.size, 0, none⟩ else some ⟨w1.heap.size, m, none⟩) (n - m) (n - m)) (.slice (some ⟨w1.heap.size, 0, none⟩) m n) (by go_simp) (by go_simp) hrun2 ?_))
      all_goals (
        go_wp2
        go_roundw
        case rel => exact ⟨m + q, by omega, by omega, by simp, hr3, (hbel.drew.trans hb3)⟩
        case measure => simp [intOf]; omega)
    · obtain rfl : m = n := by omega
      go_wp2
      go_ret
      exact ⟨rfl, hroom, hbel⟩

end Go.Proofs.YtpbkkjiikhjanaaGreatDoor

/-
  The ways into a code: contract.
-/
namespace Go.Proofs.YtpbkkjiikhjanaaGreatDoor
open Go.RowKit Exs Ht

def padT (rs : List Row3) : List Token := rs.map fun r => (r.2.2, 0)
theorem padT_more {rs : List Row3} {k : Nat} {x y z : Int} (h : rs[k]? = some (x, y, z)) : padT (rs.take (k + 1)) = padT (rs.take k) ++ [(z, 0)] := by rw [takeA_more h]; simp [padT]
theorem padT_length (rs : List Row3) : (padT rs).length = rs.length := by simp [padT]

set_option maxHeartbeats 1000000 in
set_option maxRecDepth 100000 in
theorem waysInto_any (s : Cd) (A1 : Option Addr) (n1 c1 : Nat) (A2 : Option Addr) (n2 c2 : Nat) (A3 : Option Addr) (n3 c3 : Nat) (w : World) (hs0 : IsCd w w.heap.size s A1 n1 A2 n2 A3 n3) (hi : cdB s = true) :
    Calls Tryz.prog 131 #[cdV s A1 n1 c1 A2 n2 c2 A3 n3 c3] w fun e w' => ∃ v, e = .returned v ∧ Ways w' w.heap.size v ((0, 0) :: padT s.rows) ∧ Below w.heap.size w w' := by
  have hs := hs0
  have hrows := hs.rows
  have hb := (Below.refl w.heap.size w).alloc (Nat.le_refl _) (Obj.cells #[.int .i64 s.params, .int .i64 s.vars, .slice A1 n1 c1, .slice A2 n2 c2, .slice A3 n3 c3] 82)
  have k2 := Keep.new w #[.int .i64 s.params, .int .i64 s.vars, .slice A1 n1 c1, .slice A2 n2 c2, .slice A3 n3 c3] 82
  have hsz := cdB_iff s |>.1 hi
  rw [hs.sites.1, hs.ins.1, hs.rows.1] at hsz
  have HSZ := put hsz
  have l2 : n2 ≤ 300 := by omega
  have E := put hs.ins.1
  have hins := hs.ins
  clear hsz hi hs
  unfold cdV
  have l3 : n3 ≤ 300 := by have := HSZ.out; omega
  have hb1 := hb.alloc hb.size (.cells #[.int .i64 0, .int .i64 0] 171)
  have hw0 := (Ways.one (w := w.alloc (Obj.cells #[.int .i64 s.params, .int .i64 s.vars, .slice A1 n1 c1, .slice A2 n2 c2, .slice A3 n3 c3] 82)) 0 0).more hb.size
  rw [World.size_alloc] at hw0
  clear HSZ E hins k2 hs0
  go_enter Tryz.func131, Tryz.ntmps131
  go_wp2
  generalize hW : (w.alloc (Obj.cells #[.int .i64 s.params, .int .i64 s.vars, .slice A1 n1 c1, .slice A2 n2 c2, .slice A3 n3 c3] 82)).alloc (.cells #[.int .i64 0, .int .i64 0] 171) = W0 at hb1 hw0 ⊢
  clear hW hb
  go_loopw [3, 11] (fun v i wr => ∃ k : Nat, k ≤ n3 ∧ i = .int .i64 k ∧ Ways wr w.heap.size v ((0, 0) :: padT (s.rows.take k)) ∧ Below w.heap.size w wr) (fun _ i _ => n3 - (intOf i).toNat)
  case atStart => exact ⟨0, Nat.zero_le _, rfl, by simpa [padT] using hw0, hb1⟩
  case round =>
    clear hw0 hb1
    obtain ⟨k, hk, rfl, hown, hbel⟩ := hrel
    by_cases hlt : k < n3
    · obtain ⟨b, off, x, y, z, rfl, hb', g1, g2, g3, hx⟩ := (hrows.below hbel).at_ hlt
      have hB := (Below.refl wr.heap.size wr).alloc (Nat.le_refl _) (.cells #[.int .i64 x, .int .i64 y, .int .i64 z] 85)
      have HM := put (padT_more hx.out)
      have HL := put (show ((0, 0) :: padT (s.rows.take k)).length ≤ 1000000 by rw [List.length_cons, padT_length, List.length_take]; omega)
      have hs1 := hbel.size
      have h2 := (hown.alloc (.cells #[.int .i64 x, .int .i64 y, .int .i64 z] 85)).alloc (.cells #[.int .i64 z, .int .i64 0] 171)
      have hbel2 := (hbel.alloc hbel.size (.cells #[.int .i64 x, .int .i64 y, .int .i64 z] 85)).alloc (by simp; omega) (.cells #[.int .i64 z, .int .i64 0] 171)
      have OWN := put (fun (b : Nat) e => hown.own_lt (b := b) e)
      generalize padT (s.rows.take k) = l at hown HM HL h2
      clear hB
      go_wp2_with (at_builtin; refine wpList_appendW rfl _ _ rfl w.heap.size _ ((0, 0) :: l) rfl (by simp; omega) h2 (wr.heap.size + 1) z 0 rfl (by simp) (by simp) HL.out ?_; intro v' w1 hn1 hg1 hst1)
      go_roundw
      case rel => exact ⟨k + 1, by omega, by go_num, by rw [HM.out]; exact hn1, hbel2.grown hg1 (by simp; omega) (fun b e => (OWN.out b e).1)⟩
      case measure => simp [intOf]; omega
    · have hfin := put (show s.rows.take k = s.rows from List.take_of_length_le (by rw [hrows.1]; omega))
      go_wp2
      go_ret
      exact ⟨_, rfl, by rw [hfin.out] at hown; exact hown, hbel⟩

end Go.Proofs.YtpbkkjiikhjanaaGreatDoor

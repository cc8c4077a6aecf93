/-
  The reference's order of a function's statements: its contract.
-/
import Derived.Test.YtaogdaoiijmmhaaSpA
import Derived.Deep.RegionLaw
namespace Go.Proofs.Ytaogdaoiijmmhaa
open Go.RowKit Exs

theorem run_append_none {P : Program} (w : World) (t ty e : TypeId) (i : TypeInfo) (ht : P.underlying t = some (.slice e)) (hi : P.info? e = some i) (b : Addr) (n cap : Nat) (hn : n ≤ cap) :
    (Builtin.append_ #[t, t] ty #[.slice (some b) n cap, .slice none 0 0]).run P w = .ok (.slice (some b) n cap) w := by
  simp [Builtin.append_, run_underlying ht, sizeOf, typeInfo, zeroValue, hi, Builtin.lenOf, hn, run_firstCells_none, storeCells, Result.andThen]

/-- 'append(xs, ys...)' of two rows of numbers, the first one not empty. -/
theorem wp_append_nums {P : Program} {w : World} {o : Oper} {a : Act} {K : Act → World → Prop} {Q : Exit → Act → World → Prop} (s x : Operand) (t : TypeId)
    (ho : o.op = .call { callee := .builtin .append, args := #[s, x], argTypes := #[t, t] })
    (B : Nat) (e : TypeId) (k : IntKind) (bytes : Nat) (hinfo : (P.info? e).map (fun i => (i.zero, i.size, i.bytes)) = some (some (.int k 0), 1, bytes)) (ht : P.underlying t = some (.slice e)) (hby : bytes ≤ 8)
    (v : Value) (xs : List Int) (hs : a.eval s = v) (hB : B ≤ w.heap.size) (hown : Nums w B e k v xs) (hx1 : 1 ≤ xs.length)
    (B' : Nat) (u : Value) (us : List Int) (hx : a.eval x = u) (hu : Nums w B' e k u us) (hlen : xs.length ≤ 100000) (hlen' : us.length ≤ 100000)
    (h : ∀ v' w', Nums w' B e k v' (xs ++ us) → Below B w w' → K (a.put o.dst v') w') : o.wp P a w K Q := by
  obtain ⟨i0, hi, hz0, hz1, hz2⟩ := info_parts hinfo
  rcases hu.2 with ⟨rfl, h0⟩ | ⟨g, cap, cur, rfl, _⟩
  · obtain rfl : us = [] := List.eq_nil_of_length_eq_zero h0
    rcases hown.2 with ⟨_, h1⟩ | ⟨g', cap', cur', rfl, _, _, hc', _⟩
    · omega
    · unfold Oper.wp execOp
      have hr := run_append_none (P := P) w t o.type e i0 ht hi ⟨g', 0, none⟩ xs.length cap' hc'
      simp only [ho, resolve, invoke, builtin, Sem.run_bind, Sem.run_pure, Result.andThen_ok, List.map_toArray, List.map_cons, List.map_nil, hs, hx, hr]
      exact h _ _ (by simpa using hown) (Below.refl _ _)
  · refine wp_append_own w s x t ho B e i0 (.int k 0) 1 bytes ht hi hz0 hz1 hz2 rfl (by decide) v xs.length _ hs hown ⟨g, 0, none⟩ us.length cap (us.map (Value.int k)) hx (by simp) ?_ (nums_oneCell k us) ?_ ?_ hB ?_
    · intro j y hj
      have hadd : (⟨g, 0, none⟩ : Addr).add j = ⟨g, j, none⟩ := by unfold Addr.add; split <;> simp_all
      have hjl : j < us.length := by have := (List.getElem?_eq_some_iff.1 hj).1; simpa using this
      rw [hadd, World.ownsRow.cellAt hu j (by omega), hj]
    · unfold maxLen; omega
    · have : (xs.length + us.length) * bytes ≤ (xs.length + us.length) * 8 := Nat.mul_le_mul_left _ hby
      omega
    · intro v' w' h1 h2 _
      refine h v' w' (by unfold Nums; simpa using h1) ((Below.refl B w).grown h2 hB fun j hj => (World.ownsRow.lt hown j hj).1)

theorem step_append_nums {P : Program} {w : World} {ops : Array Oper} {o : Oper} {a : Act} {K : Act → World → Prop} {Q : Exit → Act → World → Prop} {E : Prop} (hgd : o.guard = none) (s x : Operand) (t : TypeId)
    (ho : o.op = .call { callee := .builtin .append, args := #[s, x], argTypes := #[t, t] })
    (B : Nat) (e : TypeId) (k : IntKind) (bytes : Nat) (hinfo : (P.info? e).map (fun i => (i.zero, i.size, i.bytes)) = some (some (.int k 0), 1, bytes)) (ht : P.underlying t = some (.slice e)) (hby : bytes ≤ 8)
    (v : Value) (xs : List Int) (hs : a.eval s = v) (hB : B ≤ w.heap.size) (hown : Nums w B e k v xs) (hx1 : 1 ≤ xs.length)
    (B' : Nat) (u : Value) (us : List Int) (hx : a.eval x = u) (hu : Nums w B' e k u us) (hlen : xs.length ≤ 100000) (hlen' : us.length ≤ 100000)
    (h : ∀ v' w', Nums w' B e k v' (xs ++ us) → Below B w w' → K (a.put o.dst v') w') : if Region.wanted o (yielded ops a.tmps) = true then Oper.wp P o a w K Q else E := by
  have hw : Region.wanted o (yielded ops a.tmps) = true := by simp [Region.wanted, hgd]
  rw [if_pos hw]
  exact wp_append_nums s x t ho B e k bytes hinfo ht hby v xs hs hB hown hx1 B' u us hx hu hlen hlen' h

/-- The statements block by block. -/
def ord (f : Fc) (fuel : Nat) (block : List Int) : List Int :=
  match fuel, block with
  | _, [] => []
  | 0, _ :: _ => []
  | fuel + 1, n :: r =>
    match f.stmts[n.toNat]? with
    | none => []
    | some s => n :: (ord f fuel s.th ++ ord f fuel s.el) ++ ord f (fuel + 1) r
  termination_by (fuel, block.length)
theorem ord_nil (f : Fc) (fuel : Nat) : ord f fuel [] = [] := by unfold ord; rfl
theorem ord_cons {f : Fc} {fuel : Nat} {n : Int} {r : List Int} {s : St} (hs : f.stmts[n.toNat]? = some s) : ord f (fuel + 1) (n :: r) = (n :: (ord f fuel s.th ++ ord f fuel s.el)) ++ ord f (fuel + 1) r := by
  conv => lhs; unfold ord
  rw [hs]

/-- Each statement's blocks hold later ones. -/
def Nest (f : Fc) : Prop := ∀ (j : Nat) (s : St), f.stmts[j]? = some s → ∀ n, n ∈ s.th ∨ n ∈ s.el → (j : Int) < n ∧ n < f.stmts.length

theorem at_of_range {f : Fc} {n : Int} (h0 : 0 ≤ n) (h1 : n < f.stmts.length) : ∃ s, f.stmts[n.toNat]? = some s := ⟨_, List.getElem?_eq_getElem (by omega)⟩

theorem ord_snoc {f : Fc} {fuel : Nat} {n : Int} {s : St} (hs : f.stmts[n.toNat]? = some s) : ∀ (a : List Int), (∀ m ∈ a, ∃ s', f.stmts[m.toNat]? = some s') → ord f (fuel + 1) (a ++ [n]) = ord f (fuel + 1) a ++ (n :: (ord f fuel s.th ++ ord f fuel s.el))
  | [], _ => by simp [ord_cons hs, ord_nil]
  | m :: r, h => by
    obtain ⟨s', hs'⟩ := h m (by simp)
    rw [List.cons_append, ord_cons hs', ord_cons hs', ord_snoc hs r (fun x hx => h x (by simp [hx]))]
    simp

theorem ord_append {f : Fc} {fuel : Nat} (b : List Int) : ∀ (a : List Int), (∀ m ∈ a, ∃ s', f.stmts[m.toNat]? = some s') → ord f (fuel + 1) (a ++ b) = ord f (fuel + 1) a ++ ord f (fuel + 1) b
  | [], _ => by simp [ord_nil]
  | m :: r, h => by
    obtain ⟨s', hs'⟩ := h m (by simp)
    rw [List.cons_append, ord_cons hs', ord_cons hs', ord_append b r (fun x hx => h x (by simp [hx]))]
    simp

set_option maxHeartbeats 2000000 in
set_option maxRecDepth 100000 in
theorem l3Order_any (f : Fc) (A1 : Option Addr) (n1 c1 : Nat) (A2 : Option Addr) (n2 c2 : Nat) (hn : Nest f) (hsm : SmallF f) (hl2 : f.stmts.length = n2) :
    ∀ (fuel : Nat) (block : List Int) (A : Option Addr) (m c lo : Nat) (w : World), (∀ n ∈ block, (lo : Int) ≤ n ∧ n < f.stmts.length) → f.stmts.length ≤ fuel + lo → IsFc w w.heap.size f A1 n1 A2 n2 → Reads w w.heap.size .i64 A m block → m ≤ 1048576 → (ord f fuel block).length ≤ 1000 →
      Calls Try.prog 44 #[fcV f A1 n1 c1 A2 n2 c2, .slice A m c] w fun e w' => ∃ v, e = .returned v ∧ Nums w' w.heap.size 3 .i64 v (ord f fuel block) ∧ Below w.heap.size w w' := by
  intro fuel
  induction fuel with
  | zero =>
    intro block A m c lo w hb hfu hf hr hm _
    obtain rfl : block = [] := by
      cases block with
      | nil => rfl
      | cons n r => have := hb n (by simp); omega
    obtain rfl : m = 0 := by have := hr.1; simpa using this.symm
    rw [ord_nil]
    unfold fcV
    go_enter Try.func44, Try.ntmps44
    go_wp2
    refine wp_loop_rounds 1 ?_
    rw [rounds_succ]
    go_wp2
    go_ret
    exact ⟨_, rfl, Nums.nil _ _ _ _, (Below.refl _ _).alloc (Nat.le_refl _) _⟩
  | succ fuel ih =>
    intro block A m c lo w hb hfu hf hr hm hlen
    have hb0 : Below w.heap.size w (w.alloc (.cells #[.int .i64 f.params, .int .i64 f.vars, .slice A1 n1 c1, .slice A2 n2 c2] 51)) := (Below.refl _ _).alloc (Nat.le_refl _) _
    have hk0 := Keep.new w #[.int .i64 f.params, .int .i64 f.vars, .slice A1 n1 c1, .slice A2 n2 c2] 51
    unfold fcV
    go_enter Try.func44, Try.ntmps44
    go_wp2
    go_loopw [5, 10] (fun v i wr => ∃ j : Nat, j ≤ m ∧ i = .int .i64 j ∧ Nums wr (w.heap.size + 1) 3 .i64 v (ord f (fuel + 1) (block.take j)) ∧ Keep wr w.heap.size #[.int .i64 f.params, .int .i64 f.vars, .slice A1 n1 c1, .slice A2 n2 c2] 51 ∧ Below w.heap.size w wr) (fun _ i _ => m - (intOf i).toNat)
    case atStart => exact ⟨0, Nat.zero_le _, rfl, by rw [List.take_zero, ord_nil]; exact Nums.nil _ _ _ _, hk0, hb0⟩
    case round =>
      obtain ⟨j, hj, rfl, hown, hkeep, hbel⟩ := hrel
      clear hk0 hb0
      by_cases hlt : j < m
      · obtain ⟨b', off, x, hA, hb', hcx, hxx⟩ := (hr.below hbel).at_ hlt
        subst hA
        have hxin := hb x (mem_of_at hxx.out)
        obtain ⟨q, rfl⟩ : ∃ q : Nat, x = q := ⟨x.toNat, by omega⟩
        obtain ⟨s, hs⟩ := at_of_range (f := f) (n := (q : Int)) (by omega) hxin.2
        have hsnoc := ord_snoc (fuel := fuel) hs (block.take j) (fun y hy => by have := hb y (List.mem_of_mem_take hy); exact at_of_range (by omega) this.2)
        rw [← takeA_more hxx.out] at hsnoc
        simp only [Int.toNat_natCast] at hs
        have htot : (ord f (fuel + 1) (block.take (j + 1))).length ≤ (ord f (fuel + 1) block).length := by
          conv => rhs; rw [← List.take_append_drop (j + 1) block, ord_append _ _ (fun y hy => by have := hb y (List.mem_of_mem_take hy); exact at_of_range (by omega) this.2)]
          simp
        have hnest := hn q s hs
        obtain ⟨b2, off2, s', B1, m1, d1, B2, m2, d2, B3, m3, d3, hA2, hbb2, g0w, g1w, g2w, g3w, g4w, r1, r2w, r3w, hx2⟩ := hf.stmts.at_ (j := q) (by omega)
        obtain rfl : s = s' := by have := hx2.out; rw [hs] at this; injection this
        subst hA2
        have g3 := (hbel.cell (p := ⟨b2, off2 + q * 5 + 3, none⟩) hbb2).trans g3w
        have g4 := (hbel.cell (p := ⟨b2, off2 + q * 5 + 4, none⟩) hbb2).trans g4w
        clear g0w g1w g2w g3w g4w r1
        have hlen1 := hsnoc ▸ htot
        simp only [List.length_append, List.length_cons] at hlen1
        go_wp2_with (at_builtin; refine wpList_append_one rfl _ _ 22 rfl (w.heap.size + 1) 3 .i64 8 Try.info3 Try.underlying22 (by decide) _ (ord f (fuel + 1) (block.take j)) rfl wr ((Below.refl _ wr).alloc (by have := hkeep.lt; omega) _) (by have := hkeep.lt; simp; omega) (hown.alloc _) wr.heap.size (q : Int) rfl (by simp) (by omega) ?_; intro v1 w1 hown1 hbel1 _)
        have hbel1w : Below w.heap.size w w1 := hbel.trans (hbel1.mono (by omega))
        have hkeep1 : Keep w1 w.heap.size #[.int .i64 f.params, .int .i64 f.vars, .slice A1 n1 c1, .slice (some ⟨b2, off2, none⟩) n2 c2] 51 := (hbel1.block _ (by omega)).trans hkeep
        have t3 := (hbel1.cell (p := ⟨b2, off2 + q * 5 + 3, none⟩) (show b2 < _ by omega)).trans g3
        have t4 := (hbel1.cell (p := ⟨b2, off2 + q * 5 + 4, none⟩) (show b2 < _ by omega)).trans g4
        have y0 := hkeep1.cell 0
        have y1 := hkeep1.cell 1
        have y2 := hkeep1.cell 2
        have y3 := hkeep1.cell 3
        simp at y0 y1 y2 y3
        have hs1 := hkeep1.lt
        have hths := put r2w
        have hels := put r3w
        have hsmS := hsm.2.2 s (mem_of_at hs)
        have hm2 : m2 ≤ 1048576 := by have := hsmS.2.1; rw [r2w.1] at this; exact this
        have hm3 : m3 ≤ 1048576 := by have := hsmS.2.2; rw [r3w.1] at this; exact this
        have H1 := put (fun W (hW : Below w.heap.size w W) => ih s.th B2 m2 d2 (q + 1) W (fun n h => by have := hnest n (.inl h); omega) (by omega) (hf.now hW) (hths.out.now hW) hm2 (by omega))
        have H2 := put (fun W (hW : Below w.heap.size w W) => ih s.el B3 m3 d3 (q + 1) W (fun n h => by have := hnest n (.inr h); omega) (by omega) (hf.now hW) (hels.out.now hW) hm3 (by omega))
        unfold fcV at H1 H2
        have HS := put hsnoc
        have hL0 := put (Nat.le_trans hlen1 hlen)
        clear g3 g4 hcx hown r2w r3w ih hsnoc htot hlen1 hlen hths hels hnest hbel1
        generalize hO1 : ord f fuel s.th = O1 at H1 HS hL0
        generalize hO2 : ord f fuel s.el = O2 at H2 HS hL0
        generalize hO0 : ord f (fuel + 1) (block.take j) = O0 at hown1 HS hL0
        clear hO1 hO2 hO0
        have hqn : q < n2 := by omega
        go_region_law (first
          | (go_simp; go_at_call 44; refine (H1.out _ hbel1w.drew).mono ?_; rintro e w2 ⟨v2, rfl, hown2, hb2⟩; have hownA := Nums.belowNew (w := w1.drew) hown1 hb2; have hB2 : w.heap.size + 1 ≤ w2.heap.size := Nat.le_trans hs1 hb2.size)
          | (refine step_append_nums rfl (.tmp 18) (.tmp 26) 22 rfl (w.heap.size + 1) 3 .i64 8 Try.info3 Try.underlying22 (by decide) v1 (O0 ++ [(q : Int)]) (by simp [Act.eval]) hB2 hownA (by simp) _ v2 O1 (by simp [Act.eval]) hown2 (by have := hL0.out; simp; omega) (by have := hL0.out; omega) ?_; intro v3 w3 hown3 hb3))
        all_goals (
          have hbel3 : Below w.heap.size w w3 := (hbel1w.drew.trans (hb2.mono hbel1w.size)).trans (hb3.mono (by omega))
          have hb13 : Below (w.heap.size + 1) w1 w3 := ((Below.refl _ w1).drew.trans (hb2.mono hs1)).trans hb3
          have hkeep3 : Keep w3 w.heap.size #[.int .i64 f.params, .int .i64 f.vars, .slice A1 n1 c1, .slice (some ⟨b2, off2, none⟩) n2 c2] 51 := (hb13.block _ (by omega)).trans hkeep1
          have hsz3 : w1.heap.size ≤ w3.heap.size := hb13.size
          have hW3 : ∀ k, k < w1.heap.size → True := fun _ _ => trivial
          replace t4 := (hb13.cell (p := ⟨b2, off2 + q * 5 + 4, none⟩) (show b2 < _ by omega)).trans t4
          clear y0 y1 y2 y3 t3 hownA hown2 hown1 hW3
          have y0 := hkeep3.cell 0
          have y1 := hkeep3.cell 1
          have y2 := hkeep3.cell 2
          have y3 := hkeep3.cell 3
          simp at y0 y1 y2 y3
          go_wp2
          go_region_law (first
            | (go_simp; go_at_call 44; refine (H2.out w3.drew hbel3.drew).mono ?_; rintro e w4 ⟨v4, rfl, hown4, hb4⟩; have hownB := Nums.belowNew (w := w3.drew) hown3 hb4; have hB4 : w.heap.size + 1 ≤ w4.heap.size := Nat.le_trans (Nat.le_trans hs1 hsz3) hb4.size)
            | (refine step_append_nums rfl (.tmp 28) (.tmp 36) 22 rfl (w.heap.size + 1) 3 .i64 8 Try.info3 Try.underlying22 (by decide) v3 (O0 ++ [(q : Int)] ++ O1) (by simp [Act.eval]) hB4 hownB (by simp; omega) _ v4 O2 (by simp [Act.eval]) hown4 (by have := hL0.out; simp; omega) (by have := hL0.out; omega) ?_; intro v5 w5 hown5 hb5))
          all_goals (
            have hbel5 : Below w.heap.size w w5 := (hbel3.drew.trans (hb4.mono hbel3.size)).trans (hb5.mono (by omega))
            have hb35 : Below (w.heap.size + 1) w3 w5 := ((Below.refl _ w3).drew.trans (hb4.mono (show w.heap.size + 1 ≤ w3.heap.size by omega))).trans hb5
            have hkeep5 : Keep w5 w.heap.size #[.int .i64 f.params, .int .i64 f.vars, .slice A1 n1 c1, .slice (some ⟨b2, off2, none⟩) n2 c2] 51 := (hb35.block _ (by omega)).trans hkeep3
            have hown6 := put hown5
            clear y0 y1 y2 y3 t4 hownB hown4 hown3 hown5
            go_wp2
            go_roundw
            case rel => exact ⟨j + 1, by omega, by go_num, by rw [HS.out]; simpa [List.append_assoc] using hown6.out, hkeep5, hbel5⟩
            case measure => simp [intOf]; omega))
      · have hfin := put (show block.take j = block from List.take_of_length_le (by rw [hr.1]; omega))
        go_wp2
        go_ret
        exact ⟨_, rfl, by rw [hfin.out] at hown; exact hown.more (by omega), hbel⟩

end Go.Proofs.Ytaogdaoiijmmhaa

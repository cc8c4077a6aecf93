/-
  Texts joined: LowS LowI LowP LowN.
-/
import Derived.Test.YtpmpjiigmjnniaaGreatJSitI
/-
  The reference's code of a block and of a statement: contracts.
-/
namespace Go.Proofs.YtpmpjiigmjnniaaGreat
open Go.RowKit Exs

theorem Inss.own_lt {w : World} {B : Nat} {v : Value} {ts : List Token} (h : Inss w B v ts) {b : Nat} (hb : v.ownBlock = some b) : B ≤ b ∧ b < w.heap.size := World.ownsRow.lt h b hb
theorem Inss.grown {w w' : World} {B : Nat} {v : Value} {ts : List Token} {o : Option Nat} (h : Inss w B v ts) (hg : w.grownBy w' o) (ho : ∀ b, v.ownBlock = some b → some b ≠ o) : Inss w' B v ts := by
  refine ⟨h.1, ?_⟩
  rcases h.2 with h0 | ⟨g, cap, cur, hv, hB, hh, r⟩
  · exact .inl h0
  · exact .inr ⟨g, cap, cur, hv, hB, (hg.block g (Array.getElem?_eq_some_iff.1 hh).1 (ho g (by rw [hv]; rfl))).trans hh, r⟩
theorem Inss.lit1 (w : World) (a b : Int) : Inss (w.alloc (.cells #[.int .i64 a, .int .i64 b] 83)) w.heap.size (.slice (some ⟨w.heap.size, 0, none⟩) 1 1) [(a, b)] :=
  World.ownsRow_lit w #[.int .i64 a, .int .i64 b] 1 (Nat.le_refl _) (by unfold maxLen; omega) rfl
theorem Inss.lit2 (w : World) (a b c d : Int) : Inss (w.alloc (.cells #[.int .i64 a, .int .i64 b, .int .i64 c, .int .i64 d] 83)) w.heap.size (.slice (some ⟨w.heap.size, 0, none⟩) 2 2) [(a, b), (c, d)] :=
  World.ownsRow_lit w #[.int .i64 a, .int .i64 b, .int .i64 c, .int .i64 d] 2 (Nat.le_refl _) (by unfold maxLen; omega) rfl
theorem Keep.belowAt {w w' : World} {B g : Nat} {cs : Array Value} {t : TypeId} (h : Keep w g cs t) (hb : Below B w w') (hg : g < B) : Keep w' g cs t := (hb.block g hg).trans h

/-- 'append(out, ys...)', with what it may write. -/
theorem wpList_append_inssG {w : World} {ops : Array Oper} {rest : List Oper} {o : Oper} {a : Act} {Q : Exit → Act → World → Prop} (hgd : o.guard = none) (s x : Operand)
    (ho : o.op = .call { callee := .builtin .append, args := #[s, x], argTypes := #[27, 27] }) (B : Nat) (v : Value) (ts : List Token) (hs : a.eval s = v) (hB : B ≤ w.heap.size) (hown : Inss w B v ts)
    (B' : Nat) (u : Value) (us : List Token) (hx : a.eval x = u) (hu : Inss w B' u us) (hlen : ts.length ≤ 1000000) (hlen' : us.length ≤ 1000000)
    (h : ∀ v' w', Inss w' B v' (ts ++ us) → Below B w w' → w.grownBy w' v.ownBlock → wpList Tryz.prog ops Q rest (a.put o.dst v') w') : wpList Tryz.prog ops Q (o :: rest) a w := by
  obtain ⟨i0, hi, hz0, hz1, hz2⟩ := info_parts Tryz.info83
  rcases hu.2 with ⟨rfl, h0⟩ | ⟨g, cap, cur, rfl, _⟩
  · obtain rfl : us = [] := List.eq_nil_of_length_eq_zero h0
    exact wpList_append_own_none hgd s x 27 ho B 83 i0 2 Tryz.underlying27 hi v ts.length _ hs hown hx (h _ _ (by simpa using hown) (Below.refl _ _) (World.grownBy.refl _ _))
  · refine wpList_append_own w hgd s x 27 ho B 83 i0 (.agg #[.int .i64 0, .int .i64 0]) 2 16 Tryz.underlying27 hi hz0 hz1 hz2 rfl (by decide) v ts.length _ hs hown ⟨g, 0, none⟩ us.length cap ((flat us).map (Value.int .i64)) hx (by rw [List.length_map, flat_length]; omega) ?_ ?_ ?_ ?_ hB ?_
    · intro j y hj
      have hadd : (⟨g, 0, none⟩ : Addr).add j = ⟨g, j, none⟩ := by unfold Addr.add; split <;> simp_all
      have hjl : j < us.length * 2 := by have := (List.getElem?_eq_some_iff.1 hj).1; rw [List.length_map, flat_length] at this; omega
      rw [hadd, World.ownsRow.cellAt hu j hjl, hj]
    · intro y hy
      obtain ⟨z, _, rfl⟩ := List.mem_map.1 hy
      rfl
    · unfold maxLen; omega
    · omega
    · intro v' w' h1 h2 _
      refine h v' w' ?_ ((Below.refl B w).grown h2 hB fun j hj => (World.ownsRow.lt hown j hj).1) h2
      unfold Inss
      have e : flat (ts ++ us) = flat ts ++ flat us := by simp [flat]
      rw [e, List.map_append, List.length_append]
      exact h1

/-- What the contracts ask of a function. -/
structure LowOk (f : Fc) (n2 : Nat) : Prop where
  nest : Nest f
  small : SmallF f
  ex : Ex12 f
  len : f.stmts.length = n2
  few : n2 ≤ 1000
def BlkC (f : Fc) (A1 : Option Addr) (n1 c1 : Nat) (A2 : Option Addr) (n2 c2 : Nat) (g : Nat) : Prop := ∀ (block : List Int) (A : Option Addr) (m c lo : Nat) (a : Int) (w : World), (∀ n ∈ block, (lo : Int) ≤ n ∧ n < f.stmts.length) → f.stmts.length ≤ g + lo → IsFc w w.heap.size f A1 n1 A2 n2 → Reads w w.heap.size .i64 A m block → m ≤ 1048576 → 0 ≤ a → a + 14 * ((ord f g block).length : Int) ≤ 1000 →
  Calls Tryz.prog 46 #[fcV f A1 n1 c1 A2 n2 c2, .slice A m c, .int .i64 a] w fun e w' => ∃ v, e = .returned v ∧ Inss w' w.heap.size v (lowB (lowSt f g) block a) ∧ Below w.heap.size w w'
def StmC (f : Fc) (A1 : Option Addr) (n1 c1 : Nat) (A2 : Option Addr) (n2 c2 : Nat) (g : Nat) : Prop := ∀ (q : Nat) (s : St) (a : Int) (w : World), f.stmts[q]? = some s → f.stmts.length ≤ g + (q + 1) → IsFc w w.heap.size f A1 n1 A2 n2 → 0 ≤ a → a + 14 * (1 + (ord f g s.th).length + (ord f g s.el).length : Int) ≤ 1000 →
  Calls Tryz.prog 66 #[fcV f A1 n1 c1 A2 n2 c2, .int .i64 (q : Int), .int .i64 a] w fun e w' => ∃ v, e = .returned v ∧ Inss w' w.heap.size v (lowSt f (g + 1) q a) ∧ Below w.heap.size w w'

set_option maxHeartbeats 1000000 in
set_option maxRecDepth 100000 in
theorem blk_base (f : Fc) (A1 : Option Addr) (n1 c1 : Nat) (A2 : Option Addr) (n2 c2 : Nat) (_ : LowOk f n2) : BlkC f A1 n1 c1 A2 n2 c2 0 := by
  intro block A m c lo a w hb hfu hf hr hm h0 h1
  obtain rfl : block = [] := by
    cases block with
    | nil => rfl
    | cons n r => have := hb n (by simp); omega
  obtain rfl : m = 0 := by have := hr.1; simpa using this.symm
  unfold fcV
  go_enter Tryz.func46, Tryz.ntmps46
  go_wp2
  refine wp_loop_rounds 1 ?_
  rw [rounds_succ]
  go_wp2
  go_ret
  exact ⟨_, rfl, Inss.nil _ _, (Below.refl _ _).alloc (Nat.le_refl _) _⟩

set_option maxHeartbeats 2000000 in
set_option maxRecDepth 100000 in
theorem blk_step (f : Fc) (A1 : Option Addr) (n1 c1 : Nat) (A2 : Option Addr) (n2 c2 : Nat) (hf0 : LowOk f n2) (g : Nat) (HS : StmC f A1 n1 c1 A2 n2 c2 g) : BlkC f A1 n1 c1 A2 n2 c2 (g + 1) := by
  intro block A m c lo a w hb hfu hf hr hm h0 h1
  have hb0 : Below w.heap.size w (w.alloc (.cells #[.int .i64 f.params, .int .i64 f.vars, .slice A1 n1 c1, .slice A2 n2 c2] 59)) := (Below.refl _ _).alloc (Nat.le_refl _) _
  have hk0 := Keep.new w #[.int .i64 f.params, .int .i64 f.vars, .slice A1 n1 c1, .slice A2 n2 c2] 59
  have HL := put hr.1
  have HC := put (fun (q : Nat) (s : St) (b : Int) (W : World) (hs : f.stmts[q]? = some s) (hlo : lo ≤ q) (hW : Below w.heap.size w W) (hb0 : 0 ≤ b) (hb1 : b + 14 * (1 + (ord f g s.th).length + (ord f g s.el).length : Int) ≤ 1000) => HS q s b W hs (by omega) (hf.now hW) hb0 hb1)
  have HSN := put (fun (n : Int) (s : St) (hs : f.stmts[n.toNat]? = some s) (l : List Int) (hl : ∀ k ∈ l, k ∈ block) => ord_snoc (fuel := g) hs l (fun y hy => by have := hb y (hl y hy); exact at_of_range (by omega) this.2))
  have HAP := put (fun (l r : List Int) (hl : ∀ k ∈ l, k ∈ block) => ord_append (f := f) (fuel := g) r l (fun y hy => by have := hb y (hl y hy); exact at_of_range (by omega) this.2))
  have HLL := put (fun (l : List Int) (hl : ∀ k ∈ l, k ∈ block) => lowB_len hf0.ex (g + 1) l a (fun y hy => by have := hb y (hl y hy); omega) hf0.nest)
  have HBL := put hb
  have HS0 := put hf.stmts
  unfold fcV at HC ⊢
  clear HS hf hb
  go_enter Tryz.func46, Tryz.ntmps46
  go_wp2
  generalize hW : w.alloc (.cells #[.int .i64 f.params, .int .i64 f.vars, .slice A1 n1 c1, .slice A2 n2 c2] 59) = W0 at hb0 hk0 ⊢
  clear hW
  go_loopw [7, 12] (fun v i wr => ∃ j : Nat, j ≤ m ∧ i = .int .i64 j ∧ Inss wr (w.heap.size + 1) v (lowB (lowSt f (g + 1)) (block.take j) a) ∧ Keep wr w.heap.size #[.int .i64 f.params, .int .i64 f.vars, .slice A1 n1 c1, .slice A2 n2 c2] 59 ∧ Below w.heap.size w wr) (fun _ i _ => m - (intOf i).toNat)
  case atStart => exact ⟨0, Nat.zero_le _, rfl, Inss.nil _ _, hk0, hb0⟩
  case round =>
    obtain ⟨j, hj, rfl, hown, hkeep, hbel⟩ := hrel
    clear hk0 hb0
    by_cases hlt : j < m
    · obtain ⟨b', off, x, rfl, hb', hcx, hxx⟩ := (hr.below hbel).at_ hlt
      have hxin := HBL.out x (mem_of_at hxx.out)
      obtain ⟨q, rfl⟩ : ∃ q : Nat, x = q := ⟨x.toNat, by omega⟩
      obtain ⟨s, hs⟩ := at_of_range (f := f) (n := (q : Int)) (by omega) hxin.2
      have hsn := HSN.out (q : Int) s hs (block.take j) (fun k hk => List.mem_of_mem_take hk)
      have hs' : f.stmts[q]? = some s := by simpa using hs
      have hM := lowB_snoc (lowSt f (g + 1)) (q : Int) (block.take j) a
      rw [← takeA_more hxx.out] at hsn hM
      have hap := HAP.out (block.take (j + 1)) (block.drop (j + 1)) (fun k hk => List.mem_of_mem_take hk)
      rw [List.take_append_drop] at hap
      have hll := HLL.out (block.take j) (fun k hk => List.mem_of_mem_take hk)
      have hll2 := HLL.out (block.take (j + 1)) (fun k hk => List.mem_of_mem_take hk)
      have e1 : (ord f (g + 1) block).length = (ord f (g + 1) (block.take (j + 1))).length + (ord f (g + 1) (block.drop (j + 1))).length := by rw [hap, List.length_append]
      have e2 : (ord f (g + 1) (block.take (j + 1))).length = (ord f (g + 1) (block.take j)).length + (1 + (ord f g s.th).length + (ord f g s.el).length) := by rw [hsn]; simp; omega
      obtain ⟨O, hO⟩ : ∃ O, lowB (lowSt f (g + 1)) (block.take j) a = O := ⟨_, rfl⟩
      rw [hO] at hown hM hll
      obtain ⟨L, hLL⟩ : ∃ L, O.length = L := ⟨_, rfl⟩
      rw [hLL] at hM hll
      have hbd1 : 0 ≤ a + (L : Int) := by omega
      have hbd2 : a + (L : Int) + 14 * (1 + (ord f g s.th).length + (ord f g s.el).length : Int) ≤ 1000 := by omega
      have hw1 : IntKind.i64.wrap (a + (L : Int)) = a + (L : Int) := IntWalk.i64_in _ ⟨by omega, by omega⟩
      have HM := put hM
      have HU := put (show (lowSt f (g + 1) (q : Int) (a + (L : Int))).length ≤ 1000000 by rw [hM, List.length_append] at hll2; omega)
      have HLO := put (show O.length ≤ 1000000 by omega)
      have HCC := put (HC.out q s (a + (L : Int)) wr hs' (by omega) hbel hbd1 hbd2)
      obtain ⟨Av, cv, hv, _⟩ := hown.reads
      rw [hLL] at hv
      subst hv
      have y0 := hkeep.cell 0
      have y1 := hkeep.cell 1
      have y2 := hkeep.cell 2
      have y3 := hkeep.cell 3
      simp at y0 y1 y2 y3
      have hkl := hkeep.lt
      clear hM hll hll2 e1 e2 hap hsn hs hs' hO hLL
      go_wp2_with fail
      refine HCC.out.mono ?_
      rintro e w1 ⟨v1, rfl, nu1, hb1⟩
      have hown1 := hown.below hb1
      have hkeep1 := hkeep.below hb1
      have hbel1 := hbel.trans (hb1.mono hbel.size)
      have hs1 := hb1.size
      clear hb1 hown hkeep hbel
      go_wp2_with (at_builtin; refine wpList_append_inssG rfl _ _ rfl (w.heap.size + 1) _ O rfl (by omega) hown1 wr.heap.size v1 _ rfl nu1 HLO.out HU.out ?_; intro v2 w2 hown2 hbel2 _)
      go_roundw
      case rel => exact ⟨j + 1, by omega, by go_num, by rw [HM.out]; exact hown2, hkeep1.belowAt hbel2 (Nat.lt_succ_self _), hbel1.trans (hbel2.mono (Nat.le_succ _))⟩
      case measure => simp [intOf]; omega
    · have hfin := put (show block.take j = block from List.take_of_length_le (by have := HL.out; omega))
      go_wp2
      go_ret
      exact ⟨_, rfl, by rw [hfin.out] at hown; exact hown.under (Nat.le_succ _), hbel⟩

end Go.Proofs.YtpmpjiigmjnniaaGreat

/-
  The program's way of lowering, as plain mathematics: a block as statements of known length, and the code that they give.
-/
namespace Go.Proofs.YtpmpjiigmjnniaaGreat
open Go.RowKit Exs

/-- A block of statements, as the program keeps it. -/
inductive Lo where
  | nil : Lo
  | plain : List Token → Lo → Lo
  | ifs : List Token → Lo → Lo → Lo → Lo
  | whl : List Token → Lo → Lo → Lo
namespace Lo
def many : Lo → Nat
  | nil => 0
  | plain _ r => many r + 1
  | ifs _ _ _ r => many r + 1
  | whl _ _ r => many r + 1
def long : Lo → Nat
  | nil => 0
  | plain c r => c.length + long r
  | ifs e t l r => e.length + 1 + long t + 1 + long l + long r
  | whl e t r => e.length + 1 + long t + 1 + long r
def app : Lo → Lo → Lo
  | nil, b => b
  | plain c r, b => plain c (app r b)
  | ifs e t l r, b => ifs e t l (app r b)
  | whl e t r, b => whl e t (app r b)
/-- The code that a block gives where it begins at a place. -/
def emit : Lo → Int → List Token
  | nil, _ => []
  | plain c r, a => c ++ emit r (a + c.length)
  | ifs e t l r, a => e ++ [(11, a + (e.length + 1 + long t + 1 + long l : Nat) - (long l : Nat))] ++ emit t (a + e.length + 1) ++ [(10, a + (e.length + 1 + long t + 1 + long l : Nat))] ++ emit l (a + e.length + 1 + (long t : Nat) + 1) ++ emit r (a + (e.length + 1 + long t + 1 + long l : Nat))
  | whl e t r, a => e ++ [(11, a + (e.length + 1 + long t + 1 : Nat))] ++ emit t (a + e.length + 1) ++ [(10, a)] ++ emit r (a + (e.length + 1 + long t + 1 : Nat))
def deep : Lo → Nat
  | nil => 0
  | plain _ r => deep r
  | ifs _ t l r => max (max (deep t) (deep l) + 1) (deep r)
  | whl _ t r => max (deep t + 1) (deep r)
theorem emit_length : ∀ (b : Lo) (a : Int), (emit b a).length = long b
  | nil, _ => rfl
  | plain c r, a => by simp [emit, long, emit_length r]
  | ifs e t l r, a => by simp [emit, long, emit_length t, emit_length l, emit_length r]; omega
  | whl e t r, a => by simp [emit, long, emit_length t, emit_length r]; omega
theorem many_app : ∀ (b c : Lo), many (app b c) = many b + many c
  | nil, c => by simp [app, many]
  | plain _ r, c => by simp [app, many, many_app r c]; omega
  | ifs _ _ _ r, c => by simp [app, many, many_app r c]; omega
  | whl _ _ r, c => by simp [app, many, many_app r c]; omega
theorem long_app : ∀ (b c : Lo), long (app b c) = long b + long c
  | nil, c => by simp [app, long]
  | plain _ r, c => by simp [app, long, long_app r c]; omega
  | ifs _ _ _ r, c => by simp [app, long, long_app r c]; omega
  | whl _ _ r, c => by simp [app, long, long_app r c]; omega
theorem emit_app : ∀ (b c : Lo) (a : Int), emit (app b c) a = emit b a ++ emit c (a + long b)
  | nil, c, a => by simp [app, emit, long]
  | plain x r, c, a => by
    simp only [app, emit, long, emit_app r c, List.append_assoc]
    rw [show a + (x.length : Int) + (long r : Int) = a + ((x.length + long r : Nat) : Int) by omega]
  | ifs e t l r, c, a => by
    simp only [app, emit, long, emit_app r c, List.append_assoc]
    rw [show a + ((e.length + 1 + long t + 1 + long l : Nat) : Int) + (long r : Int) = a + ((e.length + 1 + long t + 1 + long l + long r : Nat) : Int) by omega]
  | whl e t r, c, a => by
    simp only [app, emit, long, emit_app r c, List.append_assoc]
    rw [show a + ((e.length + 1 + long t + 1 : Nat) : Int) + (long r : Int) = a + ((e.length + 1 + long t + 1 + long r : Nat) : Int) by omega]
end Lo

/-- One statement, given its blocks. -/
def stmtO (f : Fc) (rec : List Int → Lo) (s : St) (n : Int) : Lo :=
  if s.kind = 7 then .ifs (lowE s.ex) (rec s.th) (rec s.el) .nil else if s.kind = 8 then .whl (lowE s.ex) (rec s.th) .nil else if s.kind = 3 then .plain [(12, ixOf (sitesL f) n)] .nil else
  .plain (lowE s.ex ++ (if s.kind = 1 then [(3, s.n)] else if s.kind = 2 then [(8, 0)] else if s.kind = 4 then [(13, 0)] else if s.kind = 5 then [(15, 0), (16, 0)] else if s.kind = 6 then [(14, 0)] else [(9, 0)])) .nil
def loB (st : Int → Lo) : List Int → Lo
  | [] => .nil
  | n :: r => (st n).app (loB st r)
def loSt (f : Fc) : Nat → Int → Lo
  | 0, _ => .nil
  | g + 1, n => match f.stmts[n.toNat]? with | some s => stmtO f (loB (loSt f g)) s n | none => .nil
theorem loSt_at {f : Fc} {g q : Nat} {s : St} (hs : f.stmts[q]? = some s) : loSt f (g + 1) (q : Int) = stmtO f (loB (loSt f g)) s q := by simp [loSt, hs]
/-- What a good function's kinds are. -/
def Kinds9 (f : Fc) : Prop := ∀ (j : Nat) (s : St), f.stmts[j]? = some s → 1 ≤ s.kind ∧ s.kind ≤ 9 ∧ (s.kind = 6 → s.ex = [])
theorem app_nil : ∀ (b : Lo), b.app .nil = b
  | .nil => rfl
  | .plain c r => by simp [Lo.app, app_nil r]
  | .ifs e t l r => by simp [Lo.app, app_nil r]
  | .whl e t r => by simp [Lo.app, app_nil r]
/-- What the program writes is what the reference says. -/
theorem lo_same {f : Fc} (hk : Kinds9 f) : ∀ (g : Nat) (n a : Int), (loSt f g n).emit a = lowSt f g n a
  | 0, _, _ => rfl
  | g + 1, n, a => by
    have hb : ∀ (l : List Int) (a : Int), (loB (loSt f g) l).emit a = lowB (lowSt f g) l a := fun l => by
      induction l with
      | nil => intro a; rfl
      | cons m r ih =>
        intro a
        have h1 := Lo.emit_length (loSt f g m) a
        rw [lo_same hk g m a] at h1
        simp only [loB, lowB, Lo.emit_app, lo_same hk g m a, ih, h1]
    have hl : ∀ (l : List Int) (a : Int), (lowB (lowSt f g) l a).length = (loB (loSt f g) l).long := fun l a => by rw [← hb, Lo.emit_length]
    unfold loSt lowSt
    cases hs : f.stmts[n.toNat]? with
    | none => rfl
    | some s =>
      obtain ⟨k1, k9, k6⟩ := hk _ s hs
      simp only
      unfold stmtO stmtL
      have he := lowE_length s.ex
      rcases (show s.kind = 1 ∨ s.kind = 2 ∨ s.kind = 3 ∨ s.kind = 4 ∨ s.kind = 5 ∨ s.kind = 6 ∨ s.kind = 7 ∨ s.kind = 8 ∨ s.kind = 9 by omega) with h | h | h | h | h | h | h | h | h
      · simp [h, Lo.emit]
      · simp [h, Lo.emit]
      · simp [h, Lo.emit]
      · simp [h, Lo.emit]
      · simp [h, Lo.emit]
      · simp [h, Lo.emit, k6 h, lowE]
      · simp [h, Lo.emit, hb, he, hl]
        omega
      · simp [h, Lo.emit, hb, he, hl]
        omega
      · simp [h, Lo.emit]

end Go.Proofs.YtpmpjiigmjnniaaGreat

/-
  The program's blocks of statements in memory; what a statement without blocks does; how long a block is.
-/
namespace Go.Proofs.YtpmpjiigmjnniaaGreat
open Go.RowKit Exs

theorem Inss.same {w w' : World} {B : Nat} {v : Value} {ts : List Token} (h : Inss w B v ts) (hs : ∀ b, v.ownBlock = some b → w'.heap[b]? = w.heap[b]?) : Inss w' B v ts := by
  refine ⟨h.1, ?_⟩
  rcases h.2 with h0 | ⟨g, cap, cur, hv, hB, hh, r⟩
  · exact .inl h0
  · exact .inr ⟨g, cap, cur, hv, hB, (hs g (by rw [hv]; rfl)).trans hh, r⟩

/-- A row of instructions in memory that lies in blocks of a set. -/
def InsAt (W : World) (S : Nat → Prop) (v : Value) (ts : List Token) : Prop := Inss W 0 v ts ∧ ∀ b, v.ownBlock = some b → S b
theorem InsAt.kept {W W' : World} {S : Nat → Prop} {v : Value} {ts : List Token} (h : InsAt W S v ts) (hs : ∀ b, S b → W'.heap[b]? = W.heap[b]?) : InsAt W' S v ts := ⟨h.1.same fun b hb => hs b (h.2 b hb), h.2⟩
theorem InsAt.more {W : World} {S S' : Nat → Prop} {v : Value} {ts : List Token} (h : InsAt W S v ts) (hs : ∀ b, S b → S' b) : InsAt W S' v ts := ⟨h.1, fun b hb => hs b (h.2 b hb)⟩
/-- A block of statements in memory: a row of interface values from a place on. -/
def HoldsLo (W : World) (S : Nat → Prop) : Option Addr → Nat → Lo → Prop
  | _, _, .nil => True
  | A, i, .plain c r => (∃ g o v, A = some ⟨g, o, none⟩ ∧ S g ∧ W.cell? ⟨g, o + i, none⟩ = some (.iface 130 v) ∧ InsAt W S v c) ∧ HoldsLo W S A (i + 1) r
  | A, i, .ifs e t l r => (∃ g o v At nt ct Al nl cl, A = some ⟨g, o, none⟩ ∧ S g ∧ W.cell? ⟨g, o + i, none⟩ = some (.iface 132 (.agg #[v, .slice At nt ct, .slice Al nl cl])) ∧ InsAt W S v e ∧ nt = t.many ∧ nl = l.many ∧ HoldsLo W S At 0 t ∧ HoldsLo W S Al 0 l) ∧ HoldsLo W S A (i + 1) r
  | A, i, .whl e t r => (∃ g o v At nt ct, A = some ⟨g, o, none⟩ ∧ S g ∧ W.cell? ⟨g, o + i, none⟩ = some (.iface 134 (.agg #[v, .slice At nt ct])) ∧ InsAt W S v e ∧ nt = t.many ∧ HoldsLo W S At 0 t) ∧ HoldsLo W S A (i + 1) r
theorem cell_same {W W' : World} {g o : Nat} (h : W'.heap[g]? = W.heap[g]?) : W'.cell? ⟨g, o, none⟩ = W.cell? ⟨g, o, none⟩ := by
  unfold World.cell?
  simp only [h]
theorem HoldsLo.kept {W W' : World} {S : Nat → Prop} (hs : ∀ b, S b → W'.heap[b]? = W.heap[b]?) : ∀ (b : Lo) (A : Option Addr) (i : Nat), HoldsLo W S A i b → HoldsLo W' S A i b
  | .nil, _, _, _ => trivial
  | .plain _ r, _, _, ⟨⟨g, o, v, h1, h2, h3, h4⟩, h5⟩ => ⟨⟨g, o, v, h1, h2, (cell_same (hs g h2)).trans h3, h4.kept hs⟩, HoldsLo.kept hs r _ _ h5⟩
  | .ifs _ t l r, _, _, ⟨⟨g, o, v, At, nt, ct, Al, nl, cl, h1, h2, h3, h4, h5, h6, h7, h8⟩, h9⟩ =>
    ⟨⟨g, o, v, At, nt, ct, Al, nl, cl, h1, h2, (cell_same (hs g h2)).trans h3, h4.kept hs, h5, h6, HoldsLo.kept hs t _ _ h7, HoldsLo.kept hs l _ _ h8⟩, HoldsLo.kept hs r _ _ h9⟩
  | .whl _ t r, _, _, ⟨⟨g, o, v, At, nt, ct, h1, h2, h3, h4, h5, h6⟩, h7⟩ => ⟨⟨g, o, v, At, nt, ct, h1, h2, (cell_same (hs g h2)).trans h3, h4.kept hs, h5, HoldsLo.kept hs t _ _ h6⟩, HoldsLo.kept hs r _ _ h7⟩
theorem HoldsLo.more {W : World} {S S' : Nat → Prop} (hs : ∀ b, S b → S' b) : ∀ (b : Lo) (A : Option Addr) (i : Nat), HoldsLo W S A i b → HoldsLo W S' A i b
  | .nil, _, _, _ => trivial
  | .plain _ r, _, _, ⟨⟨g, o, v, h1, h2, h3, h4⟩, h5⟩ => ⟨⟨g, o, v, h1, hs g h2, h3, h4.more hs⟩, HoldsLo.more hs r _ _ h5⟩
  | .ifs _ t l r, _, _, ⟨⟨g, o, v, At, nt, ct, Al, nl, cl, h1, h2, h3, h4, h5, h6, h7, h8⟩, h9⟩ =>
    ⟨⟨g, o, v, At, nt, ct, Al, nl, cl, h1, hs g h2, h3, h4.more hs, h5, h6, HoldsLo.more hs t _ _ h7, HoldsLo.more hs l _ _ h8⟩, HoldsLo.more hs r _ _ h9⟩
  | .whl _ t r, _, _, ⟨⟨g, o, v, At, nt, ct, h1, h2, h3, h4, h5, h6⟩, h7⟩ => ⟨⟨g, o, v, At, nt, ct, h1, hs g h2, h3, h4.more hs, h5, HoldsLo.more hs t _ _ h6⟩, HoldsLo.more hs r _ _ h7⟩

/-- What a statement without blocks does behind its expression. -/
def doesL (k m : Int) : List Token :=
  if k = 1 then [(3, m)] else if k = 2 then [(8, 0)] else if k = 4 then [(13, 0)] else if k = 5 then [(15, 0), (16, 0)] else if k = 6 then [(14, 0)] else [(9, 0)]

set_option maxHeartbeats 1000000 in
set_option maxRecDepth 100000 in
theorem lowDoes_any (k m : Int) (v1 v2 v3 : Value) (w : World) :
    Calls Tryz.prog 90 #[.agg #[.int .i64 k, .int .i64 m, v1, v2, v3]] w fun e w' => ∃ v, e = .returned v ∧ Inss w' w.heap.size v (doesL k m) ∧ Below w.heap.size w w' := by
  have hb0 : Below w.heap.size w (w.alloc (.cells #[.int .i64 k, .int .i64 m, v1, v2, v3] 80)) := (Below.refl _ _).alloc (Nat.le_refl _) _
  by_cases h1 : k = 1
  · subst h1
    have hd : doesL 1 m = [(3, m)] := rfl
    rw [hd]
    go_enter Tryz.func90, Tryz.ntmps90
    go_wp2
    have hI := Inss.lit1 (w.alloc (.cells #[.int .i64 1, .int .i64 m, v1, v2, v3] 80)) 3 m
    simp only [World.size_alloc] at hI
    have hB := hb0.alloc hb0.size (.cells #[.int .i64 (3), .int .i64 (m)] 83)
    go_ret
    exact ⟨_, rfl, hI.under (Nat.le_succ _), hB⟩
  by_cases h2 : k = 2
  · subst h2
    have hd : doesL 2 m = [(8, 0)] := rfl
    rw [hd]
    go_enter Tryz.func90, Tryz.ntmps90
    go_wp2
    have hI := Inss.lit1 (w.alloc (.cells #[.int .i64 2, .int .i64 m, v1, v2, v3] 80)) 8 0
    simp only [World.size_alloc] at hI
    have hB := hb0.alloc hb0.size (.cells #[.int .i64 (8), .int .i64 (0)] 83)
    go_ret
    exact ⟨_, rfl, hI.under (Nat.le_succ _), hB⟩
  by_cases h4 : k = 4
  · subst h4
    have hd : doesL 4 m = [(13, 0)] := rfl
    rw [hd]
    go_enter Tryz.func90, Tryz.ntmps90
    go_wp2
    have hI := Inss.lit1 (w.alloc (.cells #[.int .i64 4, .int .i64 m, v1, v2, v3] 80)) 13 0
    simp only [World.size_alloc] at hI
    have hB := hb0.alloc hb0.size (.cells #[.int .i64 (13), .int .i64 (0)] 83)
    go_ret
    exact ⟨_, rfl, hI.under (Nat.le_succ _), hB⟩
  by_cases h5 : k = 5
  · subst h5
    have hd : doesL 5 m = [(15, 0), (16, 0)] := rfl
    rw [hd]
    go_enter Tryz.func90, Tryz.ntmps90
    go_wp2
    have hI := Inss.lit2 (w.alloc (.cells #[.int .i64 5, .int .i64 m, v1, v2, v3] 80)) 15 0 16 0
    simp only [World.size_alloc] at hI
    have hB := hb0.alloc hb0.size (.cells #[.int .i64 15, .int .i64 0, .int .i64 16, .int .i64 0] 83)
    go_ret
    exact ⟨_, rfl, hI.under (Nat.le_succ _), hB⟩
  by_cases h6 : k = 6
  · subst h6
    have hd : doesL 6 m = [(14, 0)] := rfl
    rw [hd]
    go_enter Tryz.func90, Tryz.ntmps90
    go_wp2
    have hI := Inss.lit1 (w.alloc (.cells #[.int .i64 6, .int .i64 m, v1, v2, v3] 80)) 14 0
    simp only [World.size_alloc] at hI
    have hB := hb0.alloc hb0.size (.cells #[.int .i64 (14), .int .i64 (0)] 83)
    go_ret
    exact ⟨_, rfl, hI.under (Nat.le_succ _), hB⟩
  · have hd : doesL k m = [(9, 0)] := by simp [doesL, h1, h2, h4, h5, h6]
    rw [hd]
    go_enter Tryz.func90, Tryz.ntmps90
    go_wp2
    have hI := Inss.lit1 (w.alloc (.cells #[.int .i64 k, .int .i64 m, v1, v2, v3] 80)) 9 0
    simp only [World.size_alloc] at hI
    have hB := hb0.alloc hb0.size (.cells #[.int .i64 (9), .int .i64 (0)] 83)
    go_ret
    exact ⟨_, rfl, hI.under (Nat.le_succ _), hB⟩

end Go.Proofs.YtpmpjiigmjnniaaGreat

/-
  The program's blocks of statements: how many, how deep, how long they are.
-/
namespace Go.Proofs.YtpmpjiigmjnniaaGreat
open Go.RowKit Exs

theorem stmtO_many (f : Fc) (rec : List Int → Lo) (s : St) (n : Int) : (stmtO f rec s n).many = 1 := by
  unfold stmtO
  split
  · rfl
  · split
    · rfl
    · split <;> rfl
theorem lo_many {f : Fc} {g : Nat} : ∀ l : List Int, (∀ n ∈ l, ∃ s, f.stmts[n.toNat]? = some s) → (loB (loSt f (g + 1)) l).many = l.length
  | [], _ => rfl
  | n :: r, h => by
    obtain ⟨s, hs⟩ := h n (List.mem_cons_self ..)
    have h1 : loSt f (g + 1) n = stmtO f (loB (loSt f g)) s n := by simp [loSt, hs]
    simp only [loB, Lo.many_app, h1, stmtO_many, lo_many r fun k hk => h k (List.mem_cons_of_mem _ hk), List.length_cons]
    omega
theorem deep_app : ∀ b c : Lo, (b.app c).deep = max b.deep c.deep
  | .nil, c => by simp [Lo.app, Lo.deep]
  | .plain _ r, c => by simp [Lo.app, Lo.deep, deep_app r c]
  | .ifs _ _ _ r, c => by simp only [Lo.app, Lo.deep, deep_app r c]; omega
  | .whl _ _ r, c => by simp only [Lo.app, Lo.deep, deep_app r c]; omega
theorem loB_deep {st : Int → Lo} {d : Nat} (h : ∀ n, (st n).deep ≤ d) : ∀ l, (loB st l).deep ≤ d
  | [] => Nat.zero_le _
  | n :: r => by have := h n; have := loB_deep h r; simp only [loB, deep_app]; omega
theorem lo_deep {f : Fc} : ∀ (g : Nat) (n : Int), (loSt f g n).deep ≤ g
  | 0, _ => Nat.zero_le _
  | g + 1, n => by
    have hb := loB_deep (lo_deep (f := f) g)
    unfold loSt
    cases f.stmts[n.toNat]? with
    | none => exact Nat.zero_le _
    | some s =>
      have h1 := hb s.th
      have h2 := hb s.el
      simp only
      unfold stmtO
      split
      · simp only [Lo.deep]; omega
      · split
        · simp only [Lo.deep]; omega
        · split <;> exact Nat.zero_le _
/-- The code of a block, both ways. -/
theorem loB_same {f : Fc} (hk : Kinds9 f) (g : Nat) : ∀ (l : List Int) (a : Int), (loB (loSt f g) l).emit a = lowB (lowSt f g) l a
  | [], _ => rfl
  | m :: r, a => by
    have h1 := Lo.emit_length (loSt f g m) a
    rw [lo_same hk g m a] at h1
    simp only [loB, lowB, Lo.emit_app, lo_same hk g m a, loB_same hk g r, h1]
theorem loB_long {f : Fc} (hk : Kinds9 f) (g : Nat) (l : List Int) (a : Int) : (loB (loSt f g) l).long = (lowB (lowSt f g) l a).length := by rw [← loB_same hk g l a, Lo.emit_length]

end Go.Proofs.YtpmpjiigmjnniaaGreat

/-
  The lowering of an expression: both sides' contracts.
-/
import Derived.Test.YtpmpjiigmjnniaaGreatJTokMem
import Derived.Test.YtpmpjiigmjnniaaGreatJSpA
namespace Go.Proofs.YtpmpjiigmjnniaaGreat
open Go.RowKit Exs

/-- The instruction of a token. -/
def tokI (t : Token) : Token := if t.1 = 1 then (1, t.2) else if t.1 = 2 then (2, t.2) else if t.1 = 11 then (7, t.2) else if t.1 = 9 then (5, 0) else if t.1 = 10 then (6, 0) else (4, t.1)
def lowE (e : List Token) : List Token := e.map tokI
theorem lowE_length (e : List Token) : (lowE e).length = e.length := by simp [lowE]
theorem lowE_more {e : List Token} {k : Nat} {t : Token} (h : e[k]? = some t) : lowE (e.take (k + 1)) = lowE (e.take k) ++ [tokI t] := by rw [takeT_more h]; simp [lowE]
theorem tokI_other {op x : Int} (h : ¬ (op = 1 ∨ op = 2 ∨ op = 11 ∨ op = 9 ∨ op = 10)) : tokI (op, x) = (4, op) := by
  unfold tokI
  rw [if_neg (by simp; omega), if_neg (by simp; omega), if_neg (by simp; omega), if_neg (by simp; omega), if_neg (by simp; omega)]
theorem ret_ins {t : Token} {a b : Int} (h : t = (a, b)) : Ending.returned (.agg #[.int .i64 a, .int .i64 b]) = .returned (.agg #[.int .i64 t.1, .int .i64 t.2]) := by rw [h]

set_option maxHeartbeats 1000000 in
theorem l6Tok_any (op x : Int) (w : World) : Calls Tryz.prog 96 #[.agg #[.int .i64 op, .int .i64 x]] w fun e w' => e = .returned (.agg #[.int .i64 (tokI (op, x)).1, .int .i64 (tokI (op, x)).2]) ∧ Below w.heap.size w w' := by
  by_cases h1 : op = 1
  · subst h1
    go_enter Tryz.func96, Tryz.ntmps96
    go_wp2
    exact bodyPost_ret (v := .agg #[.int .i64 1, .int .i64 x]) (by simp [results, Tryz.results96, go_sem]) rfl ⟨rfl, ((Below.refl _ _).alloc (Nat.le_refl _) _).alloc (by simp) _⟩
  by_cases h2 : op = 2
  · subst h2
    go_enter Tryz.func96, Tryz.ntmps96
    go_wp2
    exact bodyPost_ret (v := .agg #[.int .i64 2, .int .i64 x]) (by simp [results, Tryz.results96, go_sem]) rfl ⟨rfl, ((Below.refl _ _).alloc (Nat.le_refl _) _).alloc (by simp) _⟩
  by_cases h11 : op = 11
  · subst h11
    go_enter Tryz.func96, Tryz.ntmps96
    go_wp2
    exact bodyPost_ret (v := .agg #[.int .i64 7, .int .i64 x]) (by simp [results, Tryz.results96, go_sem]) rfl ⟨rfl, ((Below.refl _ _).alloc (Nat.le_refl _) _).alloc (by simp) _⟩
  by_cases h9 : op = 9
  · subst h9
    go_enter Tryz.func96, Tryz.ntmps96
    go_wp2
    exact bodyPost_ret (v := .agg #[.int .i64 5, .int .i64 0]) (by simp [results, Tryz.results96, go_sem]) rfl ⟨rfl, ((Below.refl _ _).alloc (Nat.le_refl _) _).alloc (by simp) _⟩
  by_cases h10 : op = 10
  · subst h10
    go_enter Tryz.func96, Tryz.ntmps96
    go_wp2
    exact bodyPost_ret (v := .agg #[.int .i64 6, .int .i64 0]) (by simp [results, Tryz.results96, go_sem]) rfl ⟨rfl, ((Below.refl _ _).alloc (Nat.le_refl _) _).alloc (by simp) _⟩
  have hA := put (tokI_other (op := op) (x := x) (by omega))
  have q1 : (op == 1) = false := by simp; omega
  have q2 : (op == 2) = false := by simp; omega
  have q11 : (op == 11) = false := by simp; omega
  have q9 : (op == 9) = false := by simp; omega
  have q10 : (op == 10) = false := by simp; omega
  clear h1 h2 h11 h9 h10
  go_enter Tryz.func96, Tryz.ntmps96
  go_wp2
  exact bodyPost_ret (v := .agg #[.int .i64 4, .int .i64 op]) (by simp [results, Tryz.results96, go_sem]) rfl ⟨ret_ins hA.out, ((Below.refl _ _).alloc (Nat.le_refl _) _).alloc (by simp) _⟩

set_option maxHeartbeats 1000000 in
theorem lowToken_any (op x : Int) (w : World) : Calls Tryz.prog 98 #[.agg #[.int .i64 op, .int .i64 x]] w fun e w' => e = .returned (.agg #[.int .i64 (tokI (op, x)).1, .int .i64 (tokI (op, x)).2]) ∧ Below w.heap.size w w' := by
  by_cases h1 : op = 1
  · subst h1
    go_enter Tryz.func98, Tryz.ntmps98
    go_wp2
    exact bodyPost_ret (v := .agg #[.int .i64 1, .int .i64 x]) (by simp [results, Tryz.results98, go_sem]) rfl ⟨rfl, ((Below.refl _ _).alloc (Nat.le_refl _) _).alloc (by simp) _⟩
  by_cases h2 : op = 2
  · subst h2
    go_enter Tryz.func98, Tryz.ntmps98
    go_wp2
    exact bodyPost_ret (v := .agg #[.int .i64 2, .int .i64 x]) (by simp [results, Tryz.results98, go_sem]) rfl ⟨rfl, ((Below.refl _ _).alloc (Nat.le_refl _) _).alloc (by simp) _⟩
  by_cases h11 : op = 11
  · subst h11
    go_enter Tryz.func98, Tryz.ntmps98
    go_wp2
    exact bodyPost_ret (v := .agg #[.int .i64 7, .int .i64 x]) (by simp [results, Tryz.results98, go_sem]) rfl ⟨rfl, ((Below.refl _ _).alloc (Nat.le_refl _) _).alloc (by simp) _⟩
  by_cases h9 : op = 9
  · subst h9
    go_enter Tryz.func98, Tryz.ntmps98
    go_wp2
    exact bodyPost_ret (v := .agg #[.int .i64 5, .int .i64 0]) (by simp [results, Tryz.results98, go_sem]) rfl ⟨rfl, ((Below.refl _ _).alloc (Nat.le_refl _) _).alloc (by simp) _⟩
  by_cases h10 : op = 10
  · subst h10
    go_enter Tryz.func98, Tryz.ntmps98
    go_wp2
    exact bodyPost_ret (v := .agg #[.int .i64 6, .int .i64 0]) (by simp [results, Tryz.results98, go_sem]) rfl ⟨rfl, ((Below.refl _ _).alloc (Nat.le_refl _) _).alloc (by simp) _⟩
  have hA := put (tokI_other (op := op) (x := x) (by omega))
  have q1 : (op == 1) = false := by simp; omega
  have q2 : (op == 2) = false := by simp; omega
  have q11 : (op == 11) = false := by simp; omega
  have q9 : (op == 9) = false := by simp; omega
  have q10 : (op == 10) = false := by simp; omega
  clear h1 h2 h11 h9 h10
  go_enter Tryz.func98, Tryz.ntmps98
  go_wp2
  exact bodyPost_ret (v := .agg #[.int .i64 4, .int .i64 op]) (by simp [results, Tryz.results98, go_sem]) rfl ⟨ret_ins hA.out, ((Below.refl _ _).alloc (Nat.le_refl _) _).alloc (by simp) _⟩

/-- Tokens in a row of the call's own. -/
def Inss (w : World) (B : Nat) (v : Value) (ts : List Token) : Prop := w.ownsRow B 83 2 v ts.length ((flat ts).map (Value.int .i64))
theorem Inss.nil (w : World) (B : Nat) : Inss w B (.slice none 0 0) [] := World.ownsRow_nil _ _ _ _
theorem Inss.alloc {w : World} {B : Nat} {v : Value} {ts : List Token} (h : Inss w B v ts) (o : Obj) : Inss (w.alloc o) B v ts := World.ownsRow.alloc h o
theorem Inss.below {w w' : World} {B : Nat} {v : Value} {ts : List Token} (h : Inss w B v ts) (hb : Below w.heap.size w w') : Inss w' B v ts := by
  refine ⟨h.1, ?_⟩
  rcases h.2 with h0 | ⟨g, cap, cur, hv, hB, hg, hc, hmx, hs, ht⟩
  · exact .inl h0
  · exact .inr ⟨g, cap, cur, hv, hB, (hb.block g (Array.getElem?_eq_some_iff.1 hg).1).trans hg, hc, hmx, hs, ht⟩
theorem Inss.reads {w : World} {B : Nat} {v : Value} {ts : List Token} (h : Inss w B v ts) : ∃ A c, v = .slice A ts.length c ∧ ReadsT w w.heap.size A ts.length ts := by
  rcases h.2 with ⟨rfl, h0⟩ | ⟨g, cap, cur, rfl, hB, hg, hc, hm, _⟩
  · rw [h0]
    exact ⟨none, 0, rfl, h0, by rw [flat_length, h0], fun hn => absurd hn (by omega)⟩
  · refine ⟨some ⟨g, 0, none⟩, cap, rfl, rfl, flat_length ts, fun hn => ⟨g, 0, rfl, (Array.getElem?_eq_some_iff.1 hg).1, fun j x hx => ?_⟩⟩
    have hj : j < (flat ts).length := (List.getElem?_eq_some_iff.1 hx).1
    rw [flat_length] at hj
    rw [Nat.zero_add, World.ownsRow.cellAt h j (by omega)]
    simp [hx]

theorem Inss.under {w : World} {B B' : Nat} {v : Value} {ts : List Token} (h : Inss w B v ts) (hB : B' ≤ B) : Inss w B' v ts := by
  refine ⟨h.1, ?_⟩
  rcases h.2 with h0 | ⟨g, cap, cur, hv, hg, r⟩
  · exact .inl h0
  · exact .inr ⟨g, cap, cur, hv, by omega, r⟩
/-- 'append(out, t)', t a token. -/
theorem wpList_append_tok {w : World} {ops : Array Oper} {rest : List Oper} {o : Oper} {a : Act} {Q : Exit → Act → World → Prop} (hgd : o.guard = none) (s x : Operand)
    (ho : o.op = .call { callee := .builtin .append, args := #[s, x], argTypes := #[27, 27] }) (B : Nat) (v : Value) (ts : List Token) (hs : a.eval s = v) (w0 : World) (hbel : Below B w0 w) (hB : B ≤ w.heap.size) (hown : Inss w B v ts)
    (g : Nat) (op y : Int) (hx : a.eval x = .slice (some ⟨g, 0, none⟩) 1 1) (hc0 : w.cell? ⟨g, 0, none⟩ = some (.int .i64 op)) (hc1 : w.cell? ⟨g, 1, none⟩ = some (.int .i64 y)) (hlen : ts.length ≤ 1000000)
    (h : ∀ v' w', Inss w' B v' (ts ++ [(op, y)]) → Below B w0 w' → wpList Tryz.prog ops Q rest (a.put o.dst v') w') : wpList Tryz.prog ops Q (o :: rest) a w := by
  obtain ⟨i0, hi, hz0, hz1, hz2⟩ := info_parts Tryz.info83
  refine wpList_append_own w hgd s x 27 ho B 83 i0 (.agg #[.int .i64 0, .int .i64 0]) 2 16 Tryz.underlying27 hi hz0 hz1 hz2 rfl (by decide) v ts.length _ hs hown ⟨g, 0, none⟩ 1 1 [.int .i64 op, .int .i64 y] hx rfl ?_ ?_ ?_ ?_ hB ?_
  · intro j u hj
    match j, hj with
    | 0, hj => simp at hj; subst hj; simpa [Addr.add] using hc0
    | 1, hj => simp at hj; subst hj; simpa [Addr.add] using hc1
  · intro u hu; simp at hu; rcases hu with rfl | rfl <;> rfl
  · unfold maxLen; omega
  · omega
  · intro v' w' h1 h2 _
    refine h v' w' ?_ (hbel.grown h2 hB fun j hj => (World.ownsRow.lt hown j hj).1)
    unfold Inss
    rw [flat_snoc]
    simpa using h1

set_option maxHeartbeats 1000000 in
set_option maxRecDepth 100000 in
theorem l6Expr_any (A : Option Addr) (n c : Nat) (ts : List Token) (w : World) (hr : ReadsT w w.heap.size A n ts) (hn : n ≤ 1000000) :
    Calls Tryz.prog 82 #[.slice A n c] w fun e w' => ∃ v, e = .returned v ∧ Inss w' w.heap.size v (lowE ts) ∧ Below w.heap.size w w' := by
  have HL := put hr.1
  go_enter Tryz.func82, Tryz.ntmps82
  go_wp2
  go_loopw [3, 8] (fun v i wr => ∃ k : Nat, k ≤ n ∧ i = .int .i64 k ∧ Inss wr w.heap.size v (lowE (ts.take k)) ∧ Below w.heap.size w wr) (fun _ i _ => n - (intOf i).toNat)
  case atStart => exact ⟨0, Nat.zero_le _, rfl, Inss.nil _ _, Below.refl _ _⟩
  case round =>
    obtain ⟨k, hk, rfl, hown, hbel⟩ := hrel
    by_cases hlt : k < n
    · obtain ⟨b, off, op, x, rfl, hb, hc, hc', hx⟩ := (hr.below hbel).at_ hlt
      have HM := put (lowE_more hx.out)
      have HK := put (show (lowE (ts.take k)).length ≤ 1000000 by rw [lowE_length, List.length_take]; omega)
      generalize lowE (ts.take k) = is at hown HM HK
      have hb0 := (Below.refl wr.heap.size wr).alloc (Nat.le_refl _) (.cells #[.int .i64 op, .int .i64 x] 137)
      go_wp2_with fail
      refine (l6Tok_any op x _).mono ?_
      rintro e w1 ⟨rfl, hb1⟩
      have hb2 := hb0.trans (hb1.mono hb0.size)
      have hown1 := hown.below hb2
      have hbel1 : Below w.heap.size w w1 := hbel.trans (hb2.mono hbel.size)
      generalize tokI (op, x) = t at HM ⊢
      obtain ⟨a, b'⟩ := t
      clear hc hc' hb0 hb1 hb2 hown
      go_wp2_with (at_builtin; refine wpList_append_tok rfl _ _ rfl w.heap.size _ is rfl w (hbel1.alloc hbel1.size _) (by have := hbel1.size; simp; omega) (hown1.alloc _) w1.heap.size a b' rfl (by simp) (by simp) HK.out ?_; intro v2 w2 hown2 hbel2)
      go_roundw
      case rel => exact ⟨k + 1, by omega, by go_num, by rw [HM.out]; exact hown2, hbel2⟩
      case measure => simp [intOf]; omega
    · have hfin := put (show ts.take k = ts from List.take_of_length_le (by have := HL.out; omega))
      go_wp2
      go_ret
      exact ⟨_, rfl, by rw [hfin.out] at hown; exact hown, hbel⟩

set_option maxHeartbeats 1000000 in
set_option maxRecDepth 100000 in
theorem lowExpr_any (A : Option Addr) (n c : Nat) (ts : List Token) (w : World) (hr : ReadsT w w.heap.size A n ts) (hn : n ≤ 1048576) :
    Calls Tryz.prog 88 #[.slice A n c] w fun e w' => e = .returned (.slice (some ⟨w.heap.size, 0, none⟩) n n) ∧ Room w' w.heap.size 83 (2 * n) .i64 (flat (lowE ts)) ∧ Below w.heap.size w w' := by
  have hmk := fun W => run_make_rows (P := Tryz.prog) 27 83 (.agg #[.int .i64 0, .int .i64 0]) 2 16 Tryz.underlying27 Tryz.info83 n (by omega) (by omega) W
  go_enter Tryz.func88, Tryz.ntmps88
  go_wp2
  go_loopw [11] (fun i wr => ∃ k : Nat, k ≤ n ∧ i = .int .i64 k ∧ Room wr w.heap.size 83 (2 * n) .i64 (flat (lowE (ts.take k))) ∧ Below w.heap.size w wr) (fun i _ => n - (intOf i).toNat)
  case atStart => exact ⟨0, Nat.zero_le _, rfl, Room.madeT w 83 n _ _ rfl, (Below.refl _ _).alloc (Nat.le_refl _) _⟩
  case round =>
    obtain ⟨k, hk, rfl, hroom, hbel⟩ := hrel
    clear hmk
    by_cases hlt : k < n
    · obtain ⟨b, off, op, x, rfl, hb, hc, hc', hx⟩ := (hr.below hbel).at_ hlt
      have hb0 := (Below.refl wr.heap.size wr).alloc (Nat.le_refl _) (.cells #[.int .i64 op, .int .i64 x] 137)
      go_wp2_with fail
      refine (lowToken_any op x _).mono ?_
      rintro e w1 ⟨rfl, hb1⟩
      have hb2 := hb0.trans (hb1.mono hb0.size)
      have hroom1 := hroom.below hb2 hroom.lt
      have hbel1 : Below w.heap.size w w1 := hbel.trans (hb2.mono hbel.size)
      obtain ⟨c0, hc0⟩ := hroom1.at_ (k * 2) (by omega)
      obtain ⟨c1, hc1⟩ := hroom1.at_ (k * 2 + 1) (by omega)
      have hf0 := hroom1.frozen (k * 2)
      have hf1 := hroom1.frozen (k * 2 + 1)
      have hlen : (lowE (ts.take k)).length = k := by rw [lowE_length, List.length_take, hr.1]; omega
      have HM := lowE_more hx.out
      generalize tokI (op, x) = t at HM ⊢
      obtain ⟨a, b'⟩ := t
      have hpush := hroom1.pushT (by rw [hlen]; exact hlt) a b'
      rw [hlen, ← HM] at hpush
      have HP := put hpush; clear hpush hlen hc hc' hb1 HM hb0 hb2
      go_wp2
      go_roundw
      case rel => exact ⟨k + 1, by omega, by go_num, HP.out, (hbel1.setCell (by simp) _).setCell (by simp) _⟩
      case measure => simp [intOf]; omega
    · have hfin := put (show ts.take k = ts from List.take_of_length_le (by rw [hr.1]; omega))
      go_wp2
      go_ret
      exact ⟨rfl, by rw [hfin.out] at hroom; exact hroom, hbel⟩

end Go.Proofs.YtpmpjiigmjnniaaGreat

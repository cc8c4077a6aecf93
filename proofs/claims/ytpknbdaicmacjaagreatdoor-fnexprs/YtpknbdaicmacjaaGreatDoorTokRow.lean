/-
  Tokens in a row of the call's own.
-/
import Derived.Test.YtpknbdaicmacjaaGreatDoorTokMem
namespace Go.Proofs.YtpknbdaicmacjaaGreatDoor
open Go.RowKit Exs

/-- Tokens in a row of the call's own. -/
def Toks (w : World) (B : Nat) (v : Value) (ts : List Token) : Prop := w.ownsRow B 40 2 v ts.length ((flat ts).map (Value.int .i64))
theorem Toks.nil (w : World) (B : Nat) : Toks w B (.slice none 0 0) [] := World.ownsRow_nil _ _ _ _
theorem Toks.alloc {w : World} {B : Nat} {v : Value} {ts : List Token} (h : Toks w B v ts) (o : Obj) : Toks (w.alloc o) B v ts := World.ownsRow.alloc h o
theorem Toks.below {w w' : World} {B : Nat} {v : Value} {ts : List Token} (h : Toks w B v ts) (hb : Below w.heap.size w w') : Toks w' B v ts := by
  refine ⟨h.1, ?_⟩
  rcases h.2 with h0 | ⟨g, cap, cur, hv, hB, hg, hc, hmx, hs, ht⟩
  · exact .inl h0
  · exact .inr ⟨g, cap, cur, hv, hB, (hb.block g (Array.getElem?_eq_some_iff.1 hg).1).trans hg, hc, hmx, hs, ht⟩
theorem Toks.reads {w : World} {B : Nat} {v : Value} {ts : List Token} (h : Toks w B v ts) : ∃ A c, v = .slice A ts.length c ∧ ReadsT w w.heap.size A ts.length ts := by
  rcases h.2 with ⟨rfl, h0⟩ | ⟨g, cap, cur, rfl, hB, hg, hc, hm, _⟩
  · rw [h0]
    exact ⟨none, 0, rfl, h0, by rw [flat_length, h0], fun hn => absurd hn (by omega)⟩
  · refine ⟨some ⟨g, 0, none⟩, cap, rfl, rfl, flat_length ts, fun hn => ⟨g, 0, rfl, (Array.getElem?_eq_some_iff.1 hg).1, fun j x hx => ?_⟩⟩
    have hj : j < (flat ts).length := (List.getElem?_eq_some_iff.1 hx).1
    rw [flat_length] at hj
    rw [Nat.zero_add, World.ownsRow.cellAt h j (by omega)]
    simp [hx]

/-- 'append(out, t)', t a token. -/
theorem wpList_append_tok {w : World} {ops : Array Oper} {rest : List Oper} {o : Oper} {a : Act} {Q : Exit → Act → World → Prop} (hgd : o.guard = none) (s x : Operand)
    (ho : o.op = .call { callee := .builtin .append, args := #[s, x], argTypes := #[24, 24] }) (B : Nat) (v : Value) (ts : List Token) (hs : a.eval s = v) (w0 : World) (hbel : Below B w0 w) (hB : B ≤ w.heap.size) (hown : Toks w B v ts)
    (g : Nat) (op y : Int) (hx : a.eval x = .slice (some ⟨g, 0, none⟩) 1 1) (hc0 : w.cell? ⟨g, 0, none⟩ = some (.int .i64 op)) (hc1 : w.cell? ⟨g, 1, none⟩ = some (.int .i64 y)) (hlen : ts.length ≤ 1000000)
    (h : ∀ v' w', Toks w' B v' (ts ++ [(op, y)]) → Below B w0 w' → wpList Tryz.prog ops Q rest (a.put o.dst v') w') : wpList Tryz.prog ops Q (o :: rest) a w := by
  obtain ⟨i0, hi, hz0, hz1, hz2⟩ := info_parts Tryz.info40
  refine wpList_append_own w hgd s x 24 ho B 40 i0 (.agg #[.int .i64 0, .int .i64 0]) 2 16 Tryz.underlying24 hi hz0 hz1 hz2 rfl (by decide) v ts.length _ hs hown ⟨g, 0, none⟩ 1 1 [.int .i64 op, .int .i64 y] hx rfl ?_ ?_ ?_ ?_ hB ?_
  · intro j u hj
    match j, hj with
    | 0, hj => simp at hj; subst hj; simpa [Addr.add] using hc0
    | 1, hj => simp at hj; subst hj; simpa [Addr.add] using hc1
  · intro u hu; simp at hu; rcases hu with rfl | rfl <;> rfl
  · unfold maxLen; omega
  · omega
  · intro v' w' h1 h2 _
    refine h v' w' ?_ (hbel.grown h2 hB fun j hj => (World.ownsRow.lt hown j hj).1)
    unfold Toks
    rw [flat_snoc]
    simpa using h1

end Go.Proofs.YtpknbdaicmacjaaGreatDoor

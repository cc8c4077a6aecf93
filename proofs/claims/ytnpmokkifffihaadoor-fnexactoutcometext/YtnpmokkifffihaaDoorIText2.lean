/-
  The contract of the program's ExprText.
-/
import Derived.Test.YtnpmokkifffihaaDoorIText
namespace Go.Proofs.YtnpmokkifffihaaDoor
open Go.RowKit Exs
set_option linter.unusedVariables false

/-- The library's contract in these words. -/
theorem appendInt_any (B : Nat) (v : Value) (l : List UInt8) (i : Int) (w : World) (h0 : -2147483648 ≤ i) (h1 : i ≤ 2147483647) (hown : Bytes w B v l) (hB : B ≤ w.heap.size) (hl : l.length ≤ 1000000) (hp : Pows B w) :
    Calls Tryd.prog 17 #[v, .int .i64 i, .int .i64 10] w (Put B (l ++ intL i) w) := by
  refine (Tryd.strconv_AppendInt_10 B l.length i (by omega) (by omega) v (Lib.byteCells l) w hown hB (by omega) hp).mono ?_
  rintro e w' ⟨v', rfl, h2, h3, _⟩
  refine ⟨v', rfl, ?_, h3⟩
  unfold Bytes
  rw [itoa_intL] at h2
  simpa [Lib.byteCells] using h2

theorem beq_of' {a b : Int} (h : a ≠ b) : (a == b) = false := by simpa using h
theorem word_op {op : Int} (h0 : 3 ≤ op) (h1 : op ≤ 10) : tokL (op, 0) = wordN op.toNat := by
  have hcs : op = 3 ∨ op = 4 ∨ op = 5 ∨ op = 6 ∨ op = 7 ∨ op = 8 ∨ op = 9 ∨ op = 10 := by omega
  rcases hcs with rfl | rfl | rfl | rfl | rfl | rfl | rfl | rfl <;> rfl

/-- 'append(b, c)', c a byte. -/
theorem wpList_append_byte {w : World} {ops : Array Oper} {rest : List Oper} {o : Oper} {a : Act} {Q : Exit → Act → World → Prop} (hgd : o.guard = none) (s x : Operand)
    (ho : o.op = .call { callee := .builtin .append, args := #[s, x], argTypes := #[39, 39] }) (B : Nat) (v : Value) (l : List UInt8) (hs : a.eval s = v) (w0 : World) (hbel : Below B w0 w) (hB : B ≤ w.heap.size) (hown : Bytes w B v l)
    (g : Nat) (b : UInt8) (hx : a.eval x = .slice (some ⟨g, 0, none⟩) 1 1) (hcell : w.cell? ⟨g, 0, none⟩ = some (.int .u8 b.toNat)) (hlen : l.length ≤ 1000000)
    (h : ∀ v' w', Bytes w' B v' (l ++ [b]) → Below B w0 w' → w.grownBy w' v.ownBlock → wpList Tryd.prog ops Q rest (a.put o.dst v') w') : wpList Tryd.prog ops Q (o :: rest) a w := by
  obtain ⟨i0, hi, hz0, hz1, hz2⟩ := info_parts Tryd.info5
  refine wpList_append_own w hgd s x 39 ho B 5 i0 (.int .u8 0) 1 1 Tryd.underlying39 hi hz0 hz1 hz2 rfl (by decide) v l.length _ hs hown ⟨g, 0, none⟩ 1 1 [.int .u8 b.toNat] hx rfl ?_ ?_ ?_ ?_ hB ?_
  · intro j u hj
    match j, hj with
    | 0, hj => simp at hj; subst hj; simpa [Addr.add] using hcell
  · intro u hu; simp at hu; subst hu; rfl
  · unfold maxLen; omega
  · omega
  · intro v' w' h1 h2 _
    refine h v' w' ?_ (hbel.grown h2 hB fun j hj => (World.ownsRow.lt hown j hj).1) h2
    unfold Bytes
    simpa [Lib.byteCells] using h1

theorem bytes_below {w w' : World} {B : Nat} {v : Value} {l : List UInt8} (h : Bytes w B v l) (hb : Below w.heap.size w w') : Bytes w' B v l := by
  refine ⟨h.1, ?_⟩
  rcases h.2 with h0 | ⟨g, cap, cur, hv, hB, hg, hc, hmx, hs, ht⟩
  · exact .inl h0
  · exact .inr ⟨g, cap, cur, hv, hB, (hb.block g (Array.getElem?_eq_some_iff.1 hg).1).trans hg, hc, hmx, hs, ht⟩

theorem kept_at {w W w' : World} {B : Nat} {v : Value} {l : List UInt8} (hown : Bytes w B v l) (hg : W.grownBy w' v.ownBlock) (hlt : w.heap.size < W.heap.size) : ∀ j, w'.cell? ⟨w.heap.size, j, none⟩ = W.cell? ⟨w.heap.size, j, none⟩ := by
  intro j
  refine World.cell?_of_block (hg.block w.heap.size hlt fun e => ?_)
  have := (World.ownsRow.lt hown _ e.symm).2
  omega

/-- A text made of a row of the call's own. -/
theorem run_text_own (w : World) (B : Nat) (v : Value) (l : List UInt8) (hown : Bytes w B v l) : (convert 39 9 v).run Tryd.prog w = .ok (.string (strB l)) w := by
  rcases hown.2 with ⟨rfl, hn⟩ | ⟨g, cap, cur, rfl, _, hg, hnc, _, hcs, htk⟩
  · obtain rfl : l = [] := List.eq_nil_of_length_eq_zero hn
    rw [run_convert_bytes_nil w 39 5 Tryd.underlying39 Tryd.underlying5 0 0 9 Tryd.underlying9]; rfl
  · refine run_convert_bytes_back w 39 9 5 ⟨g, 0, none⟩ cap l Tryd.underlying39 Tryd.underlying5 Tryd.underlying9 (fun j hj => ?_)
    exact World.ownsRow.cells (g := g) hown rfl j _ (by simp [Lib.byteCells, hj])

end Go.Proofs.YtnpmokkifffihaaDoor

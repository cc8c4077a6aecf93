/-
  Contracts of the program's ExprText and of what it calls.
-/
import Derived.Test.YtfdijeeilfhjeaaDoorSText2
import Derived.Test.YtfdijeeilfhjeaaDoorSInt
import Derived.Lib.AppendStr
import Derived.Lib.ItoaLen
namespace Go.Proofs.YtfdijeeilfhjeaaDoor
open Go.RowKit Exs
set_option linter.unusedVariables false

theorem decDigits_numL (n : Nat) : Lib.decDigits n = numL n := by
  induction n using Nat.strongRecOn with
  | _ n ih =>
    rw [Lib.decDigits, numL]
    split
    · rfl
    · rw [ih (n / 10) (by omega)]
theorem itoa_intL (n : Int) : Lib.itoa n = intL n := by
  unfold Lib.itoa intL
  split
  · rw [decDigits_numL, show n.natAbs = (-n).toNat by omega]
  · rw [decDigits_numL]

/-- The program's words, by op. -/
def wordN (j : Nat) : List UInt8 := [[], [], [118], [43], [45], [42], [47], [60], [61], [105, 110], [114, 101, 99], [102]].getD j []
/-- The program's table of words holds them. -/
def Words (w : World) : Prop := ∀ j, j < 12 → w.cell? ⟨0, j, none⟩ = some (.string (strB (wordN j)))
theorem Words.below {w w' : World} {B : Nat} (h : Words w) (hb : Below B w w') (h0 : 0 < B) : Words w' := fun j hj => (hb.cell (p := ⟨0, j, none⟩) h0).trans (h j hj)
theorem Words.at_ {w : World} (h : Words w) (j : Nat) (hj : j < 12) {l : List UInt8} (hl : wordN j = l) : w.cell? ⟨0, j, none⟩ = some (.string (strB l)) := by rw [← hl]; exact h j hj

/-- The table of powers holds them, whatever is done from block B on. -/
def Pows (B : Nat) (w : World) : Prop := Lib.TabBelow Tryd.prog B w "internal/strconv.uint64pow10" .u64 Lib.pow10Tab

/-- A row of bytes of the call's own. -/
def Bytes (w : World) (B : Nat) (v : Value) (l : List UInt8) : Prop := w.ownsRow B 5 1 v l.length (Lib.byteCells l)
theorem Bytes.alloc {w : World} {B : Nat} {v : Value} {l : List UInt8} (h : Bytes w B v l) (o : Obj) : Bytes (w.alloc o) B v l := World.ownsRow.alloc h o
theorem Bytes.nil (w : World) (B : Nat) : Bytes w B (.slice none 0 0) [] := World.ownsRow_nil _ _ _ _

/-- What an append of bytes leaves. -/
def Put (B : Nat) (l : List UInt8) (w : World) (e : Ending) (w' : World) : Prop := ∃ v', e = .returned v' ∧ Bytes w' B v' l ∧ Below B w w'

theorem Tryd.info5 : (Tryd.prog.info? 5).map (fun i => (i.zero, i.size, i.bytes)) = some (some (.int .u8 0), 1, 1) := by kernel_rfl

theorem strCells_strB (l : List UInt8) : Lib.strCells (strB l) = Lib.byteCells l := rfl

/-- 'append(b, s...)', s a text. -/
theorem wpList_append_text {w : World} {ops : Array Oper} {rest : List Oper} {o : Oper} {a : Act} {Q : Exit → Act → World → Prop} (hgd : o.guard = none) (sl x : Operand)
    (ho : o.op = .call { callee := .builtin .append, args := #[sl, x], argTypes := #[48, 9] }) (B : Nat) (v : Value) (l s : List UInt8) (hs : a.eval sl = v) (hx : a.eval x = .string (strB s)) (w0 : World) (hbel : Below B w0 w) (hB : B ≤ w.heap.size) (hown : Bytes w B v l) (hlen : l.length ≤ 1000000) (hlen2 : s.length ≤ 1000000)
    (h : ∀ v' w', Bytes w' B v' (l ++ s) → Below B w0 w' → w.grownBy w' v.ownBlock → wpList Tryd.prog ops Q rest (a.put o.dst v') w') : wpList Tryd.prog ops Q (o :: rest) a w := by
  obtain ⟨i0, hi, hz0, hz1, hz2⟩ := info_parts Tryd.info5
  have hsz := strB_size s
  refine Lib.wpList_append_own_string w hgd sl x 48 9 ho B 5 i0 Tryd.underlying48 Tryd.underlying9 hi hz0 hz1 hz2 v l.length _ hs hown (strB s) hx (by unfold maxLen; omega) (by omega) hB ?_
  intro v' w' h1 h2 _
  refine h v' w' ?_ (hbel.grown h2 hB fun j hj => (World.ownsRow.lt hown j hj).1) h2
  unfold Bytes
  rw [hsz, strCells_strB] at h1
  simpa [Lib.byteCells] using h1

/-- What was made behind a row of the call's own stays while the row grows. -/
theorem kept_behind {w w' : World} {B : Nat} {v : Value} {l : List UInt8} {o : Obj} (hown : Bytes w B v l) (hg : (w.alloc o).grownBy w' v.ownBlock) : ∀ j, w'.cell? ⟨w.heap.size, j, none⟩ = (w.alloc o).cell? ⟨w.heap.size, j, none⟩ := by
  intro j
  refine World.cell?_of_block (hg.block w.heap.size (by simp) fun e => ?_)
  have := (World.ownsRow.lt hown _ e.symm).2
  omega

end Go.Proofs.YtfdijeeilfhjeaaDoor

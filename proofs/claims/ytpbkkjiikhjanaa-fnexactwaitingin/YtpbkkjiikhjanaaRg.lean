/-
  What a range over a function's body keeps: rows of one type apart from the rest; a number appended there; boxes that are read backward.
-/
import Derived.Test.YtpbkkjiikhjanaaRange
import Derived.Test.YtpbkkjiikhjanaaWw
import Derived.RangeFuncCalls
import Derived.Maps.OwnIn
import Derived.Shelf.Abstract
import Derived.Shelf.RegionOpen
import Derived.WalkKit
import Derived.OwnWalkIn
import Derived.TacticsInMore
import Derived.LoopNIn
import Derived.LoopIn
namespace Go.Proofs.Ytpbkkjiikhjanaa
open Go.RowKit Go.Shelf Exs
attribute [local go_sem] Oper.semAt_some

/-- A block of another type than a row's is not where that row lies. -/
theorem apart {w : World} {B e size n : Nat} {v : Value} {xs : List Value} (h : w.ownsRow B e size v n xs) {g : Nat} {cs : Array Value} {t : TypeId} {fz : Nat × Nat} (hg : w.heap[g]? = some (.cells cs t fz)) (ht : t ≠ e) : some g ≠ v.ownBlock := by
  rcases h.2 with ⟨rfl, _⟩ | ⟨g', cap, cur, rfl, _, hh, _⟩
  · exact fun e => by cases e
  · intro e1
    have e2 : g = g' := by injection e1
    subst e2
    rw [hg] at hh
    injection hh with hh
    injection hh with _ hh _
    exact ht hh
theorem Keep.apart {w w' : World} {B e size n : Nat} {v : Value} {xs : List Value} {g : Nat} {cs : Array Value} {t : TypeId} (h : Keep w g cs t) (hg : w.grownBy w' v.ownBlock) (ho : w.ownsRow B e size v n xs) (ht : t ≠ e) : Keep w' g cs t := (hg.block g h.lt (Go.Proofs.Ytpbkkjiikhjanaa.apart ho h ht)).trans h
theorem ownsRow_apart {w w' : World} {B e size n B' e' size' n' : Nat} {v v' : Value} {xs xs' : List Value} (h : w.ownsRow B e size v n xs) (hg : w.grownBy w' v'.ownBlock) (ho : w.ownsRow B' e' size' v' n' xs') (ht : e ≠ e') : w'.ownsRow B e size v n xs := by
  refine ⟨h.1, ?_⟩
  rcases h.2 with h0 | ⟨g, cap, cur, hv, hB, hh, r⟩
  · exact .inl h0
  · exact .inr ⟨g, cap, cur, hv, hB, (hg.block g (Array.getElem?_eq_some_iff.1 hh).1 (apart ho hh ht)).trans hh, r⟩

theorem slice_of {w : World} {B e size n : Nat} {v : Value} {xs : List Value} (h : w.ownsRow B e size v n xs) : ∃ A n c, v = .slice A n c := by
  rcases h.2 with ⟨rfl, _⟩ | ⟨g, cap, cur, rfl, _⟩
  · exact ⟨_, _, _, rfl⟩
  · exact ⟨_, _, _, rfl⟩
theorem row_cells {w : World} {B e size n : Nat} {v : Value} {xs : List Value} (h : w.ownsRow B e size v n xs) : ∀ (j : Nat) (o : Obj), v.ownBlock = some j → w.heap[j]? = some o → o.isCells = true := fun j o hj ho => by
  rcases h.2 with ⟨rfl, _⟩ | ⟨g, cap, cur, rfl, _, hg, _⟩
  · cases hj
  · have e : g = j := by simpa [Value.ownBlock] using hj
    subst e
    rw [hg] at ho
    injection ho with ho
    subst ho
    rfl
/-- Whatever is no row of one type lies as it lay. -/
def Same (e : TypeId) (W W' : World) : Prop := ∀ (b : Nat) (cs : Array Value) (t : TypeId) (fz : Nat × Nat), W.heap[b]? = some (Obj.cells cs t fz) → t ≠ e → W'.heap[b]? = W.heap[b]?
theorem Same.keep {e : TypeId} {W W' : World} {g : Nat} {cs : Array Value} {t : TypeId} (h : Same e W W') (hk : Keep W g cs t) (ht : t ≠ e) : Keep W' g cs t := (h g cs t (0, 0) hk ht).trans hk
theorem Same.row {e : TypeId} {W W' : World} {B t size n : Nat} {v : Value} {xs : List Value} (h : Same e W W') (hr : W.ownsRow B t size v n xs) (ht : t ≠ e) : W'.ownsRow B t size v n xs := by
  refine ⟨hr.1, ?_⟩
  rcases hr.2 with h0 | ⟨g, cap, cur, hv, hB, hh, r⟩
  · exact .inl h0
  · exact .inr ⟨g, cap, cur, hv, hB, (h g _ _ _ hh ht).trans hh, r⟩
theorem Same.set {W : World} {g : Nat} {cs : Array Value} {t : TypeId} (hk : Keep W g cs t) (i : Nat) (v : Value) : Same t W (W.setCell ⟨g, i, none⟩ v) := fun b cs' t' fz hb ht => Below.heap_setCell W _ v b (fun e => by
  have e : b = g := e
  subst e
  have hk : W.heap[b]? = _ := hk
  rw [hk] at hb
  injection hb with hb
  injection hb with _ hb _
  exact ht hb.symm)
theorem Same.grown {W W' : World} {B e size n : Nat} {v : Value} {xs : List Value} (hg : W.grownBy W' v.ownBlock) (ho : W.ownsRow B e size v n xs) : Same e W W' := fun b _ _ _ hb ht => hg.block b (Array.getElem?_eq_some_iff.1 hb).1 (apart ho hb ht)
theorem Same.below {e : TypeId} {W W' : World} (hb : Below W.heap.size W W') : Same e W W' := fun b _ _ _ h _ => hb.block b (Array.getElem?_eq_some_iff.1 h).1
theorem Same.trans {e : TypeId} {A B C : World} (h : Same e A B) (k : Same e B C) : Same e A C := fun b cs t fz hb ht => by
  have h1 := h b cs t fz hb ht
  exact (k b cs t fz (h1.trans hb) ht).trans h1
theorem Same.own {W W' : World} {row : Option Nat} (hg : W.grownBy W' row) (hr : ∀ r, row = some r → ∃ o : Obj, W.heap[r]? = some o ∧ o.isCells = false) : Same 1000000 W W' := fun b _ _ _ hb _ => hg.block b (Array.getElem?_eq_some_iff.1 hb).1 (fun e => by
  obtain ⟨o, ho, hc⟩ := hr b e.symm
  rw [hb] at ho
  injection ho with ho
  subst ho
  cases hc)


theorem wpListIn_num {F : Fence} {nF : Nat} {w : World} {ops : Array Oper} {rest : List Oper} {o : Oper} {a : Act} {Q : Exit → Act → World → Prop} (hgd : o.guard = none) (s x : Operand)
    (ho : o.op = .call { callee := .builtin .append, args := #[s, x], argTypes := #[23, 23] }) (B : Nat) (v : Value) (ts : List Int) (hs : a.eval s = v) (hB : B ≤ w.heap.size) (hown : Nums w B 3 .i64 v ts)
    (g : Nat) (p : Int) (hx : a.eval x = .slice (some ⟨g, 0, none⟩) 1 1) (hc : w.cell? ⟨g, 0, none⟩ = some (.int .i64 p)) (hlen : ts.length ≤ 2000000)
    (h : ∀ v' w', Nums w' B 3 .i64 v' (ts ++ [p]) → w.grownBy w' v.ownBlock → wpListIn F nF Try.prog ops Q rest (a.put o.dst v') w') : wpListIn F nF Try.prog ops Q (o :: rest) a w := by
  obtain ⟨i0, hi, hz0, hz1, hz2⟩ := info_parts Try.info3
  refine wpListIn_append_own_at w hgd s x 23 ho B 3 i0 (.int .i64 0) 1 8 Try.underlying23 hi hz0 hz1 hz2 rfl (by decide) v ts.length _ hs hown ⟨g, 0, none⟩ 1 1 [.int .i64 p] hx rfl ?_ ?_ (by unfold maxLen; omega) (by omega) hB ?_
  · intro j u hj
    match j, hj with
    | 0, hj => simp at hj; subst hj; simpa [Addr.add] using hc
  · intro u hu; simp at hu; subst hu; rfl
  · intro v' w' h2 h3 _ _
    refine h v' w' ?_ h3
    unfold Nums
    simpa using h2
/-- A box that holds a row, and the row's values where they lie. -/
def FixV (B : Nat) (A : Option Addr) (m c : Nat) (us : List Value) (W : World) : Prop :=
  W.cell? ⟨B, 0, none⟩ = some (.slice A m c) ∧ m = us.length ∧ ∀ j u, us[j]? = some u → ∃ g o, A = some ⟨g, o, none⟩ ∧ W.cell? ⟨g, o + j, none⟩ = some u

end Go.Proofs.Ytpbkkjiikhjanaa

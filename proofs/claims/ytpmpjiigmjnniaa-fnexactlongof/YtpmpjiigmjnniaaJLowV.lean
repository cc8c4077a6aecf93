/-
  What appending a statement's code asks: a row of another named type appended; a statement's kind found by its type.
-/
import Derived.Test.YtpmpjiigmjnniaaJLowR
namespace Go.Proofs.Ytpmpjiigmjnniaa
open Go.RowKit Exs

/-- The added row's type may have a name of its own. -/
theorem append_types (ty : TypeId) (v x : Value) (w : World) : (Builtin.append_ #[36, 113] ty #[v, x]).run Try.prog w = (Builtin.append_ #[36, 36] ty #[v, x]).run Try.prog w := by
  cases v <;> simp [Builtin.append_, run_underlying Try.underlying36, run_underlying Try.underlying113]

theorem wpList_append_plain {w : World} {ops : Array Oper} {rest : List Oper} {o : Oper} {a : Act} {Q : Exit → Act → World → Prop} (hgd : o.guard = none) (s x : Operand)
    (ho : o.op = .call { callee := .builtin .append, args := #[s, x], argTypes := #[36, 113] }) (B : Nat) (v : Value) (ts : List Token) (hs : a.eval s = v) (hB : B ≤ w.heap.size) (hown : Inss w B v ts)
    (B' : Nat) (u : Value) (us : List Token) (hx : a.eval x = u) (hu : Inss w B' u us) (hlen : ts.length ≤ 1000000) (hlen' : us.length ≤ 1000000)
    (h : ∀ v' w', Inss w' B v' (ts ++ us) → Below B w w' → w.grownBy w' v.ownBlock → wpList Try.prog ops Q rest (a.put o.dst v') w') : wpList Try.prog ops Q (o :: rest) a w := by
  obtain ⟨i0, hi, hz0, hz1, hz2⟩ := info_parts Try.info69
  rcases hu.2 with ⟨rfl, h0⟩ | ⟨g, cap, cur, rfl, _⟩
  · obtain rfl : us = [] := List.eq_nil_of_length_eq_zero h0
    refine wpList_plain hgd fun K hK => ?_
    have hrun := run_append_owned_none (P := Try.prog) (w := w) B 36 o.type 69 i0 2 Try.underlying36 hi v ts.length _ hown
    unfold Oper.wp
    simp [execOp, ho, resolve, invoke, builtin, hs, hx, append_types, hrun, Result.andThen]
    exact hK _ _ (h _ _ (by simpa using hown) (Below.refl _ _) (World.grownBy.refl _ _))
  · refine wpList_plain hgd fun K hK => ?_
    obtain ⟨v', w', hr, h2, h3, h4⟩ := run_append_own (P := Try.prog) w B 36 o.type 69 i0 (.agg #[.int .i64 0, .int .i64 0]) 2 16 Try.underlying36 hi hz0 hz1 hz2 rfl (by decide) v ts.length _ hown ⟨g, 0, none⟩ us.length cap ((flat us).map (Value.int .i64)) (by rw [List.length_map, flat_length]; omega)
      (fun j y hj => by
        have hadd : (⟨g, 0, none⟩ : Addr).add j = ⟨g, j, none⟩ := by unfold Addr.add; split <;> simp_all
        have hjl : j < us.length * 2 := by have := (List.getElem?_eq_some_iff.1 hj).1; rw [List.length_map, flat_length] at this; omega
        rw [hadd, World.ownsRow.cellAt hu j hjl, hj])
      (fun y hy => by obtain ⟨z, _, rfl⟩ := List.mem_map.1 hy; rfl) (by unfold maxLen; omega) (by omega) hB
    unfold Oper.wp execOp
    simp only [ho, resolve, invoke, builtin, Sem.run_bind, Sem.run_pure, Result.andThen_ok, List.map_toArray, List.map_cons, List.map_nil, hs, hx, append_types, hr]
    refine hK _ _ (h v' w' ?_ ((Below.refl B w).grown h3 hB fun j hj => (World.ownsRow.lt hown j hj).1) h3)
    unfold Inss
    have e : flat (ts ++ us) = flat ts ++ flat us := by simp [flat]
    rw [e, List.map_append, List.length_append]
    exact h2

theorem is_plain (v : Value) (w : World) : (Instr.typeAssert (.iface 113 v) 97 113 true).run Try.prog w = .ok (.tuple #[v, .bool true]) w := by kernel_rfl
theorem if_plain (v : Value) (w : World) : (Instr.typeAssert (.iface 115 v) 97 113 true).run Try.prog w = .ok (.tuple #[.slice none 0 0, .bool false]) w := by kernel_rfl
theorem whl_plain (v : Value) (w : World) : (Instr.typeAssert (.iface 117 v) 97 113 true).run Try.prog w = .ok (.tuple #[.slice none 0 0, .bool false]) w := by kernel_rfl
theorem is_if (v : Value) (w : World) : (Instr.typeAssert (.iface 115 v) 97 115 true).run Try.prog w = .ok (.tuple #[v, .bool true]) w := by kernel_rfl
theorem whl_if (v : Value) (w : World) : (Instr.typeAssert (.iface 117 v) 97 115 true).run Try.prog w = .ok (.tuple #[.agg #[.slice none 0 0, .slice none 0 0, .slice none 0 0], .bool false]) w := by kernel_rfl
theorem is_whl (v : Value) (w : World) : (Instr.typeAssert (.iface 117 v) 97 117 true).run Try.prog w = .ok (.tuple #[v, .bool true]) w := by kernel_rfl

/-- Blocks that are no row of instructions are as they were. -/
def RestSame (w w' : World) : Prop := ∀ (b : Nat) (cs : Array Value) (t : TypeId) (fz : Nat × Nat), w.heap[b]? = some (Obj.cells cs t fz) → t ≠ 69 → w'.heap[b]? = w.heap[b]?
theorem RestSame.refl (w : World) : RestSame w w := fun _ _ _ _ _ _ => rfl
theorem RestSame.trans {a b c : World} (h : RestSame a b) (h' : RestSame b c) : RestSame a c := fun k cs t fz hk ht => by
  have e := h k cs t fz hk ht
  exact (h' k cs t fz (e.trans hk) ht).trans e
theorem RestSame.keep {a b : World} {g : Nat} {cs : Array Value} {t : TypeId} (h : RestSame a b) (hk : Keep a g cs t) (ht : t ≠ 69) : Keep b g cs t := (h g cs t _ hk ht).trans hk
theorem RestSame.grown {w w' : World} {B : Nat} {v : Value} {ts : List Token} (h : Inss w B v ts) (hg : w.grownBy w' v.ownBlock) : RestSame w w' := fun k cs t fz hk ht => by
  refine hg.block k (Array.getElem?_eq_some_iff.1 hk).1 fun he => ?_
  rcases h.2 with ⟨rfl, _⟩ | ⟨g, cap, cur, rfl, _, hh, _⟩
  · simp [Value.ownBlock] at he
  · simp [Value.ownBlock] at he
    subst he
    rw [hh] at hk
    injection hk with e
    injection e with _ e2 _
    exact ht e2.symm
theorem RestSame.of_below {w w' : World} (h : Below w.heap.size w w') : RestSame w w' := fun k _ _ _ hk _ => h.block k (Array.getElem?_eq_some_iff.1 hk).1

end Go.Proofs.Ytpmpjiigmjnniaa

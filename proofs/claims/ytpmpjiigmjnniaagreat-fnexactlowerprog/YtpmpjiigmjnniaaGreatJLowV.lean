/-
  Texts joined: LowV LowW.
-/
import Derived.Test.YtpmpjiigmjnniaaGreatJLowR
/-
  What appending a statement's code asks: a row of another named type appended; a statement's kind found by its type.
-/
namespace Go.Proofs.YtpmpjiigmjnniaaGreat
open Go.RowKit Exs

/-- The added row's type may have a name of its own. -/
theorem append_types (ty : TypeId) (v x : Value) (w : World) : (Builtin.append_ #[27, 130] ty #[v, x]).run Tryz.prog w = (Builtin.append_ #[27, 27] ty #[v, x]).run Tryz.prog w := by
  cases v <;> simp [Builtin.append_, run_underlying Tryz.underlying27, run_underlying Tryz.underlying130]

theorem wpList_append_plain {w : World} {ops : Array Oper} {rest : List Oper} {o : Oper} {a : Act} {Q : Exit → Act → World → Prop} (hgd : o.guard = none) (s x : Operand)
    (ho : o.op = .call { callee := .builtin .append, args := #[s, x], argTypes := #[27, 130] }) (B : Nat) (v : Value) (ts : List Token) (hs : a.eval s = v) (hB : B ≤ w.heap.size) (hown : Inss w B v ts)
    (B' : Nat) (u : Value) (us : List Token) (hx : a.eval x = u) (hu : Inss w B' u us) (hlen : ts.length ≤ 1000000) (hlen' : us.length ≤ 1000000)
    (h : ∀ v' w', Inss w' B v' (ts ++ us) → Below B w w' → w.grownBy w' v.ownBlock → wpList Tryz.prog ops Q rest (a.put o.dst v') w') : wpList Tryz.prog ops Q (o :: rest) a w := by
  obtain ⟨i0, hi, hz0, hz1, hz2⟩ := info_parts Tryz.info83
  rcases hu.2 with ⟨rfl, h0⟩ | ⟨g, cap, cur, rfl, _⟩
  · obtain rfl : us = [] := List.eq_nil_of_length_eq_zero h0
    refine wpList_plain hgd fun K hK => ?_
    have hrun := run_append_owned_none (P := Tryz.prog) (w := w) B 27 o.type 83 i0 2 Tryz.underlying27 hi v ts.length _ hown
    unfold Oper.wp
    simp [execOp, ho, resolve, invoke, builtin, hs, hx, append_types, hrun, Result.andThen]
    exact hK _ _ (h _ _ (by simpa using hown) (Below.refl _ _) (World.grownBy.refl _ _))
  · refine wpList_plain hgd fun K hK => ?_
    obtain ⟨v', w', hr, h2, h3, h4⟩ := run_append_own (P := Tryz.prog) w B 27 o.type 83 i0 (.agg #[.int .i64 0, .int .i64 0]) 2 16 Tryz.underlying27 hi hz0 hz1 hz2 rfl (by decide) v ts.length _ hown ⟨g, 0, none⟩ us.length cap ((flat us).map (Value.int .i64)) (by rw [List.length_map, flat_length]; omega)
      (fun j y hj => by
        have hadd : (⟨g, 0, none⟩ : Addr).add j = ⟨g, j, none⟩ := by unfold Addr.add; split <;> simp_all
        have hjl : j < us.length * 2 := by have := (List.getElem?_eq_some_iff.1 hj).1; rw [List.length_map, flat_length] at this; omega
        rw [hadd, World.ownsRow.cellAt hu j hjl, hj])
      (fun y hy => by obtain ⟨z, _, rfl⟩ := List.mem_map.1 hy; rfl) (by unfold maxLen; omega) (by omega) hB
    unfold Oper.wp execOp
    simp only [ho, resolve, invoke, builtin, Sem.run_bind, Sem.run_pure, Result.andThen_ok, List.map_toArray, List.map_cons, List.map_nil, hs, hx, append_types, hr]
    refine hK _ _ (h v' w' ?_ ((Below.refl B w).grown h3 hB fun j hj => (World.ownsRow.lt hown j hj).1) h3)
    unfold Inss
    have e : flat (ts ++ us) = flat ts ++ flat us := by simp [flat]
    rw [e, List.map_append, List.length_append]
    exact h2

theorem is_plain (v : Value) (w : World) : (Instr.typeAssert (.iface 130 v) 110 130 true).run Tryz.prog w = .ok (.tuple #[v, .bool true]) w := by kernel_rfl
theorem if_plain (v : Value) (w : World) : (Instr.typeAssert (.iface 132 v) 110 130 true).run Tryz.prog w = .ok (.tuple #[.slice none 0 0, .bool false]) w := by kernel_rfl
theorem whl_plain (v : Value) (w : World) : (Instr.typeAssert (.iface 134 v) 110 130 true).run Tryz.prog w = .ok (.tuple #[.slice none 0 0, .bool false]) w := by kernel_rfl
theorem is_if (v : Value) (w : World) : (Instr.typeAssert (.iface 132 v) 110 132 true).run Tryz.prog w = .ok (.tuple #[v, .bool true]) w := by kernel_rfl
theorem whl_if (v : Value) (w : World) : (Instr.typeAssert (.iface 134 v) 110 132 true).run Tryz.prog w = .ok (.tuple #[.agg #[.slice none 0 0, .slice none 0 0, .slice none 0 0], .bool false]) w := by kernel_rfl
theorem is_whl (v : Value) (w : World) : (Instr.typeAssert (.iface 134 v) 110 134 true).run Tryz.prog w = .ok (.tuple #[v, .bool true]) w := by kernel_rfl

/-- Blocks that are no row of instructions are as they were. -/
def RestSame (w w' : World) : Prop := ∀ (b : Nat) (cs : Array Value) (t : TypeId) (fz : Nat × Nat), w.heap[b]? = some (Obj.cells cs t fz) → t ≠ 83 → w'.heap[b]? = w.heap[b]?
theorem RestSame.refl (w : World) : RestSame w w := fun _ _ _ _ _ _ => rfl
theorem RestSame.trans {a b c : World} (h : RestSame a b) (h' : RestSame b c) : RestSame a c := fun k cs t fz hk ht => by
  have e := h k cs t fz hk ht
  exact (h' k cs t fz (e.trans hk) ht).trans e
theorem RestSame.keep {a b : World} {g : Nat} {cs : Array Value} {t : TypeId} (h : RestSame a b) (hk : Keep a g cs t) (ht : t ≠ 83) : Keep b g cs t := (h g cs t _ hk ht).trans hk
theorem RestSame.grown {w w' : World} {B : Nat} {v : Value} {ts : List Token} (h : Inss w B v ts) (hg : w.grownBy w' v.ownBlock) : RestSame w w' := fun k cs t fz hk ht => by
  refine hg.block k (Array.getElem?_eq_some_iff.1 hk).1 fun he => ?_
  rcases h.2 with ⟨rfl, _⟩ | ⟨g, cap, cur, rfl, _, hh, _⟩
  · simp [Value.ownBlock] at he
  · simp [Value.ownBlock] at he
    subst he
    rw [hh] at hk
    injection hk with e
    injection e with _ e2 _
    exact ht e2.symm
theorem RestSame.of_below {w w' : World} (h : Below w.heap.size w w') : RestSame w w' := fun k _ _ _ hk _ => h.block k (Array.getElem?_eq_some_iff.1 hk).1

end Go.Proofs.YtpmpjiigmjnniaaGreat

/-
  appendStmt: the code of a statement written behind a row.
-/
namespace Go.Proofs.YtpmpjiigmjnniaaGreat
open Go.RowKit Exs

set_option maxHeartbeats 1000000 in
set_option maxRecDepth 100000 in
theorem appPlain_any (B : Nat) (v : Value) (O : List Token) (u : Value) (c : List Token) (S : Nat → Prop) (w : World) (hv : Inss w B v O) (hu : InsAt w S u c) (hB : B ≤ w.heap.size) (hl : O.length + c.length ≤ 100000) :
    Calls Tryz.prog 70 #[v, .iface 130 u] w fun e w' => ∃ v', e = .returned v' ∧ Inss w' B v' (O ++ c) ∧ Below B w w' ∧ RestSame w w' := by
  obtain ⟨A, cap, rfl, _⟩ := hv.reads
  have hm1 := method_plain
  have ha1 := is_plain
  have HC := put (plainLong_any u c S w hu)
  have hw1 : IntKind.i64.wrap ((O.length : Int) + (c.length : Int)) = ((O.length + c.length : Nat) : Int) := IntWalk.i64_in _ ⟨by omega, by omega⟩
  have hu1 := hu.1
  have hl1 : O.length ≤ 1000000 := by omega
  have hl2 : c.length ≤ 1000000 := by omega
  clear hu hl
  go_enter Tryz.func70, Tryz.ntmps70
  go_wp2_with (first
    | (go_at_call 129; refine HC.out.mono ?_; rintro e w1 ⟨rfl, rfl⟩)
    | (at_builtin; refine wpList_append_plain rfl _ _ rfl B _ O rfl hB hv 0 u c rfl hu1 hl1 hl2 ?_; intro v2 w2 hown2 hbel2 hgr2; replace hgr2 : w1.grownBy w2 (Value.slice A O.length cap).ownBlock := hgr2))
  go_ret
  exact ⟨v2, rfl, hown2, hbel2, RestSame.grown hv hgr2⟩

/-- What 'appendBlock' answers of a block, in worlds whose elder part is as it was. -/
def AppB (B : Nat) (w : World) (A : Option Addr) (n c : Nat) (b : Lo) : Prop := ∀ (W : World) (v : Value) (O : List Token), Below B w W → Inss W B v O → O.length + b.long ≤ 100000 →
  Calls Tryz.prog 49 #[v, .slice A n c] W fun e w' => ∃ v', e = .returned v' ∧ Inss w' B v' (O ++ b.emit O.length) ∧ Below B W w' ∧ RestSame W w'
theorem if_emit (O e : List Token) (t l : Lo) : (((O ++ e) ++ [(11, (O.length : Int) + ((e.length + 1 + t.long + 1 + l.long : Nat) : Int) - (l.long : Int))]) ++ t.emit (((O ++ e) ++ [(11, (O.length : Int) + ((e.length + 1 + t.long + 1 + l.long : Nat) : Int) - (l.long : Int))]).length : Nat)) ++ [(10, (O.length : Int) + ((e.length + 1 + t.long + 1 + l.long : Nat) : Int))] ++ l.emit ((O.length + e.length + 1 + t.long + 1 : Nat) : Int) = O ++ (Lo.ifs e t l .nil).emit O.length := by
  simp only [Lo.emit, List.append_assoc, List.append_nil, List.length_append, List.length_cons, List.length_nil]
  rw [show ((O.length + (e.length + (0 + 1)) : Nat) : Int) = (O.length : Int) + (e.length : Int) + 1 by omega, show ((O.length + e.length + 1 + t.long + 1 : Nat) : Int) = (O.length : Int) + (e.length : Int) + 1 + (t.long : Int) + 1 by omega]

theorem whl_emit (O e : List Token) (t : Lo) : (((O ++ e) ++ [(11, (O.length : Int) + ((e.length + 1 + t.long + 1 : Nat) : Int))]) ++ t.emit (((O ++ e) ++ [(11, (O.length : Int) + ((e.length + 1 + t.long + 1 : Nat) : Int))]).length : Nat)) ++ [(10, (O.length : Int))] = O ++ (Lo.whl e t .nil).emit O.length := by
  simp only [Lo.emit, List.append_assoc, List.append_nil, List.length_append, List.length_cons, List.length_nil]
  rw [show ((O.length + (e.length + (0 + 1)) : Nat) : Int) = (O.length : Int) + (e.length : Int) + 1 by omega]

end Go.Proofs.YtpmpjiigmjnniaaGreat

/-
  appendStmt: the code of a statement written behind a row.
-/
import Derived.Test.YtpmpjiigmjnniaaJLowV
namespace Go.Proofs.Ytpmpjiigmjnniaa
open Go.RowKit Exs

set_option maxHeartbeats 1000000 in
set_option maxRecDepth 100000 in
theorem appPlain_any (B : Nat) (v : Value) (O : List Token) (u : Value) (c : List Token) (S : Nat → Prop) (w : World) (hv : Inss w B v O) (hu : InsAt w S u c) (hB : B ≤ w.heap.size) (hl : O.length + c.length ≤ 100000) :
    Calls Try.prog 50 #[v, .iface 113 u] w fun e w' => ∃ v', e = .returned v' ∧ Inss w' B v' (O ++ c) ∧ Below B w w' ∧ RestSame w w' := by
  obtain ⟨A, cap, rfl, _⟩ := hv.reads
  have hm1 := method_plain
  have ha1 := is_plain
  have HC := put (plainLong_any u c S w hu)
  have hw1 : IntKind.i64.wrap ((O.length : Int) + (c.length : Int)) = ((O.length + c.length : Nat) : Int) := IntWalk.i64_in _ ⟨by omega, by omega⟩
  have hu1 := hu.1
  have hl1 : O.length ≤ 1000000 := by omega
  have hl2 : c.length ≤ 1000000 := by omega
  clear hu hl
  go_enter Try.func50, Try.ntmps50
  go_wp2_with (first
    | (go_at_call 105; refine HC.out.mono ?_; rintro e w1 ⟨rfl, rfl⟩)
    | (at_builtin; refine wpList_append_plain rfl _ _ rfl B _ O rfl hB hv 0 u c rfl hu1 hl1 hl2 ?_; intro v2 w2 hown2 hbel2 hgr2; replace hgr2 : w1.grownBy w2 (Value.slice A O.length cap).ownBlock := hgr2))
  go_ret
  exact ⟨v2, rfl, hown2, hbel2, RestSame.grown hv hgr2⟩

/-- What 'appendBlock' answers of a block, in worlds whose elder part is as it was. -/
def AppB (B : Nat) (w : World) (A : Option Addr) (n c : Nat) (b : Lo) : Prop := ∀ (W : World) (v : Value) (O : List Token), Below B w W → Inss W B v O → O.length + b.long ≤ 100000 →
  Calls Try.prog 33 #[v, .slice A n c] W fun e w' => ∃ v', e = .returned v' ∧ Inss w' B v' (O ++ b.emit O.length) ∧ Below B W w' ∧ RestSame W w'
theorem if_emit (O e : List Token) (t l : Lo) : (((O ++ e) ++ [(11, (O.length : Int) + ((e.length + 1 + t.long + 1 + l.long : Nat) : Int) - (l.long : Int))]) ++ t.emit (((O ++ e) ++ [(11, (O.length : Int) + ((e.length + 1 + t.long + 1 + l.long : Nat) : Int) - (l.long : Int))]).length : Nat)) ++ [(10, (O.length : Int) + ((e.length + 1 + t.long + 1 + l.long : Nat) : Int))] ++ l.emit ((O.length + e.length + 1 + t.long + 1 : Nat) : Int) = O ++ (Lo.ifs e t l .nil).emit O.length := by
  simp only [Lo.emit, List.append_assoc, List.append_nil, List.length_append, List.length_cons, List.length_nil]
  rw [show ((O.length + (e.length + (0 + 1)) : Nat) : Int) = (O.length : Int) + (e.length : Int) + 1 by omega, show ((O.length + e.length + 1 + t.long + 1 : Nat) : Int) = (O.length : Int) + (e.length : Int) + 1 + (t.long : Int) + 1 by omega]

theorem whl_emit (O e : List Token) (t : Lo) : (((O ++ e) ++ [(11, (O.length : Int) + ((e.length + 1 + t.long + 1 : Nat) : Int))]) ++ t.emit (((O ++ e) ++ [(11, (O.length : Int) + ((e.length + 1 + t.long + 1 : Nat) : Int))]).length : Nat)) ++ [(10, (O.length : Int))] = O ++ (Lo.whl e t .nil).emit O.length := by
  simp only [Lo.emit, List.append_assoc, List.append_nil, List.length_append, List.length_cons, List.length_nil]
  rw [show ((O.length + (e.length + (0 + 1)) : Nat) : Int) = (O.length : Int) + (e.length : Int) + 1 by omega]

end Go.Proofs.Ytpmpjiigmjnniaa

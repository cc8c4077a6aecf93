/-
  Contracts of the reference's ExprText.
-/
import Derived.Test.YtnpmokkifffihaaDoorSText
namespace Go.Proofs.YtnpmokkifffihaaDoor
open Go.RowKit Exs
set_option linter.unusedVariables false

theorem joinL_snoc : ∀ (ws : List (List UInt8)) (v : List UInt8), ws ≠ [] → joinL (ws ++ [v]) = joinL ws ++ [32] ++ v
  | [w], v, _ => by simp [joinL]
  | w :: u :: ws, v, _ => by
    have ih := joinL_snoc (u :: ws) v (by simp)
    simp only [List.cons_append] at ih ⊢
    rw [joinL, ih, joinL]
    simp

/-- The text of the first tokens. -/
def textK (ts : List Token) (k : Nat) : List UInt8 := textL (ts.take k)
theorem textK_zero (ts : List Token) : textK ts 0 = [] := rfl
theorem textK_one {ts : List Token} {op x : Int} (h : ts[0]? = some (op, x)) : textK ts 1 = textK ts 0 ++ tokL (op, x) := by
  unfold textK; rw [takeT_more h]; simp [textL, joinL]
theorem textK_more {ts : List Token} {k : Nat} {op x : Int} (h : ts[k]? = some (op, x)) (hk : 0 < k) : textK ts (k + 1) = textK ts k ++ [32] ++ tokL (op, x) := by
  unfold textK textL
  rw [takeT_more h, List.map_append, List.map_cons, List.map_nil, joinL_snoc]
  have := (List.getElem?_eq_some_iff.1 h).1
  intro e
  have h2 := congrArg List.length e
  rw [List.length_map, List.length_take, List.length_nil] at h2
  omega
theorem textK_all {ts : List Token} {k : Nat} (h : ts.length ≤ k) : textK ts k = textL ts := by unfold textK; rw [List.take_of_length_le h]

/-- Whether all tokens have the form of one. -/
def toksB (ts : List Token) : Bool := ts.all fun t => tokB t.1 t.2
theorem toksB_more {ts : List Token} {k : Nat} {op x : Int} (h : ts[k]? = some (op, x)) (ha : toksB (ts.take k) = true) (hx : tokB op x = true) : toksB (ts.take (k + 1)) = true := by
  rw [takeT_more h]; unfold toksB at *; rw [List.all_append, ha]; simp [hx]
theorem toksB_no {ts : List Token} {k : Nat} {op x : Int} (h : ts[k]? = some (op, x)) (hx : tokB op x = false) : toksB ts = false := by
  unfold toksB
  rw [List.all_eq_false]
  exact ⟨_, List.mem_of_getElem? h, by simp [hx]⟩
theorem toksB_at {ts : List Token} {k : Nat} {op x : Int} (h : ts[k]? = some (op, x)) (ha : toksB ts = true) : tokB op x = true := by
  cases hx : tokB op x with
  | true => rfl
  | false => rw [toksB_no h hx] at ha; cases ha

/-- What ExprText answers. -/
def textAns (ts : List Token) : List UInt8 × Bool := if toksB ts && within ts.length 1 12 then (textL ts, true) else ([], false)
theorem textAns_yes {ts : List Token} (h1 : toksB ts = true) (h2 : within ts.length 1 12 = true) : textAns ts = (textL ts, true) := by simp [textAns, h1, h2]
theorem textAns_no {ts : List Token} (h : toksB ts = false ∨ within ts.length 1 12 = false) : textAns ts = ([], false) := by rcases h with h | h <;> simp [textAns, h]

theorem ret_str {a b : List UInt8} (h : a = b) : Ending.returned (.string (strB a)) = .returned (.string (strB b)) := by rw [h]
theorem ret_text {a a' : List UInt8} {b b' : Bool} (h : (a, b) = (a', b')) : Ending.returned (.tuple #[.string (strB a), .bool b]) = .returned (.tuple #[.string (strB a'), .bool b']) := by cases h; rfl

end Go.Proofs.YtnpmokkifffihaaDoor

/-
  Contracts of the reference's ExprText.
-/
import Derived.Test.YtfdijeeilfhjeaaDoorSText
namespace Go.Proofs.YtfdijeeilfhjeaaDoor
open Go.RowKit Exs
set_option linter.unusedVariables false

theorem joinL_snoc : ∀ (ws : List (List UInt8)) (v : List UInt8), ws ≠ [] → joinL (ws ++ [v]) = joinL ws ++ [32] ++ v
  | [w], v, _ => by simp [joinL]
  | w :: u :: ws, v, _ => by
    have ih := joinL_snoc (u :: ws) v (by simp)
    simp only [List.cons_append] at ih ⊢
    rw [joinL, ih, joinL]
    simp

/-- The text of the first tokens. -/
def textK (ts : List Token) (k : Nat) : List UInt8 := textL (ts.take k)
theorem textK_zero (ts : List Token) : textK ts 0 = [] := rfl
theorem textK_one {ts : List Token} {op x : Int} (h : ts[0]? = some (op, x)) : textK ts 1 = textK ts 0 ++ tokL (op, x) := by
  unfold textK; rw [takeT_more h]; simp [textL, joinL]
theorem textK_more {ts : List Token} {k : Nat} {op x : Int} (h : ts[k]? = some (op, x)) (hk : 0 < k) : textK ts (k + 1) = textK ts k ++ [32] ++ tokL (op, x) := by
  unfold textK textL
  rw [takeT_more h, List.map_append, List.map_cons, List.map_nil, joinL_snoc]
  have := (List.getElem?_eq_some_iff.1 h).1
  intro e
  have h2 := congrArg List.length e
  rw [List.length_map, List.length_take, List.length_nil] at h2
  omega
theorem textK_all {ts : List Token} {k : Nat} (h : ts.length ≤ k) : textK ts k = textL ts := by unfold textK; rw [List.take_of_length_le h]

/-- Whether all tokens have the form of one. -/
def toksB (ts : List Token) : Bool := ts.all fun t => tokB t.1 t.2
theorem toksB_more {ts : List Token} {k : Nat} {op x : Int} (h : ts[k]? = some (op, x)) (ha : toksB (ts.take k) = true) (hx : tokB op x = true) : toksB (ts.take (k + 1)) = true := by
  rw [takeT_more h]; unfold toksB at *; rw [List.all_append, ha]; simp [hx]
theorem toksB_no {ts : List Token} {k : Nat} {op x : Int} (h : ts[k]? = some (op, x)) (hx : tokB op x = false) : toksB ts = false := by
  unfold toksB
  rw [List.all_eq_false]
  exact ⟨_, List.mem_of_getElem? h, by simp [hx]⟩
theorem toksB_at {ts : List Token} {k : Nat} {op x : Int} (h : ts[k]? = some (op, x)) (ha : toksB ts = true) : tokB op x = true := by
  cases hx : tokB op x with
  | true => rfl
  | false => rw [toksB_no h hx] at ha; cases ha

/-- What ExprText answers. -/
def textAns (ts : List Token) : List UInt8 × Bool := if toksB ts && within ts.length 1 12 then (textL ts, true) else ([], false)
theorem textAns_yes {ts : List Token} (h1 : toksB ts = true) (h2 : within ts.length 1 12 = true) : textAns ts = (textL ts, true) := by simp [textAns, h1, h2]
theorem textAns_no {ts : List Token} (h : toksB ts = false ∨ within ts.length 1 12 = false) : textAns ts = ([], false) := by rcases h with h | h <;> simp [textAns, h]

theorem ret_str {a b : List UInt8} (h : a = b) : Ending.returned (.string (strB a)) = .returned (.string (strB b)) := by rw [h]
theorem ret_text {a a' : List UInt8} {b b' : Bool} (h : (a, b) = (a', b')) : Ending.returned (.tuple #[.string (strB a), .bool b]) = .returned (.tuple #[.string (strB a'), .bool b']) := by cases h; rfl

set_option maxHeartbeats 1000000 in
set_option maxRecDepth 100000 in
theorem l2Text_any (A : Option Addr) (n c : Nat) (ts : List Token) (w : World) (hr : ReadsT w w.heap.size A n ts) (hn : n ≤ 12) (hg : Hid (toksB ts = true)) :
    Calls Tryd.prog 22 #[.slice A n c] w fun e w' => e = .returned (.string (strB (textL ts))) ∧ Below w.heap.size w w' := by
  go_enter Tryd.func22, Tryd.ntmps22
  go_wp2
  go_loopw [3, 8] (fun s i wr => ∃ (k : Nat) (l : List UInt8), k ≤ n ∧ i = .int .i64 k ∧ s = .string (strB l) ∧ l.length ≤ 12 * k ∧ Hid (l = textK ts k) ∧ Below w.heap.size w wr) (fun _ i _ => n - (intOf i).toNat)
  case atStart => exact ⟨0, [], Nat.zero_le _, rfl, rfl, by simp, rfl, Below.refl _ _⟩
  case round =>
    obtain ⟨k, l, hk, rfl, rfl, hl, htx, hbel⟩ := hrel
    by_cases hlt : k < n
    · obtain ⟨b, off, op, x, rfl, hb, hc1, hc2, hx⟩ := (hr.below hbel).at_ hlt
      have ht := toksB_at hx.out hg.out
      have hlt2 := tokL_length ht
      have hs1 : (strB l).size ≤ 144 := by rw [strB_size]; omega
      have hs2 : (strB (tokL (op, x))).size ≤ 11 := by rw [strB_size]; exact hlt2
      by_cases hk0 : k = 0
      · subst hk0
        simp only [Nat.zero_mul, Nat.add_zero] at hc1 hc2
        have HN := put (show l ++ tokL (op, x) = textK ts 1 by rw [textK_one hx.out, htx.out])
        go_wp2_with fail
        refine (l2TokText_any _ _ _ ht).mono ?_
        rintro e w1 ⟨rfl, hb1⟩
        have hbw := (hbel.alloc hbel.size _).trans (hb1.mono (by have := hbel.size; simp; omega))
        clear hb1 hc1 hc2
        go_wp2
        go_roundw
        case rel => exact ⟨1, l ++ tokL (op, x), by omega, rfl, by rw [← strB_append], by simp; omega, HN, hbw⟩
        case measure => simp [intOf]; omega
      · have hk1 : 0 < k := by omega
        have hs3 : (strB l ++ strB [32]).size ≤ 145 := by rw [strB_append, strB_size]; simp; omega
        have HN := put (show l ++ [32] ++ tokL (op, x) = textK ts (k + 1) by rw [textK_more hx.out hk1, htx.out])
        go_wp2_with fail
        refine (l2TokText_any _ _ _ ht).mono ?_
        rintro e w1 ⟨rfl, hb1⟩
        have hbw := (hbel.alloc hbel.size _).trans (hb1.mono (by have := hbel.size; simp; omega))
        clear hb1 hc1 hc2
        go_wp2
        go_roundw
        case rel => exact ⟨k + 1, l ++ [32] ++ tokL (op, x), by omega, by go_num, by rw [← strB_append, ← strB_append]; rfl, by simp; omega, HN, hbw⟩
        case measure => simp [intOf]; omega
    · have HT := put (htx.out.trans (textK_all (by rw [hr.1]; omega)))
      go_wp2
      go_ret
      exact ⟨ret_str HT.out, hbel⟩

set_option maxHeartbeats 1000000 in
set_option maxRecDepth 100000 in
theorem specExprText_any (A : Option Addr) (n c : Nat) (ts : List Token) (w : World) (hr : ReadsT w w.heap.size A n ts) (hn : n ≤ 1048576) :
    Calls Tryd.prog 13 #[.slice A n c] w fun e w' => e = .returned (.tuple #[.string (strB (textAns ts).1), .bool (textAns ts).2]) ∧ Below w.heap.size w w' := by
  have hlen := put hr.1
  go_enter Tryd.func13, Tryd.ntmps13
  go_wp2
  go_loopw [8] (fun i wr => ∃ k : Nat, k ≤ n ∧ i = .int .i64 k ∧ Hid (toksB (ts.take k) = true) ∧ Below w.heap.size w wr) (fun i _ => n - (intOf i).toNat)
  case atStart => exact ⟨0, Nat.zero_le _, rfl, rfl, Below.refl _ _⟩
  case round =>
    obtain ⟨k, hk, rfl, ha, hbel⟩ := hrel
    by_cases hlt : k < n
    · obtain ⟨b, off, op, x, rfl, hb, hc1, hc2, hx⟩ := (hr.below hbel).at_ hlt
      cases ht : tokB op x with
      | true =>
        have HN := put (toksB_more hx.out ha.out ht)
        go_wp2_with fail
        refine (l2Token_any _ _ _).mono ?_
        rintro e w1 ⟨rfl, hb1⟩
        have hbw := (hbel.alloc hbel.size _).trans (hb1.mono (by have := hbel.size; simp; omega))
        clear hb1 hc1 hc2
        go_wp2
        go_roundw
        case rel => exact ⟨k + 1, by omega, by go_num, HN, hbw⟩
        case measure => simp [intOf]; omega
      | false =>
        have HF := put (textAns_no (.inl (toksB_no hx.out ht)))
        go_wp2_with fail
        refine (l2Token_any _ _ _).mono ?_
        rintro e w1 ⟨rfl, hb1⟩
        have hbw := (hbel.alloc hbel.size _).trans (hb1.mono (by have := hbel.size; simp; omega))
        clear hb1 hc1 hc2
        go_wp2
        go_ret2
        exact ⟨ret_text (by rw [HF.out]), hbw⟩
    · have hall : Hid (toksB ts = true) := by
        have h5 := ha.out
        rw [List.take_of_length_le (by rw [hr.1]; omega)] at h5
        exact put h5
      cases hw : within n 1 12 with
      | false =>
        have HF := put (textAns_no (ts := ts) (.inr (by rw [hlen.out]; exact hw)))
        go_wp2_with fail
        refine (l1In_any _ _ _ _).mono ?_
        rintro e w1 ⟨rfl, rfl⟩
        go_wp2
        go_ret2
        exact ⟨ret_text (by rw [HF.out]), hbel⟩
      | true =>
        have HF := put (textAns_yes hall.out (by rw [hlen.out]; exact hw))
        have hw2 := (within_iff _ _ _).1 hw
        go_wp2_with fail
        refine (l1In_any _ _ _ _).mono ?_
        rintro e w1 ⟨rfl, rfl⟩
        go_wp2_with fail
        refine (l2Text_any _ _ _ ts _ ((hr.below hbel).more hbel.size) (by omega) hall).mono ?_
        rintro e w2 ⟨rfl, hb2⟩
        go_wp2
        go_ret2
        exact ⟨ret_text (by rw [HF.out]), hbel.trans (hb2.mono hbel.size)⟩

end Go.Proofs.YtfdijeeilfhjeaaDoor

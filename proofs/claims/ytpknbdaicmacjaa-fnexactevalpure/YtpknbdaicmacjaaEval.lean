/-
  Contracts of EvalPure and of what it calls, of the program and of the reference.
-/
import Derived.Test.YtpknbdaicmacjaaHigh
namespace Go.Proofs.Ytpknbdaicmacjaa
open Go.RowKit Exs
set_option linter.unusedVariables false

/-- Whether a token takes an input or recovers. -/
def ask (op : Int) : Bool := op == 9 || op == 10
/-- Whether there is such a token. -/
def asks (ts : List Token) : Bool := ts.any fun t => ask t.1

theorem asks_more {ts : List Token} {k : Nat} {op x : Int} (h : ts[k]? = some (op, x)) (ha : asks (ts.take k) = false) (hx : ask op = false) : asks (ts.take (k + 1)) = false := by
  rw [takeT_more h]; unfold asks at *; rw [List.any_append, ha]; simp [hx]
theorem asks_yes {ts : List Token} {k : Nat} {op x : Int} (h : ts[k]? = some (op, x)) (hx : ask op = true) : asks ts = true := by
  unfold asks
  rw [List.any_eq_true]
  exact ⟨_, List.mem_of_getElem? h, hx⟩
theorem asks_at {ts : List Token} {k : Nat} {op x : Int} (h : ts[k]? = some (op, x)) (ha : asks ts = false) : ask op = false := by
  cases hx : ask op with
  | false => rfl
  | true => rw [asks_yes h hx] at ha; cases ha

set_option maxHeartbeats 400000 in
theorem asksOutside_any (op n : Int) (w : World) : Calls Try.prog 44 #[.agg #[.int .i64 op, .int .i64 n]] w fun e w' => e = .returned (.bool (ask op)) ∧ Below w.heap.size w w' := by
  go_enter Try.func44, Try.ntmps44
  go_wp2
  all_goals go_ret
  all_goals exact ⟨ret_bool (by simp_all [ask]), (Below.refl _ _).alloc (Nat.le_refl _) _⟩

/-- A number that tells whether there is such a token. -/
def Found (ts : List Token) (w : World) (e : Ending) (w' : World) : Prop := ∃ i : Int, e = .returned (.int .i64 i) ∧ Hid (decide (0 ≤ i) = asks ts) ∧ Below w.heap.size w w'

set_option maxHeartbeats 400000 in
set_option maxRecDepth 100000 in
theorem indexFunc_any (A : Option Addr) (n c : Nat) (ts : List Token) (w : World) (hr : ReadsT w w.heap.size A n ts) (hn : n ≤ 1048576) :
    Calls Try.prog 50 #[.slice A n c, .func (.func 44) #[] #[]] w (Found ts w) := by
  go_enter Try.func50, Try.ntmps50
  go_wp2
  go_loopw [8] (fun i wr => ∃ k : Nat, k ≤ n ∧ i = .int .i64 k ∧ Hid (asks (ts.take k) = false) ∧ Below w.heap.size w wr) (fun i _ => n - (intOf i).toNat)
  case atStart => exact ⟨0, Nat.zero_le _, rfl, rfl, Below.refl _ _⟩
  case round =>
    obtain ⟨k, hk, rfl, ha, hbel⟩ := hrel
    by_cases hlt : k < n
    · obtain ⟨b, off, op, x, rfl, hb, hc1, hc2, hx⟩ := (hr.below hbel).at_ hlt
      cases hask : ask op with
      | false =>
        have HN := put (asks_more hx.out ha.out hask)
        go_wp2_with fail
        refine (asksOutside_any op x _).mono ?_
        rintro e w1 ⟨rfl, hb1⟩
        have hbw := hbel.trans (hb1.mono hbel.size)
        clear hb1 hc1 hc2
        go_wp2
        go_roundw
        case rel => exact ⟨k + 1, by omega, by go_num, HN, hbw⟩
        case measure => simp [intOf]; omega
      | true =>
        have HN := put (asks_yes hx.out hask)
        go_wp2_with fail
        refine (asksOutside_any op x _).mono ?_
        rintro e w1 ⟨rfl, hb1⟩
        have hbw := hbel.trans (hb1.mono hbel.size)
        clear hb1 hc1 hc2
        go_wp2
        go_ret
        exact ⟨k, rfl, by show _ = _; rw [HN.out]; simp, hbw⟩
    · have hfin := put (show ts.take k = ts from List.take_of_length_le (by rw [hr.1]; omega))
      go_wp2
      go_ret
      exact ⟨-1, rfl, by show _ = _; rw [← hfin.out, ha.out]; rfl, hbel⟩

set_option maxHeartbeats 400000 in
theorem containsFunc_any (A : Option Addr) (n c : Nat) (ts : List Token) (w : World) (hr : ReadsT w w.heap.size A n ts) (hn : n ≤ 1048576) :
    Calls Try.prog 43 #[.slice A n c, .func (.func 44) #[] #[]] w fun e w' => e = .returned (.bool (asks ts)) ∧ Below w.heap.size w w' := by
  go_enter Try.func43, Try.ntmps43
  go_wp2_with fail
  refine (indexFunc_any _ _ _ ts _ hr hn).mono ?_
  rintro e w1 ⟨i, rfl, hi, hb1⟩
  go_wp2
  go_ret
  exact ⟨ret_bool hi.out, hb1⟩

end Go.Proofs.Ytpknbdaicmacjaa

/-
  The reference's test of a statement: its contract.
-/
import Derived.Test.YtaogdaoiijmmhaaImpA0
namespace Go.Proofs.Ytaogdaoiijmmhaa
open Go.RowKit Exs

/-- What the reference asks of a statement: g: its expression is good; many: how many functions there are. -/
def stmtP (k x vars : Int) (n1 n2 n3 many : Nat) (g : Bool) : Prop :=
  (k = 1 ∧ g = true ∧ 0 ≤ x ∧ x ≤ vars - 1 ∧ n2 + n3 = 0) ∨ ((k = 2 ∨ k = 4 ∨ k = 5 ∨ k = 9) ∧ g = true ∧ x = 0 ∧ n2 + n3 = 0) ∨ (k = 3 ∧ n1 = 0 ∧ 0 ≤ x ∧ x ≤ (many : Int) - 1 ∧ n2 + n3 = 0) ∨
  (k = 6 ∧ n1 = 0 ∧ x = 0 ∧ n2 + n3 = 0) ∨ (k = 7 ∧ g = true ∧ x = 0) ∨ (k = 8 ∧ g = true ∧ x = 0 ∧ n3 = 0)
instance (k x vars : Int) (n1 n2 n3 many : Nat) (g : Bool) : Decidable (stmtP k x vars n1 n2 n3 many g) := by unfold stmtP; infer_instance
def stmtB (vars : Int) (ps : List Int) (s : St) : Bool := decide (stmtP s.kind s.n vars s.ex.length s.th.length s.el.length ps.length (ge s.ex vars ps))

set_option linter.unusedSimpArgs false
set_option maxHeartbeats 4000000 in
set_option maxRecDepth 100000 in
theorem l3Stmt_raw (pf vars k x : Int) (F1 : Option Addr) (p1 q1 : Nat) (F2 : Option Addr) (p2 q2 : Nat) (A1 : Option Addr) (n1 c1 : Nat) (A2 : Option Addr) (n2 c2 : Nat) (A3 : Option Addr) (n3 c3 : Nat) (A' : Option Addr) (m c' : Nat) (w : World) (g r : Bool) (h0 : 0 ≤ vars) (h6 : vars ≤ 6) (hm : m ≤ 1048576) (hn2 : n2 ≤ 1048576) (hn3 : n3 ≤ 1048576)
    (HR : Hid (r = true ↔ stmtP k x vars n1 n2 n3 m g))
    (hcon : Hid (∀ W, Below w.heap.size w W → Calls Try.prog 57 #[.slice A1 n1 c1, .int .i64 vars, .slice A' m c'] W fun e w' => e = .returned (.bool g) ∧ Below W.heap.size W w')) :
    Calls Try.prog 45 #[.agg #[.int .i64 pf, .int .i64 vars, .slice F1 p1 q1, .slice F2 p2 q2], .agg #[.int .i64 k, .int .i64 x, .slice A1 n1 c1, .slice A2 n2 c2, .slice A3 n3 c3], .slice A' m c'] w fun e w' => e = .returned (.bool r) ∧ Below w.heap.size w w' := by
  have hb0 : Below w.heap.size w ((w.alloc (.cells #[.int .i64 pf, .int .i64 vars, .slice F1 p1 q1, .slice F2 p2 q2] 51)).alloc (.cells #[.int .i64 k, .int .i64 x, .slice A1 n1 c1, .slice A2 n2 c2, .slice A3 n3 c3] 68)) := ((Below.refl _ _).alloc (Nat.le_refl _) _).alloc (by simp) _
  have hk1 := (Keep.new w #[.int .i64 pf, .int .i64 vars, .slice F1 p1 q1, .slice F2 p2 q2] 51).alloc (.cells #[.int .i64 k, .int .i64 x, .slice A1 n1 c1, .slice A2 n2 c2, .slice A3 n3 c3] 68)
  have hk2 := Keep.new (w.alloc (.cells #[.int .i64 pf, .int .i64 vars, .slice F1 p1 q1, .slice F2 p2 q2] 51)) #[.int .i64 k, .int .i64 x, .slice A1 n1 c1, .slice A2 n2 c2, .slice A3 n3 c3] 68
  rw [World.size_alloc] at hk2
  go_enter Try.func45, Try.ntmps45
  go_wp2_with fail
  refine (hcon.out _ hb0).mono ?_
  rintro e W1 ⟨rfl, hb1⟩
  have hb : Below w.heap.size w W1 := hb0.trans (hb1.mono hb0.size)
  replace hk1 := hk1.below hb1
  replace hk2 := hk2.below hb1
  have f1 := hk1.cell 1
  have s0 := hk2.cell 0
  have s1 := hk2.cell 1
  have s2 := hk2.cell 2
  have s3 := hk2.cell 3
  have s4 := hk2.cell 4
  simp at f1 s0 s1 s2 s3 s4
  clear hk1 hk2 hb0 hb1 hcon
  rcases (show k = 1 ∨ k = 2 ∨ k = 3 ∨ k = 4 ∨ k = 5 ∨ k = 6 ∨ k = 7 ∨ k = 8 ∨ k = 9 ∨ (k ≠ 1 ∧ k ≠ 2 ∧ k ≠ 3 ∧ k ≠ 4 ∧ k ≠ 5 ∧ k ≠ 6 ∧ k ≠ 7 ∧ k ≠ 8 ∧ k ≠ 9) by omega) with rfl | rfl | rfl | rfl | rfl | rfl | rfl | rfl | rfl | ⟨k1, k2, k3, k4, k5, k6, k7, k8, k9⟩
  case inr.inr.inr.inr.inr.inr.inr.inr.inr =>
    have e1 := beq_of k1
    have e2 := beq_of k2
    have e3 := beq_of k3
    have e4 := beq_of k4
    have e5 := beq_of k5
    have e6 := beq_of k6
    have e7 := beq_of k7
    have e8 := beq_of k8
    have e9 := beq_of k9
    have hf := put (show r = false by cases r; rfl; have := HR.out.1 rfl; unfold stmtP at this; omega)
    clear HR
    by_cases hx : x = 0
    · subst hx
      go_wp2
      all_goals go_ret
      all_goals exact ⟨ret_bool hf.out.symm, hb⟩
    · have hx' := beq_of hx
      go_wp2
      all_goals go_ret
      all_goals exact ⟨ret_bool hf.out.symm, hb⟩
  all_goals (
    have HQ := HR.out
    unfold stmtP at HQ
    simp only [Int.reduceEq, false_and, true_and, false_or, or_false, or_true, true_or] at HQ
    have HP := put HQ
    clear HQ HR
    by_cases hl : n2 + n3 = 0
    · obtain ⟨rfl, rfl⟩ : n2 = 0 ∧ n3 = 0 := by omega
      by_cases hx : x = 0
      · subst hx
        cases g
        all_goals (go_wp2_with (go_at_call 20; refine (l1In_any _ _ _ _).mono ?_; rintro e w' ⟨rfl, rfl⟩))
        all_goals go_ret
        all_goals refine ⟨ret_bool ?_, hb⟩
        all_goals rw [Bool.eq_iff_iff, HP.out]
        all_goals simp [within]
        all_goals (first | omega | (rename_i hw; simp [within] at hw; omega))
      · have hx' := beq_of hx
        cases g
        all_goals (go_wp2_with (go_at_call 20; refine (l1In_any _ _ _ _).mono ?_; rintro e w' ⟨rfl, rfl⟩))
        all_goals go_ret
        all_goals refine ⟨ret_bool ?_, hb⟩
        all_goals rw [Bool.eq_iff_iff, HP.out]
        all_goals simp [hx, within]
        all_goals (first | omega | (rename_i hw; simp [within] at hw; omega))
    · have hl' : ((n2 : Int) + (n3 : Int) == 0) = false := beq_of (by omega)
      by_cases hx : x = 0
      · subst hx
        cases g
        all_goals (go_wp2_with (go_at_call 20; refine (l1In_any _ _ _ _).mono ?_; rintro e w' ⟨rfl, rfl⟩))
        all_goals go_ret
        all_goals refine ⟨ret_bool ?_, hb⟩
        all_goals rw [Bool.eq_iff_iff, HP.out]
        all_goals simp [within]
        all_goals (first | omega | (rename_i hw; simp [within] at hw; omega))
      · have hx' := beq_of hx
        cases g
        all_goals (go_wp2_with (go_at_call 20; refine (l1In_any _ _ _ _).mono ?_; rintro e w' ⟨rfl, rfl⟩))
        all_goals go_ret
        all_goals refine ⟨ret_bool ?_, hb⟩
        all_goals rw [Bool.eq_iff_iff, HP.out]
        all_goals simp [hx, within]
        all_goals (first | omega | (rename_i hw; simp [within] at hw; omega)))

set_option linter.unusedSimpArgs true
theorem l3Stmt_any (f : Fc) (F1 : Option Addr) (p1 q1 : Nat) (F2 : Option Addr) (p2 q2 : Nat) (s : St) (A1 : Option Addr) (n1 c1 : Nat) (A2 : Option Addr) (n2 c2 : Nat) (A3 : Option Addr) (n3 c3 : Nat) (A' : Option Addr) (m c' : Nat) (ps : List Int) (w : World)
    (hr : IsSt w w.heap.size s A1 n1 A2 n2 A3 n3) (hs : SmallS s) (hp : Reads w w.heap.size .i64 A' m ps) (hm : m ≤ 1048576) (h0 : 0 ≤ f.vars) (h6 : f.vars ≤ 6) :
    Calls Try.prog 45 #[fcV f F1 p1 q1 F2 p2 q2, stV s A1 n1 c1 A2 n2 c2 A3 n3 c3, .slice A' m c'] w fun e w' => e = .returned (.bool (stmtB f.vars ps s)) ∧ Below w.heap.size w w' := by
  obtain ⟨l1, l2, l3⟩ := hs
  rw [hr.ex.1] at l1; rw [hr.th.1] at l2; rw [hr.el.1] at l3
  refine l3Stmt_raw f.params f.vars s.kind s.n F1 p1 q1 F2 p2 q2 A1 n1 c1 A2 n2 c2 A3 n3 c3 A' m c' w (ge s.ex f.vars ps) (stmtB f.vars ps s) h0 h6 hm l2 l3 ?_ ?_
  · show _ ↔ _
    unfold stmtB
    rw [decide_eq_true_iff, hr.ex.1, hr.th.1, hr.el.1, hp.1]
  · intro W hW
    exact specGoodExpr_any A1 n1 c1 s.ex f.vars A' m c' ps W (hr.ex.now hW) (hp.now hW) l1 hm

end Go.Proofs.Ytaogdaoiijmmhaa

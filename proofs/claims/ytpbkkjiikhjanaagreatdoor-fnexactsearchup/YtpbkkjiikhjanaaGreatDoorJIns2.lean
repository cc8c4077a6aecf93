/-
  Instructions: where one goes on. Both sides' contracts, against one plain answer.
-/
import Derived.Test.YtpbkkjiikhjanaaGreatDoorJIns1
namespace Go.Proofs.YtpbkkjiikhjanaaGreatDoor
open Go.RowKit Exs

theorem putL_one_eq (a : Int) : putL [a] a = [a] := by simp [putL]
theorem putL_one_lt {a n : Int} (h : a < n) : putL [a] n = [a, n] := by simp [putL, h]
theorem putL_one_gt {a n : Int} (h : n < a) : putL [a] n = [n, a] := by
  have h1 : ¬ a < n := by omega
  have h2 : ¬ a = n := by omega
  simp [putL, h1, h2]

theorem Nums.one {w : World} {t : TypeId} (x : Int) : Nums (w.alloc (.cells #[.int .i64 x] t)) w.heap.size t .i64 (.slice (some ⟨w.heap.size, 0, none⟩) 1 1) [x] :=
  Nums.of_room (xs := [x]) ⟨#[.int .i64 x], heap_alloc_new _ _, rfl, rfl⟩ (Nat.le_refl _) (Nat.le_refl _) (by unfold maxLen; omega)
theorem Nums.two {w : World} {t : TypeId} (x y : Int) : Nums (w.alloc (.cells #[.int .i64 x, .int .i64 y] t)) w.heap.size t .i64 (.slice (some ⟨w.heap.size, 0, none⟩) 2 2) [x, y] :=
  Nums.of_room (xs := [x, y]) ⟨#[.int .i64 x, .int .i64 y], heap_alloc_new _ _, rfl, rfl⟩ (Nat.le_refl _) (Nat.le_refl _) (by unfold maxLen; omega)
theorem Nums.size {w : World} {B : Nat} {e : TypeId} {k : IntKind} {v : Value} {xs : List Int} (_ : Nums w B e k v xs) (hB : B ≤ B) : B ≤ B := hB

def stops (op : Int) : Prop := op = 13 ∨ op = 14 ∨ op = 16 ∨ op = 18
theorem nxL_jump (n a : Int) : nxL 10 n a = [n] := rfl
theorem nxL_unless (n a : Int) : nxL 11 n a = putL [a + 1] n := rfl
theorem nxL_stop {op : Int} (h : stops op) (n a : Int) : nxL op n a = [] := by
  unfold stops at h
  unfold nxL
  rw [if_neg (by omega), if_neg (by omega), if_pos h]
theorem nxL_on {op : Int} (h1 : op ≠ 10) (h2 : op ≠ 11) (h : ¬ stops op) (n a : Int) : nxL op n a = [a + 1] := by
  unfold nxL stops at *
  rw [if_neg h1, if_neg h2, if_neg h]
theorem nxL_length (op n a : Int) : (nxL op n a).length ≤ 2 := by
  unfold nxL
  split
  · simp
  split
  · have := putL_length n [a + 1]; simpa using this
  split <;> simp

set_option maxHeartbeats 1000000 in
theorem l5Next_any (op n a : Int) (w : World) (h0 : 0 ≤ a) (h1 : a ≤ 1000) : Calls Tryz.prog 126 #[.agg #[.int .i64 op, .int .i64 n], .int .i64 a] w fun e w' => ∃ v, e = .returned v ∧ Nums w' w.heap.size 3 .i64 v (nxL op n a) ∧ Below w.heap.size w w' := by
  have hb := (Below.refl w.heap.size w).alloc (Nat.le_refl _) (Obj.cells #[.int .i64 op, .int .i64 n] 129)
  have hb1 := fun o => hb.alloc hb.size o
  have one := fun x => (Nums.one (w := w.alloc (Obj.cells #[.int .i64 op, .int .i64 n] 129)) (t := 3) x).more hb.size
  rw [World.size_alloc] at one
  by_cases e10 : op = 10
  · subst e10
    rw [nxL_jump]
    go_enter Tryz.func126, Tryz.ntmps126
    go_wp2
    go_ret
    exact ⟨_, rfl, one n, hb1 _⟩
  by_cases e11 : op = 11
  · subst e11
    rw [nxL_unless]
    have hone := Nums.one (w := w.alloc (Obj.cells #[.int .i64 11, .int .i64 n] 129)) (t := 3) (a + 1)
    rw [World.size_alloc] at hone
    have HB := hb1 (.cells #[.int .i64 (a + 1)] 3)
    go_enter Tryz.func126, Tryz.ntmps126
    go_wp2_with fail
    refine (l1Put_any _ [a + 1] n (w.heap.size + 1) _ hone (by simp) (by simp)).mono ?_
    rintro e w1 ⟨v, rfl, hn, hb2⟩
    go_wp2
    go_ret
    exact ⟨_, rfl, hn.more (by omega), HB.trans (hb2.mono HB.size)⟩
  have b10 := beq_of e10
  have b11 := beq_of e11
  by_cases hs : stops op
  · rw [nxL_stop hs]
    clear e10 e11 one hb1
    rcases hs with rfl | rfl | rfl | rfl
    all_goals
      go_enter Tryz.func126, Tryz.ntmps126
      go_wp2
      go_ret
      exact ⟨_, rfl, Nums.nil _ _ _ _, hb⟩
  · rw [nxL_on e10 e11 hs]
    unfold stops at hs
    have c1 : (op == 13) = false := beq_of fun e => hs (by omega)
    have c2 : (op == 14) = false := beq_of fun e => hs (by omega)
    have c3 : (op == 16) = false := beq_of fun e => hs (by omega)
    have c4 : (op == 18) = false := beq_of fun e => hs (by omega)
    clear hs e10 e11
    go_enter Tryz.func126, Tryz.ntmps126
    go_wp2
    go_ret
    exact ⟨_, rfl, one (a + 1), hb1 _⟩

set_option maxHeartbeats 1000000 in
theorem goesOn_any (op n a : Int) (w : World) (h0 : 0 ≤ a) (h1 : a ≤ 1000) : Calls Tryz.prog 129 #[.agg #[.int .i64 op, .int .i64 n], .int .i64 a] w fun e w' => ∃ v, e = .returned v ∧ Nums w' w.heap.size 3 .i64 v (nxL op n a) ∧ Below w.heap.size w w' := by
  have hb := (Below.refl w.heap.size w).alloc (Nat.le_refl _) (Obj.cells #[.int .i64 op, .int .i64 n] 129)
  have hb1 := fun o => hb.alloc hb.size o
  have one := fun x => (Nums.one (w := w.alloc (Obj.cells #[.int .i64 op, .int .i64 n] 129)) (t := 3) x).more hb.size
  have two := fun x y => (Nums.two (w := w.alloc (Obj.cells #[.int .i64 op, .int .i64 n] 129)) (t := 3) x y).more hb.size
  rw [World.size_alloc] at one two
  by_cases e10 : op = 10
  · subst e10
    rw [nxL_jump]
    clear two
    go_enter Tryz.func129, Tryz.ntmps129
    go_wp2
    go_ret
    exact ⟨_, rfl, one n, hb1 _⟩
  by_cases e11 : op = 11
  · subst e11
    rw [nxL_unless]
    clear e10
    by_cases k1 : n = a + 1
    · subst k1
      rw [putL_one_eq]
      clear two
      go_enter Tryz.func129, Tryz.ntmps129
      go_wp2
      go_ret
      exact ⟨_, rfl, one _, hb1 _⟩
    · have kb := beq_of k1
      clear one
      by_cases k2 : n < a + 1
      · rw [putL_one_gt k2]
        have m1 : min n (a + 1) = n := by omega
        have m2 : max n (a + 1) = a + 1 := by omega
        go_enter Tryz.func129, Tryz.ntmps129
        go_wp2
        go_ret
        exact ⟨_, rfl, two _ _, hb1 _⟩
      · have k3 : a + 1 < n := by omega
        rw [putL_one_lt k3]
        have m1 : min n (a + 1) = a + 1 := by omega
        have m2 : max n (a + 1) = n := by omega
        go_enter Tryz.func129, Tryz.ntmps129
        go_wp2
        go_ret
        exact ⟨_, rfl, two _ _, hb1 _⟩
  have b10 := beq_of e10
  have b11 := beq_of e11
  by_cases hs : stops op
  · rw [nxL_stop hs]
    clear e10 e11 one hb1 two
    rcases hs with rfl | rfl | rfl | rfl
    all_goals
      go_enter Tryz.func129, Tryz.ntmps129
      go_wp2
      go_ret
      exact ⟨_, rfl, Nums.nil _ _ _ _, hb⟩
  · rw [nxL_on e10 e11 hs]
    unfold stops at hs
    have c1 : (op == 13) = false := beq_of fun e => hs (by omega)
    have c2 : (op == 14) = false := beq_of fun e => hs (by omega)
    have c3 : (op == 16) = false := beq_of fun e => hs (by omega)
    have c4 : (op == 18) = false := beq_of fun e => hs (by omega)
    clear hs e10 e11 two
    go_enter Tryz.func129, Tryz.ntmps129
    go_wp2
    go_ret
    exact ⟨_, rfl, one (a + 1), hb1 _⟩

/-- What NextOf answers. -/
def nextAns (op n a : Int) : List Int × Bool := if insB op n && within a 0 300 then (nxL op n a, true) else ([], false)

end Go.Proofs.YtpbkkjiikhjanaaGreatDoor

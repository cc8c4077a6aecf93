/-
  What an instruction takes and puts: both sides' contracts, against one plain answer.
-/
import Derived.Test.YtpbkkjiikhjanaaGreatDoorJSz2
import Derived.Deep.RegionLaw
namespace Go.Proofs.YtpbkkjiikhjanaaGreatDoor
open Go.RowKit Exs

/-- What an instruction takes. -/
def tkI (cs : List Cd) (op n : Int) : Int := if op = 7 then (match cs[n.toNat]? with | some c => c.params | none => 0) else kT op
theorem tkI_call {cs : List Cd} {j : Nat} {s : Cd} (h : cs[j]? = some s) : tkI cs 7 (j : Int) = s.params := by
  simp [tkI, h]
theorem tkI_other {cs : List Cd} {op : Int} (h : op ≠ 7) (n : Int) : tkI cs op n = kT op := by simp [tkI, h]
theorem insB_range {op n : Int} (h : insB op n = true) : 1 ≤ op ∧ op ≤ 18 := by
  rw [insB_eq] at h
  have := of_decide_eq_true h
  omega
theorem insB_call {n : Int} (h : insB 7 n = true) : 0 ≤ n := by
  rw [insB_eq] at h
  have := of_decide_eq_true h
  simp [kL] at this
  omega
theorem ret_two {a a' b b' : Int} (h : a = a') (h' : b = b') : Ending.returned (.tuple #[.int .i64 a, .int .i64 b]) = .returned (.tuple #[.int .i64 a', .int .i64 b']) := by rw [h, h']

set_option maxHeartbeats 2000000 in
theorem l5Takes_any (A : Option Addr) (n c : Nat) (cs : List Cd) (op x : Int) (w : World) (hr : ReadsC w w.heap.size A n cs) (hi : insB op x = true) (hc : op = 7 → x < n) :
    Calls Tryz.prog 110 #[.agg #[.slice A n c], .agg #[.int .i64 op, .int .i64 x]] w fun e w' => e = .returned (.tuple #[.int .i64 (tkI cs op x), .int .i64 (kP op)]) ∧ Below w.heap.size w w' := by
  have hb := ((Below.refl w.heap.size w).alloc (Nat.le_refl _) (Obj.cells #[.slice A n c] 36)).alloc (by simp) (Obj.cells #[.int .i64 op, .int .i64 x] 129)
  have hop := insB_range hi
  by_cases h7 : op = 7
  · subst h7
    obtain ⟨j, rfl⟩ : ∃ j : Nat, x = (j : Int) := ⟨x.toNat, by have := insB_call hi; omega⟩
    have hj : j < n := by have := hc rfl; omega
    have hbs := ((Below.refl w.heap.size w).alloc (Nat.le_refl _) (Obj.cells #[.slice A n c] 36)).alloc (by simp) (Obj.cells #[.int .i64 7, .int .i64 (j : Int)] 129)
    obtain ⟨b, off, s, A1, n1, c1, A2, n2, c2, A3, n3, c3, rfl, hb', g0, g1, g2, g3, g4, r1, r2, r3, hx⟩ := (hr.below hbs).at_ hj
    rw [tkI_call hx.out]
    clear hi hc hop r1 r2 r3 g1 g2 g3 g4 hx
    go_enter Tryz.func110, Tryz.ntmps110
    go_wp2
    go_ret2
    exact ⟨rfl, hb⟩
  · rw [tkI_other h7]
    clear hi hc hr
    have hcs : op = 1 ∨ op = 2 ∨ op = 3 ∨ op = 4 ∨ op = 5 ∨ op = 6 ∨ op = 8 ∨ op = 9 ∨ op = 10 ∨ op = 11 ∨ op = 12 ∨ op = 13 ∨ op = 14 ∨ op = 15 ∨ op = 16 ∨ op = 17 ∨ op = 18 := by omega
    clear hop h7
    rcases hcs with rfl | rfl | rfl | rfl | rfl | rfl | rfl | rfl | rfl | rfl | rfl | rfl | rfl | rfl | rfl | rfl | rfl
    all_goals
      go_enter Tryz.func110, Tryz.ntmps110
      go_wp2
      go_ret2
      exact ⟨ret_two (by decide) (by decide), hb⟩

set_option maxHeartbeats 1000000 in
theorem insTakes_any (A : Option Addr) (n c : Nat) (cs : List Cd) (op x : Int) (w : World) (hr : ReadsC w w.heap.size A n cs) (hk : Kinds w) (hpos : 0 < w.heap.size) (hi : insB op x = true) (hc : op = 7 → x < n) :
    Calls Tryz.prog 92 #[.agg #[.slice A n c], .agg #[.int .i64 op, .int .i64 x]] w fun e w' => e = .returned (.int .i64 (tkI cs op x)) ∧ Below w.heap.size w w' := by
  have hb := ((Below.refl w.heap.size w).alloc (Nat.le_refl _) (Obj.cells #[.slice A n c] 36)).alloc (by simp) (Obj.cells #[.int .i64 op, .int .i64 x] 129)
  have hop := insB_range hi
  by_cases h7 : op = 7
  · subst h7
    obtain ⟨j, rfl⟩ : ∃ j : Nat, x = (j : Int) := ⟨x.toNat, by have := insB_call hi; omega⟩
    have hj : j < n := by have := hc rfl; omega
    obtain ⟨b, off, s, A1, n1, c1, A2, n2, c2, A3, n3, c3, rfl, hb', g0, g1, g2, g3, g4, r1, r2, r3, hx⟩ := (hr.below hb).at_ hj
    rw [tkI_call hx.out]
    clear hi hc hop r1 r2 r3 g1 g2 g3 g4 hx hk
    go_enter Tryz.func92, Tryz.ntmps92
    go_wp2
    go_ret
    exact ⟨rfl, hb⟩
  · rw [tkI_other h7]
    have b7 := beq_of h7
    obtain ⟨j, rfl⟩ : ∃ j : Nat, op = (j : Int) := ⟨op.toNat, by omega⟩
    obtain ⟨_, c1, _⟩ := (hk.below hb hpos) j (by omega)
    clear hi hc hr hk h7
    go_enter Tryz.func92, Tryz.ntmps92
    go_wp2
    go_ret
    exact ⟨rfl, hb⟩

/-- What TakesPuts answers. -/
def tpAns (cs : List Cd) (op x : Int) : Int × Int × Bool := if imB cs && insB op x && !(op == 7 && decide ((cs.length : Int) ≤ x)) then (tkI cs op x, kP op, true) else (0, 0, false)
theorem ret_three {a a' b b' : Int} {q q' : Bool} (h : (a, b, q) = (a', b', q')) : Ending.returned (.tuple #[.int .i64 a, .int .i64 b, .bool q]) = .returned (.tuple #[.int .i64 a', .int .i64 b', .bool q']) := by cases h; rfl

end Go.Proofs.YtpbkkjiikhjanaaGreatDoor

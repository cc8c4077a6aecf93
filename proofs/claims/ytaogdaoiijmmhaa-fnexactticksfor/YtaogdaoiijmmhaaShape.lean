/-
  The program's tests of a function and of a program: contracts.
-/
import Derived.Test.YtaogdaoiijmmhaaImpA
import Derived.Test.YtaogdaoiijmmhaaImpB
import Derived.Test.YtaogdaoiijmmhaaGPlaces
namespace Go.Proofs.Ytaogdaoiijmmhaa
open Go.RowKit Exs

def manyD : List St → Nat
  | [] => 0
  | s :: r => (if s.kind = 3 then 1 else 0) + manyD r
theorem manyD_append (a b : List St) : manyD (a ++ b) = manyD a + manyD b := by induction a with | nil => simp [manyD] | cons s r ih => simp [manyD, ih]; omega
theorem manyD_le (a : List St) : manyD a ≤ a.length := by induction a with | nil => simp [manyD] | cons s r ih => simp [manyD]; split <;> omega
def headB (f : Fc) : Bool := decide (0 ≤ f.params ∧ f.params ≤ 2 ∧ f.params ≤ f.vars ∧ f.vars ≤ 6 ∧ f.stmts.length ≤ 16)
def shapeB (f : Fc) : Bool := headB f && f.stmts.all (fun s => fieldsB s f.vars) && decide (manyD f.stmts ≤ 4) && placesB f

set_option maxHeartbeats 2000000 in
set_option maxRecDepth 100000 in
theorem goodShape_any (f : Fc) (A1 : Option Addr) (n1 c1 : Nat) (A2 : Option Addr) (n2 c2 : Nat) (w : World) (hr : IsFc w w.heap.size f A1 n1 A2 n2) (hs : SmallF f) :
    Calls Try.prog 35 #[fcV f A1 n1 c1 A2 n2 c2] w fun e w' => e = .returned (.bool (shapeB f)) ∧ Below w.heap.size w w' := by
  have hl := hr.stmts.1
  have hl2 : n2 ≤ 1048576 := by rw [← hl]; exact hs.2.1
  have hb0 : Below w.heap.size w (w.alloc (.cells #[.int .i64 f.params, .int .i64 f.vars, .slice A1 n1 c1, .slice A2 n2 c2] 51)) := (Below.refl _ _).alloc (Nat.le_refl _) _
  have hk0 := Keep.new w #[.int .i64 f.params, .int .i64 f.vars, .slice A1 n1 c1, .slice A2 n2 c2] 51
  have hno : ∀ (h : ¬ (0 ≤ f.params ∧ f.params ≤ 2 ∧ f.params ≤ f.vars ∧ f.vars ≤ 6 ∧ n2 ≤ 16)), shapeB f = false := fun h => by
    rw [← hl] at h; simp [shapeB, headB, h]
  have hcon : ∀ W, Below w.heap.size w W → Calls Try.prog 48 #[.agg #[.int .i64 f.params, .int .i64 f.vars, .slice A1 n1 c1, .slice A2 n2 c2]] W fun e w' => e = .returned (.bool (placesB f)) ∧ Below W.heap.size W w' := fun W h => goodPlaces_any f A1 n1 c1 A2 n2 c2 W (hr.now h) hs
  have HC := put hcon
  have HN := put hno
  clear hcon hno
  unfold fcV
  have hc : f.params < 0 ∨ (0 ≤ f.params ∧ 2 < f.params) ∨ (0 ≤ f.params ∧ f.params ≤ 2 ∧ f.vars < f.params) ∨ (0 ≤ f.params ∧ f.params ≤ 2 ∧ f.params ≤ f.vars ∧ 6 < f.vars) ∨ (0 ≤ f.params ∧ f.params ≤ 2 ∧ f.params ≤ f.vars ∧ f.vars ≤ 6 ∧ 16 < n2) ∨ (0 ≤ f.params ∧ f.params ≤ 2 ∧ f.params ≤ f.vars ∧ f.vars ≤ 6 ∧ n2 ≤ 16) := by omega
  rcases hc with h | ⟨h1, h2⟩ | ⟨h1, h2, h3⟩ | ⟨h1, h2, h3, h4⟩ | ⟨h1, h2, h3, h4, h5⟩ | ⟨h1, h2, h3, h4, h5⟩
  case inr.inr.inr.inr.inr =>
    have HH := put (show headB f = true by simp only [headB, decide_eq_true_eq]; omega)
    have HL := put hl
    clear hl
    go_enter Try.func35, Try.ntmps35
    go_wp2
    go_loopw [3, 35] (fun c i wr => ∃ k : Nat, k ≤ n2 ∧ i = .int .i64 k ∧ c = .int .i64 (manyD (f.stmts.take k)) ∧ Hid ((f.stmts.take k).all (fun s => fieldsB s f.vars) = true) ∧ Keep wr w.heap.size #[.int .i64 f.params, .int .i64 f.vars, .slice A1 n1 c1, .slice A2 n2 c2] 51 ∧ Below w.heap.size w wr) (fun _ i _ => n2 - (intOf i).toNat)
    case atStart => exact ⟨0, Nat.zero_le _, rfl, rfl, put (by simp), hk0, hb0⟩
    case round =>
      obtain ⟨k, hk, rfl, rfl, hall, hkeep, hbel⟩ := hrel
      clear hk0 hb0
      obtain ⟨m, hm⟩ : ∃ m : Nat, manyD (f.stmts.take k) = m := ⟨_, rfl⟩
      have hmk : m ≤ k := by have := manyD_le (f.stmts.take k); rw [hm, List.length_take] at this; omega
      rw [hm]
      by_cases hlt : k < n2
      · obtain ⟨b, off, s, B1, m1, d1, B2, m2, d2, B3, m3, d3, hA, hb, g0, g1, g2, g3, g4, r1, r2, r3, hx⟩ := (hr.stmts.below hbel).at_ hlt
        subst hA
        have q1 := hkeep.cell 1
        simp at q1
        have hmore := put (show manyD (f.stmts.take (k + 1)) = m + (if s.kind = 3 then 1 else 0) by rw [takeA_more hx.out, manyD_append, hm]; simp [manyD])
        clear hm
        have hbA := hbel.alloc hbel.size (.cells #[.int .i64 s.kind, .int .i64 s.n, .slice B1 m1 d1, .slice B2 m2 d2, .slice B3 m3 d3] 68)
        have hkA := Keep.new wr #[.int .i64 s.kind, .int .i64 s.n, .slice B1 m1 d1, .slice B2 m2 d2, .slice B3 m3 d3] 68
        have hkB := hkeep.alloc (.cells #[.int .i64 s.kind, .int .i64 s.n, .slice B1 m1 d1, .slice B2 m2 d2, .slice B3 m3 d3] 68)
        have p1 := hkB.cell 1
        simp at p1
        go_wp2_with fail
        refine (goodFields_any s _ _ _ _ _ _ _ _ _ _ _ r1.1 r2.1 r3.1).mono ?_
        rintro e W1 ⟨rfl, hb1⟩
        have hb1' : Below w.heap.size w W1 := hbA.trans (hb1.mono hbA.size)
        replace hkA := hkA.below hb1
        replace hkB := hkB.below hb1
        clear p1 q1
        have p0 := hkA.cell 0
        simp at p0
        clear g0 g1 g2 g3 g4 r1 r2 r3
        cases hf : fieldsB s f.vars with
        | false =>
          have hn := put (show shapeB f = false by
            have := all_no hx.out (p := fun s => fieldsB s f.vars) hf
            simp [shapeB, this])
          clear hf
          go_wp2
          go_ret
          exact ⟨ret_bool hn.out.symm, hb1'⟩
        | true =>
          have hy := put (all_more hx.out hall.out (p := fun s => fieldsB s f.vars) hf)
          clear hf
          by_cases h3 : s.kind = 3
          · rw [h3] at p0
            have hm2 := put (show manyD (f.stmts.take (k + 1)) = m + 1 by rw [hmore.out, if_pos h3])
            clear h3 hmore
            go_wp2
            go_roundw
            case rel => exact ⟨k + 1, by omega, by go_num, by rw [hm2.out]; go_num, hy, hkB, hb1'⟩
            case measure => simp [intOf]; omega
          · have h3' := beq_of h3
            have hm2 := put (show manyD (f.stmts.take (k + 1)) = m by rw [hmore.out, if_neg h3]; rfl)
            clear hmore
            go_wp2
            go_roundw
            case rel => exact ⟨k + 1, by omega, by go_num, by rw [hm2.out], hy, hkB, hb1'⟩
            case measure => simp [intOf]; omega
      · have htake : f.stmts.take k = f.stmts := List.take_of_length_le (by rw [HL.out]; omega)
        have hall2 := hall.out
        rw [htake] at hall2 hm
        have HF := put (show shapeB f = (decide (m ≤ 4) && placesB f) by simp [shapeB, HH.out, hall2, hm])
        have y0 := hkeep.cell 0
        have y1 := hkeep.cell 1
        have y2 := hkeep.cell 2
        have y3 := hkeep.cell 3
        simp at y0 y1 y2 y3
        clear htake hall2 hm hall
        by_cases h4 : m ≤ 4
        · go_wp2_with fail
          refine (HC.out _ hbel).mono ?_
          rintro e W1 ⟨rfl, hb1⟩
          clear y0 y1 y2 y3
          go_wp2
          all_goals go_ret
          all_goals exact ⟨ret_bool (by rw [HF.out]; simp [h4]), hbel.trans (hb1.mono hbel.size)⟩
        · go_wp2
          go_ret
          exact ⟨ret_bool (by rw [HF.out]; simp [h4]), hbel⟩
  all_goals (have HF := put (HN.out (by omega)); clear HN HC; go_enter Try.func35, Try.ntmps35; go_wp2; go_ret; exact ⟨ret_bool HF.out.symm, hb0⟩)

end Go.Proofs.Ytaogdaoiijmmhaa

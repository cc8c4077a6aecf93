/-
  Texts joined: Mkd PrgSz.
-/
import Derived.Test.YtpmpjiigmjnniaaGreatJMkc
import Derived.Test.YtpmpjiigmjnniaaGreatJLowZ
import Derived.Test.YtpmpjiigmjnniaaGreatJTokMem
/-
  The laws' marks on a code of a call's own.
-/
namespace Go.Proofs.YtpmpjiigmjnniaaGreat
open Go.RowKit Exs

theorem RN.alloc {w : World} {B e sz n : Nat} {v : Value} {xs : List Int} (h : RN w B e sz v n xs) (o : Obj) : RN (w.alloc o) B e sz v n xs := World.ownsRow.alloc h o
theorem RN.same {w w' : World} {B e sz n : Nat} {e' : TypeId} {v : Value} {xs : List Int} (h : RN w B e sz v n xs) (hs : Same e' w w') (ht : e ≠ e') : RN w' B e sz v n xs := hs.row h ht
theorem RN.belowG {w w' : World} {B B0 e sz n : Nat} {v : Value} {xs : List Int} (h : RN w B e sz v n xs) (hB : B0 ≤ B) (hw : B0 ≤ w.heap.size) (hg : w.grownBy w' v.ownBlock) : Below B0 w w' := (Below.refl _ _).grown hg hw fun j hj => Nat.le_trans hB (World.ownsRow.lt h j hj).1

set_option maxHeartbeats 1000000 in
set_option maxRecDepth 100000 in
theorem markCode_own (pa va : Int) (vs vi vr : Value) (ns ni nr : Nat) (xs is rs : List Int) (B : Nat) (w : World) (h1 : RN w B 3 1 vs ns xs) (h2 : RN w B 83 2 vi ni is) (h3 : RN w B 85 3 vr nr rs) (hB : B ≤ w.heap.size) (l1 : ns ≤ 1048576) (l2 : ni ≤ 1048576) (l3 : nr ≤ 1048576) :
    Calls Tryz.prog 12 #[.agg #[.int .i64 pa, .int .i64 va, vs, vi, vr], .int .i64 1] w fun e w' => e = .returned (.int .i64 (1 + (ns : Int) + 2 * (ni : Int) + 3 * (nr : Int))) ∧ RN w' B 3 1 vs ns (upf 1 ns) ∧ RN w' B 83 2 vi ni (upf (1 + (ns : Int)) (ni * 2)) ∧ RN w' B 85 3 vr nr (upf (1 + (ns : Int) + 2 * (ni : Int)) (nr * 3)) ∧ Below B w w' ∧ ∀ g cs t, Keep w g cs t → t ≠ 3 → t ≠ 83 → t ≠ 85 → Keep w' g cs t := by
  obtain ⟨A1, m1, c1, rfl⟩ := slice_of h1
  obtain ⟨A2, m2, c2, rfl⟩ := slice_of h2
  obtain ⟨A3, m3, c3, rfl⟩ := slice_of h3
  have hb0 : Below B w (w.alloc (.cells #[.int .i64 pa, .int .i64 va, .slice A1 m1 c1, .slice A2 m2 c2, .slice A3 m3 c3] 30)) := (Below.refl _ _).alloc hB _
  have k0 := Keep.new w #[.int .i64 pa, .int .i64 va, .slice A1 m1 c1, .slice A2 m2 c2, .slice A3 m3 c3] 30
  have g1 := h1.alloc (.cells #[.int .i64 pa, .int .i64 va, .slice A1 m1 c1, .slice A2 m2 c2, .slice A3 m3 c3] 30)
  have g2 := h2.alloc (.cells #[.int .i64 pa, .int .i64 va, .slice A1 m1 c1, .slice A2 m2 c2, .slice A3 m3 c3] 30)
  have g3 := h3.alloc (.cells #[.int .i64 pa, .int .i64 va, .slice A1 m1 c1, .slice A2 m2 c2, .slice A3 m3 c3] 30)
  have kk0 : ∀ g cs t, Keep w g cs t → Keep (w.alloc (.cells #[.int .i64 pa, .int .i64 va, .slice A1 m1 c1, .slice A2 m2 c2, .slice A3 m3 c3] 30)) g cs t := fun g cs t h => h.alloc _
  clear h1 h2 h3
  have y2 := k0.cell 2
  simp at y2
  go_enter Tryz.func12, Tryz.ntmps12
  go_wp2_with fail
  generalize w.alloc (.cells #[.int .i64 pa, .int .i64 va, .slice A1 m1 c1, .slice A2 m2 c2, .slice A3 m3 c3] 30) = W0 at hb0 k0 g1 g2 g3 kk0 ⊢
  refine (markInt_own _ ns xs B 1 W0 g1 l1 (by omega) (by omega)).mono ?_
  rintro e w1 ⟨rfl, q1, r1⟩
  have s1 : Same 3 W0 w1 := .grown r1 g1
  have b1 := hb0.trans (g1.belowG (Nat.le_refl _) (Nat.le_trans hB hb0.size) r1)
  have k1 := s1.keep k0 (by decide)
  have p2 := g2.same s1 (by decide)
  have p3 := g3.same s1 (by decide)
  have y3 := k1.cell 3
  simp at y3
  have ha0 : 0 ≤ 1 + (ns : Int) := by omega
  have ha1 : 1 + (ns : Int) ≤ 1000000000 := by omega
  have kk1 : ∀ g cs t, Keep w g cs t → t ≠ 3 → Keep w1 g cs t := fun g cs t h h3 => s1.keep (kk0 g cs t h) h3
  clear y2 hb0 k0 g1 g2 g3 r1 s1 kk0
  go_wp2_with fail
  refine (markIns_own _ ni is B (1 + (ns : Int)) w1 p2 l2 ha0 ha1).mono ?_
  rintro e w2 ⟨rfl, q2, r2⟩
  have s2 : Same 83 w1 w2 := .grown r2 p2
  have b2 := b1.trans (p2.belowG (Nat.le_refl _) (Nat.le_trans hB b1.size) r2)
  have k2 := s2.keep k1 (by decide)
  have q1' := q1.same s2 (by decide)
  have p3' := p3.same s2 (by decide)
  have y4 := k2.cell 4
  simp at y4
  have hb0 : 0 ≤ 1 + (ns : Int) + 2 * (ni : Int) := by omega
  have hb1 : 1 + (ns : Int) + 2 * (ni : Int) ≤ 1000000000 := by omega
  have kk2 : ∀ g cs t, Keep w g cs t → t ≠ 3 → t ≠ 83 → Keep w2 g cs t := fun g cs t h h3 h4 => s2.keep (kk1 g cs t h h3) h4
  clear y3 k1 p2 p3 r2 s2 q1 b1 kk1
  go_wp2_with fail
  refine (markRow_own _ nr rs B (1 + (ns : Int) + 2 * (ni : Int)) w2 p3' l3 hb0 hb1).mono ?_
  rintro e w3 ⟨rfl, q3, r3⟩
  have s3 : Same 85 w2 w3 := .grown r3 p3'
  have b3 := b2.trans (p3'.belowG (Nat.le_refl _) (Nat.le_trans hB b2.size) r3)
  have q1'' := q1'.same s3 (by decide)
  have q2' := q2.same s3 (by decide)
  have kk3 : ∀ g cs t, Keep w g cs t → t ≠ 3 → t ≠ 83 → t ≠ 85 → Keep w3 g cs t := fun g cs t h h3 h4 h5 => s3.keep (kk2 g cs t h h3 h4) h5
  clear s3 r3 p3' y4 k2 q1' q2 b2 kk2
  go_wp2
  go_ret
  exact ⟨rfl, q1'', q2', q3, b3, kk3⟩

set_option maxHeartbeats 1000000 in
set_option maxRecDepth 100000 in
theorem heldCode_own (pa va : Int) (vs vi vr : Value) (ns ni nr : Nat) (B : Nat) (w : World) (h1 : RN w B 3 1 vs ns (upf 1 ns)) (h2 : RN w B 83 2 vi ni (upf (1 + (ns : Int)) (ni * 2))) (h3 : RN w B 85 3 vr nr (upf (1 + (ns : Int) + 2 * (ni : Int)) (nr * 3))) (l1 : ns ≤ 1048576) (l2 : ni ≤ 1048576) (l3 : nr ≤ 1048576) :
    Calls Tryz.prog 13 #[.agg #[.int .i64 pa, .int .i64 va, vs, vi, vr], .int .i64 1] w fun e w' => e = .returned (.int .i64 (1 + (ns : Int) + 2 * (ni : Int) + 3 * (nr : Int))) ∧ Below w.heap.size w w' := by
  obtain ⟨A1, m1, c1, rfl⟩ := slice_of h1
  obtain ⟨A2, m2, c2, rfl⟩ := slice_of h2
  obtain ⟨A3, m3, c3, rfl⟩ := slice_of h3
  have hb0 : Below w.heap.size w (w.alloc (.cells #[.int .i64 pa, .int .i64 va, .slice A1 m1 c1, .slice A2 m2 c2, .slice A3 m3 c3] 30)) := (Below.refl _ _).alloc (Nat.le_refl _) _
  have k0 := Keep.new w #[.int .i64 pa, .int .i64 va, .slice A1 m1 c1, .slice A2 m2 c2, .slice A3 m3 c3] 30
  have g1 := h1.alloc (.cells #[.int .i64 pa, .int .i64 va, .slice A1 m1 c1, .slice A2 m2 c2, .slice A3 m3 c3] 30)
  have g2 := h2.alloc (.cells #[.int .i64 pa, .int .i64 va, .slice A1 m1 c1, .slice A2 m2 c2, .slice A3 m3 c3] 30)
  have g3 := h3.alloc (.cells #[.int .i64 pa, .int .i64 va, .slice A1 m1 c1, .slice A2 m2 c2, .slice A3 m3 c3] 30)
  clear h1 h2 h3
  have y2 := k0.cell 2
  have y3 := k0.cell 3
  have y4 := k0.cell 4
  simp only [List.getElem?_toArray, List.getElem?_cons_zero, List.getElem?_cons_succ] at y2 y3 y4
  go_enter Tryz.func13, Tryz.ntmps13
  go_wp2_with fail
  generalize w.alloc (.cells #[.int .i64 pa, .int .i64 va, .slice A1 m1 c1, .slice A2 m2 c2, .slice A3 m3 c3] 30) = W0 at hb0 k0 g1 g2 g3 y2 y3 y4 ⊢
  refine (heldInt_own _ ns B 1 W0 g1 l1 (by omega) (by omega)).mono ?_
  rintro e w1 ⟨rfl, rfl⟩
  obtain ⟨k1, hk1⟩ : ∃ k1 : Int, 1 + (ns : Int) = k1 := ⟨_, rfl⟩
  have ha0 : 0 ≤ k1 := by omega
  have ha1 : k1 ≤ 1000000000 := by omega
  have hm1 : k1 ≤ 1048577 := by omega
  rw [hk1] at g2 g3 ⊢
  have HK1 := put hk1
  clear hk1
  go_wp2_with fail
  refine (heldIns_own _ ni B k1 W0 g2 l2 ha0 ha1).mono ?_
  rintro e w1 ⟨rfl, rfl⟩
  obtain ⟨k2, hk2⟩ : ∃ k2 : Int, k1 + 2 * (ni : Int) = k2 := ⟨_, rfl⟩
  have hc0 : 0 ≤ k2 := by omega
  have hc1 : k2 ≤ 1000000000 := by omega
  have hm2 : k2 ≤ 4000000 := by omega
  rw [hk2] at g3 ⊢
  have HK2 := put hk2
  clear hk2
  go_wp2_with fail
  refine (heldRow_own _ nr B k2 W0 g3 l3 hc0 hc1).mono ?_
  rintro e w1 ⟨rfl, rfl⟩
  obtain ⟨k3, hk3⟩ : ∃ k3 : Int, k2 + 3 * (nr : Int) = k3 := ⟨_, rfl⟩
  have hd0 : 0 ≤ k3 := by omega
  rw [hk3]
  have HK3 := put hk3
  clear hk3
  go_wp2
  go_ret
  exact ⟨ret_int (by have := HK1.out; have := HK2.out; have := HK3.out; omega), hb0⟩

end Go.Proofs.YtpmpjiigmjnniaaGreat

/-
  The laws' counting of a program's values.
-/
namespace Go.Proofs.YtpmpjiigmjnniaaGreat
open Go.RowKit Exs

def szA (m : Nat) (left : Int) : Int := if (m : Int) ≤ left then left - m else -1
theorem szA_fit {m : Nat} {left : Int} (h : (m : Int) ≤ left) : szA m left = left - m := by simp [szA, h]
theorem szA_no {m : Nat} {left : Int} (h : left < (m : Int)) : szA m left = -1 := by simp [szA]; omega

set_option maxHeartbeats 400000 in
theorem szInts_any (A : Option Addr) (n c : Nat) (left : Int) (w : World) (hn : n ≤ maxLen) (h0 : 0 ≤ left) (h1 : left ≤ 1048576) : Calls Tryz.prog 60 #[.slice A n c, .int .i64 left] w fun e w' => e = .returned (.int .i64 (szA n left)) ∧ w = w' := by
  unfold maxLen at hn
  by_cases h : (n : Int) ≤ left
  · rw [szA_fit h]
    go_enter Tryz.func60, Tryz.ntmps60
    go_wp2
    go_ret
    exact ⟨rfl, rfl⟩
  · have h := Int.not_le.1 h
    rw [szA_no h]
    go_enter Tryz.func60, Tryz.ntmps60
    go_wp2
    go_ret
    exact ⟨rfl, rfl⟩
set_option maxHeartbeats 400000 in
theorem szToks_any (A : Option Addr) (n c : Nat) (left : Int) (w : World) (hn : n ≤ maxLen) (h0 : 0 ≤ left) (h1 : left ≤ 1048576) : Calls Tryz.prog 94 #[.slice A n c, .int .i64 left] w fun e w' => e = .returned (.int .i64 (szA n left)) ∧ w = w' := by
  unfold maxLen at hn
  by_cases h : (n : Int) ≤ left
  · rw [szA_fit h]
    go_enter Tryz.func94, Tryz.ntmps94
    go_wp2
    go_ret
    exact ⟨rfl, rfl⟩
  · have h := Int.not_le.1 h
    rw [szA_no h]
    go_enter Tryz.func94, Tryz.ntmps94
    go_wp2
    go_ret
    exact ⟨rfl, rfl⟩

/-- Slices no longer than memory lets them be. -/
def LongS (s : St) : Prop := s.ex.length ≤ maxLen ∧ s.th.length ≤ maxLen ∧ s.el.length ≤ maxLen
def LongF (f : Fc) : Prop := f.body.length ≤ maxLen ∧ f.stmts.length ≤ maxLen ∧ ∀ s ∈ f.stmts, LongS s
def LongP (fs : List Fc) : Prop := fs.length ≤ maxLen ∧ ∀ f ∈ fs, LongF f

set_option maxHeartbeats 400000 in
theorem szStmt_any (s : St) (A1 : Option Addr) (n1 c1 : Nat) (A2 : Option Addr) (n2 c2 : Nat) (A3 : Option Addr) (n3 c3 : Nat) (left : Int) (w : World) (e1 : s.ex.length = n1) (e2 : s.th.length = n2) (e3 : s.el.length = n3) (hl : LongS s) (h0 : 0 ≤ left) (h1 : left ≤ 1048576) :
    Calls Tryz.prog 79 #[stV s A1 n1 c1 A2 n2 c2 A3 n3 c3, .int .i64 left] w fun e w' => e = .returned (.int .i64 (szA (manyS s) left)) ∧ Below w.heap.size w w' := by
  obtain ⟨l1, l2, l3⟩ := hl
  have hm := put (show manyS s = n1 + n2 + n3 by simp [manyS, e1, e2, e3])
  rw [e1] at l1; rw [e2] at l2; rw [e3] at l3
  clear e1 e2 e3
  unfold stV
  by_cases k1 : (n1 : Int) ≤ left
  · by_cases k2 : (n2 : Int) ≤ left - n1
    · by_cases k3 : (n3 : Int) ≤ left - n1 - n2
      · rw [szA_fit (by rw [hm.out]; omega)]
        go_enter Tryz.func79, Tryz.ntmps79
        go_wp2_with fail
        refine (szToks_any _ _ _ _ _ l1 h0 h1).mono ?_
        rintro e w1 ⟨rfl, rfl⟩
        rw [szA_fit k1]
        go_wp2_with fail
        refine (szInts_any _ _ _ _ _ l2 (by omega) (by omega)).mono ?_
        rintro e w1 ⟨rfl, rfl⟩
        rw [szA_fit k2]
        go_wp2_with fail
        refine (szInts_any _ _ _ _ _ l3 (by omega) (by omega)).mono ?_
        rintro e w1 ⟨rfl, rfl⟩
        rw [szA_fit k3]
        go_wp2
        go_ret
        exact ⟨ret_int (by rw [hm.out]; omega), (Below.refl _ _).alloc (Nat.le_refl _) _⟩
      · have k3 := Int.not_le.1 k3
        rw [szA_no (by rw [hm.out]; omega)]
        go_enter Tryz.func79, Tryz.ntmps79
        go_wp2_with fail
        refine (szToks_any _ _ _ _ _ l1 h0 h1).mono ?_
        rintro e w1 ⟨rfl, rfl⟩
        rw [szA_fit k1]
        go_wp2_with fail
        refine (szInts_any _ _ _ _ _ l2 (by omega) (by omega)).mono ?_
        rintro e w1 ⟨rfl, rfl⟩
        rw [szA_fit k2]
        go_wp2_with fail
        refine (szInts_any _ _ _ _ _ l3 (by omega) (by omega)).mono ?_
        rintro e w1 ⟨rfl, rfl⟩
        rw [szA_no k3]
        go_wp2
        go_ret
        exact ⟨rfl, (Below.refl _ _).alloc (Nat.le_refl _) _⟩
    · have k2 := Int.not_le.1 k2
      rw [szA_no (by rw [hm.out]; omega)]
      go_enter Tryz.func79, Tryz.ntmps79
      go_wp2_with fail
      refine (szToks_any _ _ _ _ _ l1 h0 h1).mono ?_
      rintro e w1 ⟨rfl, rfl⟩
      rw [szA_fit k1]
      go_wp2_with fail
      refine (szInts_any _ _ _ _ _ l2 (by omega) (by omega)).mono ?_
      rintro e w1 ⟨rfl, rfl⟩
      rw [szA_no k2]
      go_wp2
      go_ret
      exact ⟨rfl, (Below.refl _ _).alloc (Nat.le_refl _) _⟩
  · have k1 := Int.not_le.1 k1
    rw [szA_no (by rw [hm.out]; omega)]
    go_enter Tryz.func79, Tryz.ntmps79
    go_wp2_with fail
    refine (szToks_any _ _ _ _ _ l1 h0 h1).mono ?_
    rintro e w1 ⟨rfl, rfl⟩
    rw [szA_no k1]
    go_wp2
    go_ret
    exact ⟨rfl, (Below.refl _ _).alloc (Nat.le_refl _) _⟩

set_option maxHeartbeats 400000 in
set_option maxRecDepth 100000 in
theorem szStmts_any (A : Option Addr) (n c : Nat) (ss : List St) (left : Int) (w : World) (hr : ReadsS w w.heap.size A n ss) (hn : n ≤ maxLen) (hl : ∀ s ∈ ss, LongS s) (h0 : 0 ≤ left) (h1 : left ≤ 1048576) :
    Calls Tryz.prog 61 #[.slice A n c, .int .i64 left] w fun e w' => e = .returned (.int .i64 (szA (n + manySs ss) left)) ∧ Below w.heap.size w w' := by
  unfold maxLen at hn
  by_cases h : (n : Int) ≤ left
  · go_enter Tryz.func61, Tryz.ntmps61
    go_wp2
    go_loopw [1, 5] (fun l i wr => ∃ k : Nat, k ≤ n ∧ i = .int .i64 k ∧ Hid (((n + manySs (ss.take k) : Nat) : Int) ≤ left) ∧ l = .int .i64 (left - n - manySs (ss.take k)) ∧ Below w.heap.size w wr) (fun _ i _ => n - (intOf i).toNat)
    case atStart => exact ⟨0, Nat.zero_le _, rfl, put (by simp [manySs]; exact h), by simp [manySs], Below.refl _ _⟩
    case round =>
      obtain ⟨k, hk, rfl, hfit, rfl, hbel⟩ := hrel
      obtain ⟨m, hm⟩ : ∃ m : Nat, manySs (ss.take k) = m := ⟨_, rfl⟩
      rw [hm] at hfit ⊢
      have hfit := hfit.out
      by_cases hlt : k < n
      · obtain ⟨b, off, s, A1, n1, c1, A2, n2, c2, A3, n3, c3, rfl, hb, g0, g1, g2, g3, g4, r1, r2, r3, hx⟩ := (hr.below hbel).at_ hlt
        have hmore := put (show manySs (ss.take (k + 1)) = m + manyS s by rw [takeA_more hx.out, manySs_append, hm]; simp [manySs])
        have hall := put (show m + manyS s ≤ manySs ss by
          have e : ss = ss.take (k + 1) ++ ss.drop (k + 1) := (List.take_append_drop _ _).symm
          rw [← hmore.out]; conv => rhs; rw [e, manySs_append]
          omega)
        clear hm
        by_cases hf : ((manyS s : Nat) : Int) ≤ left - n - m
        · have hsz := szA_fit hf
          go_wp2_with fail
          refine (szStmt_any s _ _ _ _ _ _ _ _ _ _ _ r1.1 r2.1 r3.1 (hl _ (mem_of_at hx.out)) (by omega) (by omega)).mono ?_
          rintro e w1 ⟨rfl, hb1⟩
          rw [hsz]
          clear hsz r1 r2 r3 g0 g1 g2 g3 g4
          go_wp2
          go_roundw
          case rel => exact ⟨k + 1, by omega, by go_num, put (by rw [hmore.out]; omega), by rw [hmore.out]; exact congrArg _ (by omega), hbel.trans (hb1.mono hbel.size)⟩
          case measure => simp [intOf]; omega
        · have hf := Int.not_le.1 hf
          have hsz := szA_no hf
          go_wp2_with fail
          refine (szStmt_any s _ _ _ _ _ _ _ _ _ _ _ r1.1 r2.1 r3.1 (hl _ (mem_of_at hx.out)) (by omega) (by omega)).mono ?_
          rintro e w1 ⟨rfl, hb1⟩
          rw [hsz]
          clear hsz r1 r2 r3 g0 g1 g2 g3 g4
          go_wp2
          go_ret
          exact ⟨ret_int (szA_no (by have := hall.out; omega)).symm, hbel.trans (hb1.mono hbel.size)⟩
      · have hfin := put (show manySs ss = m by rw [← hm, List.take_of_length_le (by rw [hr.1]; omega)])
        clear hm
        go_wp2
        go_ret
        exact ⟨ret_int (by rw [hfin.out, szA_fit hfit]; omega), hbel⟩
  · have h := Int.not_le.1 h
    rw [szA_no (by omega)]
    go_enter Tryz.func61, Tryz.ntmps61
    go_wp2
    go_ret
    exact ⟨rfl, Below.refl _ _⟩

set_option maxHeartbeats 400000 in
theorem szFunc_any (f : Fc) (A1 : Option Addr) (n1 c1 : Nat) (A2 : Option Addr) (n2 c2 : Nat) (left : Int) (w : World) (hr : IsFc w w.heap.size f A1 n1 A2 n2) (hl : LongF f) (h0 : 0 ≤ left) (h1 : left ≤ 1048576) :
    Calls Tryz.prog 41 #[fcV f A1 n1 c1 A2 n2 c2, .int .i64 left] w fun e w' => e = .returned (.int .i64 (szA (manyF f) left)) ∧ Below w.heap.size w w' := by
  obtain ⟨l1, l2, l3⟩ := hl
  have e1 := hr.body.1
  have e2 := hr.stmts.1
  obtain ⟨m, hm0⟩ : ∃ m : Nat, n2 + manySs f.stmts = m := ⟨_, rfl⟩
  have hm := put (show manyF f = n1 + m by simp [manyF, e1, ← hm0, e2])
  rw [e1] at l1; rw [e2] at l2
  have hb := (Below.refl w.heap.size w).alloc (Nat.le_refl _) (Obj.cells #[Value.int IntKind.i64 f.params, Value.int IntKind.i64 f.vars, Value.slice A1 n1 c1, Value.slice A2 n2 c2] 73)
  have hst := fun left k0 k1 => szStmts_any A2 n2 c2 f.stmts left _ (hr.stmts.now hb) l2 l3 k0 k1
  rw [hm0] at hst
  clear e1 e2 hm0 hr l3
  unfold fcV
  by_cases k1 : (n1 : Int) ≤ left
  · by_cases k2 : (m : Int) ≤ left - n1
    · rw [szA_fit (by rw [hm.out]; omega)]
      have hst := hst (left - n1) (by omega) (by omega)
      rw [szA_fit k2] at hst
      go_enter Tryz.func41, Tryz.ntmps41
      go_wp2_with fail
      refine (szInts_any _ _ _ _ _ l1 h0 h1).mono ?_
      rintro e w1 ⟨rfl, rfl⟩
      rw [szA_fit k1]
      go_wp2_with fail
      refine hst.mono ?_
      rintro e w1 ⟨rfl, hb1⟩
      go_wp2
      go_ret
      exact ⟨ret_int (by rw [hm.out]; omega), hb.trans (hb1.mono hb.size)⟩
    · have k2 := Int.not_le.1 k2
      rw [szA_no (by rw [hm.out]; omega)]
      have hst := hst (left - n1) (by omega) (by omega)
      rw [szA_no k2] at hst
      go_enter Tryz.func41, Tryz.ntmps41
      go_wp2_with fail
      refine (szInts_any _ _ _ _ _ l1 h0 h1).mono ?_
      rintro e w1 ⟨rfl, rfl⟩
      rw [szA_fit k1]
      go_wp2_with fail
      refine hst.mono ?_
      rintro e w1 ⟨rfl, hb1⟩
      go_wp2
      go_ret
      exact ⟨rfl, hb.trans (hb1.mono hb.size)⟩
  · have k1 := Int.not_le.1 k1
    rw [szA_no (by rw [hm.out]; omega)]
    clear hst
    go_enter Tryz.func41, Tryz.ntmps41
    go_wp2_with fail
    refine (szInts_any _ _ _ _ _ l1 h0 h1).mono ?_
    rintro e w1 ⟨rfl, rfl⟩
    rw [szA_no k1]
    go_wp2
    go_ret
    exact ⟨rfl, hb⟩

set_option maxHeartbeats 400000 in
set_option maxRecDepth 100000 in
theorem szFuncs_any (A : Option Addr) (n c : Nat) (fs : List Fc) (left : Int) (w : World) (hr : ReadsF w w.heap.size A n fs) (hn : n ≤ maxLen) (hl : ∀ f ∈ fs, LongF f) (h0 : 0 ≤ left) (h1 : left ≤ 1048576) :
    Calls Tryz.prog 19 #[.slice A n c, .int .i64 left] w fun e w' => e = .returned (.int .i64 (szA (n + manyFs fs) left)) ∧ Below w.heap.size w w' := by
  unfold maxLen at hn
  by_cases h : (n : Int) ≤ left
  · go_enter Tryz.func19, Tryz.ntmps19
    go_wp2
    go_loopw [1, 5] (fun l i wr => ∃ k : Nat, k ≤ n ∧ i = .int .i64 k ∧ Hid (((n + manyFs (fs.take k) : Nat) : Int) ≤ left) ∧ l = .int .i64 (left - n - manyFs (fs.take k)) ∧ Below w.heap.size w wr) (fun _ i _ => n - (intOf i).toNat)
    case atStart => exact ⟨0, Nat.zero_le _, rfl, put (by simp [manyFs]; exact h), by simp [manyFs], Below.refl _ _⟩
    case round =>
      obtain ⟨k, hk, rfl, hfit, rfl, hbel⟩ := hrel
      obtain ⟨m, hm⟩ : ∃ m : Nat, manyFs (fs.take k) = m := ⟨_, rfl⟩
      rw [hm] at hfit ⊢
      have hfit := hfit.out
      by_cases hlt : k < n
      · obtain ⟨b, off, f, A1, n1, c1, A2, n2, c2, rfl, hb, g0, g1, g2, g3, r1, r2, hx⟩ := (hr.below hbel).at_ hlt
        have hmore := put (show manyFs (fs.take (k + 1)) = m + manyF f by rw [takeA_more hx.out, manyFs_append, hm]; simp [manyFs])
        have hall := put (show m + manyF f ≤ manyFs fs by
          have e : fs = fs.take (k + 1) ++ fs.drop (k + 1) := (List.take_append_drop _ _).symm
          rw [← hmore.out]; conv => rhs; rw [e, manyFs_append]
          omega)
        clear hm
        by_cases hf : ((manyF f : Nat) : Int) ≤ left - n - m
        · have hsz := szA_fit hf
          go_wp2_with fail
          refine (szFunc_any f _ _ _ _ _ _ _ _ (IsFc.more ⟨r1, r2⟩ hbel.size) (hl _ (mem_of_at hx.out)) (by omega) (by omega)).mono ?_
          rintro e w1 ⟨rfl, hb1⟩
          rw [hsz]
          clear hsz r1 r2 g0 g1 g2 g3
          go_wp2
          go_roundw
          case rel => exact ⟨k + 1, by omega, by go_num, put (by rw [hmore.out]; omega), by rw [hmore.out]; exact congrArg _ (by omega), hbel.trans (hb1.mono hbel.size)⟩
          case measure => simp [intOf]; omega
        · have hf := Int.not_le.1 hf
          have hsz := szA_no hf
          go_wp2_with fail
          refine (szFunc_any f _ _ _ _ _ _ _ _ (IsFc.more ⟨r1, r2⟩ hbel.size) (hl _ (mem_of_at hx.out)) (by omega) (by omega)).mono ?_
          rintro e w1 ⟨rfl, hb1⟩
          rw [hsz]
          clear hsz r1 r2 g0 g1 g2 g3
          go_wp2
          go_ret
          exact ⟨ret_int (szA_no (by have := hall.out; omega)).symm, hbel.trans (hb1.mono hbel.size)⟩
      · have hfin := put (show manyFs fs = m by rw [← hm, List.take_of_length_le (by rw [hr.1]; omega)])
        clear hm
        go_wp2
        go_ret
        exact ⟨ret_int (by rw [hfin.out, szA_fit hfit]; omega), hbel⟩
  · have h := Int.not_le.1 h
    rw [szA_no (by omega)]
    go_enter Tryz.func19, Tryz.ntmps19
    go_wp2
    go_ret
    exact ⟨rfl, Below.refl _ _⟩

set_option maxHeartbeats 400000 in
theorem szProg_any (A : Option Addr) (n c : Nat) (fs : List Fc) (left : Int) (w : World) (hr : ReadsF w w.heap.size A n fs) (hl : LongP fs) (h0 : 0 ≤ left) (h1 : left ≤ 1048576) :
    Calls Tryz.prog 5 #[.agg #[.slice A n c], .int .i64 left] w fun e w' => e = .returned (.int .i64 (szA (n + manyFs fs) left)) ∧ Below w.heap.size w w' := by
  have hb := (Below.refl w.heap.size w).alloc (Nat.le_refl _) (Obj.cells #[Value.slice A n c] 24)
  have hst := szFuncs_any A n c fs left _ (hr.now hb) (by rw [← hr.1]; exact hl.1) hl.2 h0 h1
  clear hr hl
  obtain ⟨m, hm⟩ : ∃ m : Nat, n + manyFs fs = m := ⟨_, rfl⟩
  rw [hm] at hst ⊢
  clear hm
  by_cases h : (m : Int) ≤ left
  · rw [szA_fit h] at hst ⊢
    go_enter Tryz.func5, Tryz.ntmps5
    go_wp2_with fail
    refine hst.mono ?_
    rintro e w1 ⟨rfl, hb1⟩
    go_wp2
    go_ret
    exact ⟨rfl, hb.trans (hb1.mono hb.size)⟩
  · have h := Int.not_le.1 h
    rw [szA_no h] at hst ⊢
    go_enter Tryz.func5, Tryz.ntmps5
    go_wp2_with fail
    refine hst.mono ?_
    rintro e w1 ⟨rfl, hb1⟩
    go_wp2
    go_ret
    exact ⟨rfl, hb.trans (hb1.mono hb.size)⟩

end Go.Proofs.YtpmpjiigmjnniaaGreat

/-
  TakesPuts: both sides' contracts.
-/
import Derived.Test.YtinhfbigahpkjaaDoorTk
namespace Go.Proofs.YtinhfbigahpkjaaDoor
open Go.RowKit Exs

set_option maxHeartbeats 2000000 in
set_option maxRecDepth 100000 in
theorem specTakesPuts_any (A : Option Addr) (n c : Nat) (cs : List Cd) (op x : Int) (w : World) (hr : ReadsC w w.heap.size A n cs) (hs : SmallI cs) :
    Calls Tryd.prog 25 #[.agg #[.slice A n c], .agg #[.int .i64 op, .int .i64 x]] w fun e w' => e = .returned (.tuple #[.int .i64 (tpAns cs op x).1, .int .i64 (tpAns cs op x).2.1, .bool (tpAns cs op x).2.2]) ∧ Below w.heap.size w w' := by
  have hb := ((Below.refl w.heap.size w).alloc (Nat.le_refl _) (Obj.cells #[.slice A n c] 31)).alloc (by simp) (Obj.cells #[.int .i64 op, .int .i64 x] 45)
  have k1 := (Keep.new w #[.slice A n c] 31).alloc (Obj.cells #[.int .i64 op, .int .i64 x] 45)
  have k2 := Keep.new (w.alloc (Obj.cells #[.slice A n c] 31)) #[.int .i64 op, .int .i64 x] 45
  rw [World.size_alloc] at k2
  have hl := hr.1
  have ha : ∀ p q r, tpAns cs op x = (p, q, r) → (tpAns cs op x).1 = p ∧ (tpAns cs op x).2.1 = q ∧ (tpAns cs op x).2.2 = r := fun p q r h => by rw [h]; exact ⟨rfl, rfl, rfl⟩
  have hs1 : n ≤ 1048576 := by rw [← hl]; exact hs.1
  have HS := put hs1
  have hrd := hr.now hb
  clear  hs1
  cases hi : imB cs
  · have HI := put hi
    obtain ⟨a1, a2, a3⟩ := ha 0 0 false (by simp [tpAns, hi])
    rw [a1, a2, a3]
    clear ha a1 a2 a3 hi
    go_enter Tryd.func25, Tryd.ntmps25
    go_wp2_with fail
    generalize hW : (w.alloc (Obj.cells #[.slice A n c] 31)).alloc (Obj.cells #[.int .i64 op, .int .i64 x] 45) = W at hb k1 k2 HS hrd ⊢
    clear hW
    refine (l5Sized_any A n c cs _ hrd HS.out hs.2).mono ?_
    rintro e w1 ⟨rfl, hb1⟩
    rw [HI.out]
    go_wp2
    go_ret3
    exact ⟨rfl, hb.trans (hb1.mono hb.size)⟩
  have HI := put hi
  cases hj : insB op x
  · have HJ := put hj
    obtain ⟨a1, a2, a3⟩ := ha 0 0 false (by simp [tpAns, hj])
    rw [a1, a2, a3]
    clear ha a1 a2 a3 hi hj
    go_enter Tryd.func25, Tryd.ntmps25
    go_wp2_with fail
    generalize hW : (w.alloc (Obj.cells #[.slice A n c] 31)).alloc (Obj.cells #[.int .i64 op, .int .i64 x] 45) = W at hb k1 k2 HS hrd ⊢
    clear hW
    refine (l5Sized_any A n c cs _ hrd HS.out hs.2).mono ?_
    rintro e w1 ⟨rfl, hb1⟩
    rw [HI.out]
    have hbs := hb.size
    have y0 := (k2.below hb1).cell 0
    have y1 := (k2.below hb1).cell 1
    simp at y0 y1
    go_wp2_with fail
    refine (l5Ins_any op x w1 ).mono ?_
    rintro e w2 ⟨rfl, hb2⟩
    rw [HJ.out]
    go_wp2
    go_ret3
    exact ⟨rfl, (hb.trans (hb1.mono hb.size)).trans (hb2.mono (by have := hb1.size; omega))⟩
  have HJ := put hj
  by_cases h7 : op = 7
  · have b7 : (op == 7) = true := by simp [h7]
    by_cases hx : x < n
    · have HC := put (fun (_ : op = 7) => hx)
      have HR := put (insB_range hj)
      obtain ⟨a1, a2, a3⟩ := ha (tkI cs op x) (kP op) true (by
        have : ¬ ((cs.length : Int) ≤ x) := by omega
        simp [tpAns, hi, hj, this])
      rw [a1, a2, a3]
      clear ha a1 a2 a3 hi hj h7
      go_enter Tryd.func25, Tryd.ntmps25
      go_wp2_with fail
      generalize hW : (w.alloc (Obj.cells #[.slice A n c] 31)).alloc (Obj.cells #[.int .i64 op, .int .i64 x] 45) = W at hb k1 k2 HS hrd ⊢
      clear hW
      refine (l5Sized_any A n c cs _ hrd HS.out hs.2).mono ?_
      rintro e w1 ⟨rfl, hb1⟩
      rw [HI.out]
      have hbs := hb.size
      have y0 := (k2.below hb1).cell 0
      have y1 := (k2.below hb1).cell 1
      simp at y0 y1
      go_wp2_with fail
      refine (l5Ins_any op x w1 ).mono ?_
      rintro e w2 ⟨rfl, hb2⟩
      rw [HJ.out]
      have b2 : Below w.heap.size w w2 := (hb.trans (hb1.mono hb.size)).trans (hb2.mono (by have := hb1.size; omega))
      have kk1 := (k1.below hb1).below hb2
      have kk2 := (k2.below hb1).below hb2
      clear y0 y1
      have y0 := kk1.cell 0
      have z0 := kk2.cell 0
      have z1 := kk2.cell 1
      simp at y0 z0 z1
      go_wp2_with fail
      refine (l5Takes_any A n c cs op x w2 (hr.now b2) HJ.out HC.out).mono ?_
      rintro e w3 ⟨rfl, hb3⟩
      go_wp2
      go_ret3
      exact ⟨rfl, b2.trans (hb3.mono b2.size)⟩
    · have hx' : (n : Int) ≤ x := by omega
      obtain ⟨a1, a2, a3⟩ := ha 0 0 false (by
        have : ((cs.length : Int) ≤ x) := by omega
        simp [tpAns, hi, hj, this, b7])
      rw [a1, a2, a3]
      clear ha a1 a2 a3 hi hj hx h7
      go_enter Tryd.func25, Tryd.ntmps25
      go_wp2_with fail
      generalize hW : (w.alloc (Obj.cells #[.slice A n c] 31)).alloc (Obj.cells #[.int .i64 op, .int .i64 x] 45) = W at hb k1 k2 HS hrd ⊢
      clear hW
      refine (l5Sized_any A n c cs _ hrd HS.out hs.2).mono ?_
      rintro e w1 ⟨rfl, hb1⟩
      rw [HI.out]
      have hbs := hb.size
      have y0 := (k2.below hb1).cell 0
      have y1 := (k2.below hb1).cell 1
      simp at y0 y1
      go_wp2_with fail
      refine (l5Ins_any op x w1 ).mono ?_
      rintro e w2 ⟨rfl, hb2⟩
      rw [HJ.out]
      have b2 : Below w.heap.size w w2 := (hb.trans (hb1.mono hb.size)).trans (hb2.mono (by have := hb1.size; omega))
      have kk1 := (k1.below hb1).below hb2
      have kk2 := (k2.below hb1).below hb2
      clear y0 y1
      have y0 := kk1.cell 0
      have z0 := kk2.cell 0
      have z1 := kk2.cell 1
      simp at y0 z0 z1
      go_wp2
      go_ret3
      exact ⟨rfl, b2⟩
  · have HC := put (fun (h : op = 7) => (absurd h h7 : x < (n : Int)))
    have HR := put (insB_range hj)
    have b7 := beq_of h7
    obtain ⟨a1, a2, a3⟩ := ha (tkI cs op x) (kP op) true (by simp [tpAns, hi, hj, b7])
    rw [a1, a2, a3]
    clear ha a1 a2 a3 hi hj h7
    go_enter Tryd.func25, Tryd.ntmps25
    go_wp2_with fail
    generalize hW : (w.alloc (Obj.cells #[.slice A n c] 31)).alloc (Obj.cells #[.int .i64 op, .int .i64 x] 45) = W at hb k1 k2 HS hrd ⊢
    clear hW
    refine (l5Sized_any A n c cs _ hrd HS.out hs.2).mono ?_
    rintro e w1 ⟨rfl, hb1⟩
    rw [HI.out]
    have hbs := hb.size
    have y0 := (k2.below hb1).cell 0
    have y1 := (k2.below hb1).cell 1
    simp at y0 y1
    go_wp2_with fail
    refine (l5Ins_any op x w1 ).mono ?_
    rintro e w2 ⟨rfl, hb2⟩
    rw [HJ.out]
    have b2 : Below w.heap.size w w2 := (hb.trans (hb1.mono hb.size)).trans (hb2.mono (by have := hb1.size; omega))
    have kk1 := (k1.below hb1).below hb2
    have kk2 := (k2.below hb1).below hb2
    clear y0 y1
    have y0 := kk1.cell 0
    have z0 := kk2.cell 0
    have z1 := kk2.cell 1
    simp at y0 z0 z1
    go_wp2_with fail
    refine (l5Takes_any A n c cs op x w2 (hr.now b2) HJ.out HC.out).mono ?_
    rintro e w3 ⟨rfl, hb3⟩
    go_wp2
    go_ret3
    exact ⟨rfl, b2.trans (hb3.mono b2.size)⟩

set_option maxHeartbeats 2000000 in
set_option maxRecDepth 100000 in
theorem takesPuts_any (A : Option Addr) (n c : Nat) (cs : List Cd) (op x : Int) (w : World) (hr : ReadsC w w.heap.size A n cs) (hk : Kinds w) (hpos : 0 < w.heap.size) :
    Calls Tryd.prog 26 #[.agg #[.slice A n c], .agg #[.int .i64 op, .int .i64 x]] w fun e w' => e = .returned (.tuple #[.int .i64 (tpAns cs op x).1, .int .i64 (tpAns cs op x).2.1, .bool (tpAns cs op x).2.2]) ∧ Below w.heap.size w w' := by
  have hb := ((Below.refl w.heap.size w).alloc (Nat.le_refl _) (Obj.cells #[.slice A n c] 31)).alloc (by simp) (Obj.cells #[.int .i64 op, .int .i64 x] 45)
  have k1 := (Keep.new w #[.slice A n c] 31).alloc (Obj.cells #[.int .i64 op, .int .i64 x] 45)
  have k2 := Keep.new (w.alloc (Obj.cells #[.slice A n c] 31)) #[.int .i64 op, .int .i64 x] 45
  rw [World.size_alloc] at k2
  have hl := hr.1
  have ha : ∀ p q r, tpAns cs op x = (p, q, r) → (tpAns cs op x).1 = p ∧ (tpAns cs op x).2.1 = q ∧ (tpAns cs op x).2.2 = r := fun p q r h => by rw [h]; exact ⟨rfl, rfl, rfl⟩
  have hs1 : Kinds _ := hk.below hb hpos
  have HS := put hs1
  have hrd := hr.now hb
  clear hk hs1
  cases hi : imB cs
  · have HI := put hi
    obtain ⟨a1, a2, a3⟩ := ha 0 0 false (by simp [tpAns, hi])
    rw [a1, a2, a3]
    clear ha a1 a2 a3 hi
    go_enter Tryd.func26, Tryd.ntmps26
    go_wp2_with fail
    generalize hW : (w.alloc (Obj.cells #[.slice A n c] 31)).alloc (Obj.cells #[.int .i64 op, .int .i64 x] 45) = W at hb k1 k2 HS hrd ⊢
    clear hW
    refine (sizedImage_any A n c cs _ hrd HS.out (by have := hb.size; omega)).mono ?_
    rintro e w1 ⟨rfl, hb1⟩
    rw [HI.out]
    go_wp2
    go_ret3
    exact ⟨rfl, hb.trans (hb1.mono hb.size)⟩
  have HI := put hi
  cases hj : insB op x
  · have HJ := put hj
    obtain ⟨a1, a2, a3⟩ := ha 0 0 false (by simp [tpAns, hj])
    rw [a1, a2, a3]
    clear ha a1 a2 a3 hi hj
    go_enter Tryd.func26, Tryd.ntmps26
    go_wp2_with fail
    generalize hW : (w.alloc (Obj.cells #[.slice A n c] 31)).alloc (Obj.cells #[.int .i64 op, .int .i64 x] 45) = W at hb k1 k2 HS hrd ⊢
    clear hW
    refine (sizedImage_any A n c cs _ hrd HS.out (by have := hb.size; omega)).mono ?_
    rintro e w1 ⟨rfl, hb1⟩
    rw [HI.out]
    have hbs := hb.size
    have y0 := (k2.below hb1).cell 0
    have y1 := (k2.below hb1).cell 1
    simp at y0 y1
    go_wp2_with fail
    refine (goodIns_any op x w1 (HS.out.below hb1 (by omega)) (by have := hb1.size; omega)).mono ?_
    rintro e w2 ⟨rfl, hb2⟩
    rw [HJ.out]
    go_wp2
    go_ret3
    exact ⟨rfl, (hb.trans (hb1.mono hb.size)).trans (hb2.mono (by have := hb1.size; omega))⟩
  have HJ := put hj
  by_cases h7 : op = 7
  · have b7 : (op == 7) = true := by simp [h7]
    by_cases hx : x < n
    · have HC := put (fun (_ : op = 7) => hx)
      have HR := put (insB_range hj)
      obtain ⟨a1, a2, a3⟩ := ha (tkI cs op x) (kP op) true (by
        have : ¬ ((cs.length : Int) ≤ x) := by omega
        simp [tpAns, hi, hj, this])
      rw [a1, a2, a3]
      clear ha a1 a2 a3 hi hj h7
      go_enter Tryd.func26, Tryd.ntmps26
      go_wp2_with fail
      generalize hW : (w.alloc (Obj.cells #[.slice A n c] 31)).alloc (Obj.cells #[.int .i64 op, .int .i64 x] 45) = W at hb k1 k2 HS hrd ⊢
      clear hW
      refine (sizedImage_any A n c cs _ hrd HS.out (by have := hb.size; omega)).mono ?_
      rintro e w1 ⟨rfl, hb1⟩
      rw [HI.out]
      have hbs := hb.size
      have y0 := (k2.below hb1).cell 0
      have y1 := (k2.below hb1).cell 1
      simp at y0 y1
      go_wp2_with fail
      refine (goodIns_any op x w1 (HS.out.below hb1 (by omega)) (by have := hb1.size; omega)).mono ?_
      rintro e w2 ⟨rfl, hb2⟩
      rw [HJ.out]
      have b2 : Below w.heap.size w w2 := (hb.trans (hb1.mono hb.size)).trans (hb2.mono (by have := hb1.size; omega))
      have kk1 := (k1.below hb1).below hb2
      have kk2 := (k2.below hb1).below hb2
      clear y0 y1
      have y0 := kk1.cell 0
      have z0 := kk2.cell 0
      have z1 := kk2.cell 1
      simp at y0 z0 z1
      have hkk := HS.out.below hb1 (by omega)
      have hkk2 := hkk.below hb2 (by have := hb1.size; omega)
      obtain ⟨j, hj⟩ : ∃ j : Nat, op = (j : Int) := ⟨op.toNat, by have := HR.out; omega⟩
      subst hj
      have hjl : j < 19 := by have := HR.out; omega
      have hjI : (j : Int) < 19 := by omega
      have HK2 := put hkk2
      obtain ⟨_, _, c2, _⟩ := hkk2 j hjl
      have hs2 := b2.size
      clear hkk
      go_wp2
      go_region_law (first
        | (go_simp; go_at_call 45; refine (insTakes_any A n c cs j x w2.drew (hr.now b2.drew) (HK2.out.below (Below.refl w2.heap.size w2).drew (by omega)) (show 0 < w2.heap.size by omega) HJ.out HC.out).mono ?_; rintro e w3 ⟨rfl, hb3⟩; have u0 := Keep.below (w := w2.drew) kk2 hb3; have v0 := u0.cell 0; have q2 := ((HK2.out.below (Below.refl w2.heap.size w2).drew (by omega)).below hb3 (show 0 < w2.heap.size by omega) j hjl).2.2.1; simp at v0))
      all_goals (
        have b3 : Below w.heap.size w w3 := b2.drew.trans (hb3.mono b2.size)
        go_wp2
        go_ret3
        exact ⟨rfl, b3⟩)
    · have hx' : (n : Int) ≤ x := by omega
      obtain ⟨a1, a2, a3⟩ := ha 0 0 false (by
        have : ((cs.length : Int) ≤ x) := by omega
        simp [tpAns, hi, hj, this, b7])
      rw [a1, a2, a3]
      clear ha a1 a2 a3 hi hj hx h7
      go_enter Tryd.func26, Tryd.ntmps26
      go_wp2_with fail
      generalize hW : (w.alloc (Obj.cells #[.slice A n c] 31)).alloc (Obj.cells #[.int .i64 op, .int .i64 x] 45) = W at hb k1 k2 HS hrd ⊢
      clear hW
      refine (sizedImage_any A n c cs _ hrd HS.out (by have := hb.size; omega)).mono ?_
      rintro e w1 ⟨rfl, hb1⟩
      rw [HI.out]
      have hbs := hb.size
      have y0 := (k2.below hb1).cell 0
      have y1 := (k2.below hb1).cell 1
      simp at y0 y1
      go_wp2_with fail
      refine (goodIns_any op x w1 (HS.out.below hb1 (by omega)) (by have := hb1.size; omega)).mono ?_
      rintro e w2 ⟨rfl, hb2⟩
      rw [HJ.out]
      have b2 : Below w.heap.size w w2 := (hb.trans (hb1.mono hb.size)).trans (hb2.mono (by have := hb1.size; omega))
      have kk1 := (k1.below hb1).below hb2
      have kk2 := (k2.below hb1).below hb2
      clear y0 y1
      have y0 := kk1.cell 0
      have z0 := kk2.cell 0
      have z1 := kk2.cell 1
      simp at y0 z0 z1
      go_wp2
      go_ret3
      exact ⟨rfl, b2⟩
  · have HC := put (fun (h : op = 7) => (absurd h h7 : x < (n : Int)))
    have HR := put (insB_range hj)
    have b7 := beq_of h7
    obtain ⟨a1, a2, a3⟩ := ha (tkI cs op x) (kP op) true (by simp [tpAns, hi, hj, b7])
    rw [a1, a2, a3]
    clear ha a1 a2 a3 hi hj h7
    go_enter Tryd.func26, Tryd.ntmps26
    go_wp2_with fail
    generalize hW : (w.alloc (Obj.cells #[.slice A n c] 31)).alloc (Obj.cells #[.int .i64 op, .int .i64 x] 45) = W at hb k1 k2 HS hrd ⊢
    clear hW
    refine (sizedImage_any A n c cs _ hrd HS.out (by have := hb.size; omega)).mono ?_
    rintro e w1 ⟨rfl, hb1⟩
    rw [HI.out]
    have hbs := hb.size
    have y0 := (k2.below hb1).cell 0
    have y1 := (k2.below hb1).cell 1
    simp at y0 y1
    go_wp2_with fail
    refine (goodIns_any op x w1 (HS.out.below hb1 (by omega)) (by have := hb1.size; omega)).mono ?_
    rintro e w2 ⟨rfl, hb2⟩
    rw [HJ.out]
    have b2 : Below w.heap.size w w2 := (hb.trans (hb1.mono hb.size)).trans (hb2.mono (by have := hb1.size; omega))
    have kk1 := (k1.below hb1).below hb2
    have kk2 := (k2.below hb1).below hb2
    clear y0 y1
    have y0 := kk1.cell 0
    have z0 := kk2.cell 0
    have z1 := kk2.cell 1
    simp at y0 z0 z1
    have hkk := HS.out.below hb1 (by omega)
    have hkk2 := hkk.below hb2 (by have := hb1.size; omega)
    obtain ⟨j, hj⟩ : ∃ j : Nat, op = (j : Int) := ⟨op.toNat, by have := HR.out; omega⟩
    subst hj
    have hjl : j < 19 := by have := HR.out; omega
    have hjI : (j : Int) < 19 := by omega
    have HK2 := put hkk2
    obtain ⟨_, _, c2, _⟩ := hkk2 j hjl
    have hs2 := b2.size
    clear hkk
    go_wp2
    go_region_law (first
      | (go_simp; go_at_call 45; refine (insTakes_any A n c cs j x w2.drew (hr.now b2.drew) (HK2.out.below (Below.refl w2.heap.size w2).drew (by omega)) (show 0 < w2.heap.size by omega) HJ.out HC.out).mono ?_; rintro e w3 ⟨rfl, hb3⟩; have u0 := Keep.below (w := w2.drew) kk2 hb3; have v0 := u0.cell 0; have q2 := ((HK2.out.below (Below.refl w2.heap.size w2).drew (by omega)).below hb3 (show 0 < w2.heap.size by omega) j hjl).2.2.1; simp at v0))
    all_goals (
      have b3 : Below w.heap.size w w3 := b2.drew.trans (hb3.mono b2.size)
      go_wp2
      go_ret3
      exact ⟨rfl, b3⟩)

end Go.Proofs.YtinhfbigahpkjaaDoor

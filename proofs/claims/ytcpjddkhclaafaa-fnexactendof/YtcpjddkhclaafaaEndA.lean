/-
  The reference's l8End.
-/
import Derived.Test.YtcpjddkhclaafaaEndS
import Derived.Deep.RegionHeld3
namespace Go.Proofs.Ytcpjddkhclaafaa
open Go.RowKit Go.Deep Exs

theorem Nums.low {w : World} {B : Nat} {t : TypeId} {k : IntKind} {v : Value} {xs : List Int} (h : Nums w B t k v xs) {g i : Nat} {u : Value} (hg : g < B) : Nums (w.setCell ⟨g, i, none⟩ u) B t k v xs := by
  obtain ⟨h1, h2⟩ := h
  refine ⟨h1, ?_⟩
  rcases h2 with h2 | ⟨q, cap, cur, hv, hq, hh, r⟩
  · exact Or.inl h2
  · exact Or.inr ⟨q, cap, cur, hv, hq, (Below.heap_setCell _ _ _ _ (show q ≠ g by omega)).trans hh, r⟩

set_option maxHeartbeats 4000000 in
set_option maxRecDepth 100000 in
theorem l8End_any (s : Mc) (A1 : Option Addr) (n1 c1 : Nat) (A2 : Option Addr) (n2 c2 : Nat) (A3 : Option Addr) (n3 c3 : Nat) (w : World) (hr : IsMc w w.heap.size s A1 n1 A2 n2 A3 n3) (hn : n2 ≤ 1048576) (hA : A2 = none → c2 = 0) :
    Calls Try.prog 20 #[.agg #[.slice A1 n1 c1, .slice A2 n2 c2, .int .i64 s.used, .int .i64 s.code, .int .i64 s.value, .int .i64 s.made, .slice A3 n3 c3]] w fun e w' => ∃ v, e = .returned (.agg #[.int .i64 (endOc s).code, .int .i64 (endOc s).value, v, .int .i64 s.used]) ∧ Nums w' w.heap.size 3 .i64 v s.trace ∧ Below w.heap.size w w' := by
  have hb0 : Below w.heap.size w ((w.alloc (.cells #[.slice A1 n1 c1, .slice A2 n2 c2, .int .i64 s.used, .int .i64 s.code, .int .i64 s.value, .int .i64 s.made, .slice A3 n3 c3] 35)).alloc (.cells #[.int .i64 0, .int .i64 0, .slice none 0 0, .int .i64 0] 29)) := ((Below.refl _ _).alloc (Nat.le_refl _) _).alloc (by simp) _
  have hx0 : Keep ((w.alloc (.cells #[.slice A1 n1 c1, .slice A2 n2 c2, .int .i64 s.used, .int .i64 s.code, .int .i64 s.value, .int .i64 s.made, .slice A3 n3 c3] 35)).alloc (.cells #[.int .i64 0, .int .i64 0, .slice none 0 0, .int .i64 0] 29)) w.heap.size #[.slice A1 n1 c1, .slice A2 n2 c2, .int .i64 s.used, .int .i64 s.code, .int .i64 s.value, .int .i64 s.made, .slice A3 n3 c3] 35 := (Keep.new _ _ _).alloc _
  have hy0 : Keep ((w.alloc (.cells #[.slice A1 n1 c1, .slice A2 n2 c2, .int .i64 s.used, .int .i64 s.code, .int .i64 s.value, .int .i64 s.made, .slice A3 n3 c3] 35)).alloc (.cells #[.int .i64 0, .int .i64 0, .slice none 0 0, .int .i64 0] 29)) (w.heap.size + 1) #[.int .i64 0, .int .i64 0, .slice none 0 0, .int .i64 0] 29 := by
    have := Keep.new (w.alloc (.cells #[.slice A1 n1 c1, .slice A2 n2 c2, .int .i64 s.used, .int .i64 s.code, .int .i64 s.value, .int .i64 s.made, .slice A3 n3 c3] 35)) #[.int .i64 0, .int .i64 0, .slice none 0 0, .int .i64 0] 29
    rw [World.size_alloc] at this
    exact this
  have R2 := put (hr.trace.now hb0)
  clear hr
  go_enter Try.func20, Try.ntmps20
  go_wp2
  generalize hW : (w.alloc (.cells #[.slice A1 n1 c1, .slice A2 n2 c2, .int .i64 s.used, .int .i64 s.code, .int .i64 s.value, .int .i64 s.made, .slice A3 n3 c3] 35)).alloc (.cells #[.int .i64 0, .int .i64 0, .slice none 0 0, .int .i64 0] 29) = W0 at hb0 hx0 hy0 R2 ⊢
  clear hW
  have hgb : w.heap.size < W0.heap.size := hx0.lt
  obtain ⟨gb, hgbe⟩ : ∃ g, w.heap.size = g := ⟨_, rfl⟩
  have hle := hb0.size
  have hb00 := hb0
  rw [hgbe] at hx0 hy0 hgb ⊢
  have hgb1 : gb + 1 < W0.heap.size := hy0.lt
  have hS : ∀ (W : World), Keep W gb #[.slice A1 n1 c1, .slice A2 n2 c2, .int .i64 s.used, .int .i64 s.code, .int .i64 s.value, .int .i64 s.made, .slice A3 n3 c3] 35 → W.cell? ⟨gb, 1, none⟩ = some (.slice A2 n2 c2) ∧ W.cell? ⟨gb, 2, none⟩ = some (.int .i64 s.used) ∧ W.cell? ⟨gb, 3, none⟩ = some (.int .i64 s.code) := fun W h => ⟨h.cell 1, h.cell 2, h.cell 3⟩
  have hgb' : gb ≠ W0.heap.size := by omega
  have Y0 := hS _ hx0
  have YB := hS _ (hx0.alloc (.cells #[.int .i64 0, .int .i64 0, .slice none 0 0, .int .i64 0] 29))
  go_region_held3 (fun w' => w'.cell? ⟨gb, 1, none⟩ = some (.slice A2 n2 c2) ∧ w'.cell? ⟨gb, 2, none⟩ = some (.int .i64 s.used) ∧ w'.cell? ⟨gb, 3, none⟩ = some (.int .i64 s.code)) (first | (with_reducible exact Y0) | (with_reducible exact YB) | (with_reducible exact Y1) | (with_reducible exact Y2) | (with_reducible exact hS _ (kq.alloc _)) | (with_reducible exact hS _ ((((kq.other hgb' 0 _).other hgb' 1 _).other hgb' 2 _).other hgb' 3 _)) | exact hS _ (kq.alloc _) | exact hS _ ((((kq.other hgb' 0 _).other hgb' 1 _).other hgb' 2 _).other hgb' 3 _) | exact Y0 | exact YB) (first
    | (go_at_call 39; refine (l1Own_any A2 n2 c2 s.trace _ (R2.out.now (by first | exact (Below.refl _ _) | exact Below.drew (Below.refl _ _) | exact (Below.refl _ _).alloc (Nat.le_refl _) _ | exact ((Below.refl _ _).alloc (Nat.le_refl _) _).drew)) hn hA).mono ?_; rintro e w1 ⟨v, rfl, hv1, hb1⟩; obtain ⟨A, k, rfl, hrd⟩ := hv1.reads; have kq : Keep w1 gb #[.slice A1 n1 c1, .slice A2 n2 c2, .int .i64 s.used, .int .i64 s.code, .int .i64 s.value, .int .i64 s.made, .slice A3 n3 c3] 35 := (by first | exact Keep.below (w := W0) hx0 hb1 | exact Keep.below (w := W0.drew) hx0 hb1 | exact Keep.below (hx0.alloc _) hb1 | exact Keep.below (w := (W0.alloc (.cells #[.int .i64 0, .int .i64 0, .slice none 0 0, .int .i64 0] 29)).drew) (hx0.alloc _) hb1); have Y1 := hS _ kq; have Y2 := hS _ (kq.alloc (.cells #[.int .i64 0, .int .i64 0, .slice none 0 0, .int .i64 0] 29)); try (have kb : Keep w1 W0.heap.size #[.int .i64 0, .int .i64 0, .slice none 0 0, .int .i64 0] 29 := (by first | exact Keep.below (Keep.new W0 _ _) hb1 | exact Keep.below (w := (W0.alloc (.cells #[.int .i64 0, .int .i64 0, .slice none 0 0, .int .i64 0] 29)).drew) (Keep.new W0 _ _) hb1); have b0 := kb.cell 0; have b1 := kb.cell 1; have b2 := kb.cell 2; have b3 := kb.cell 3; have f0 := kb.frozen 0; have f1 := kb.frozen 1; have f2 := kb.frozen 2; have f3 := kb.frozen 3; simp at b0 b1 b2 b3)))
  · have kyq : Keep w1 (gb + 1) #[.int .i64 0, .int .i64 0, .slice none 0 0, .int .i64 0] 29 := (by first | exact Keep.below (w := W0.drew) hy0 hb1 | exact Keep.below (w := (W0.alloc (.cells #[.int .i64 0, .int .i64 0, .slice none 0 0, .int .i64 0] 29)).drew) (hy0.alloc _) hb1)
    have hs1 : W0.heap.size ≤ w1.heap.size := hb1.size
    have KX0 := kq.alloc (.cells #[.int .i64 s.code, .int .i64 0, .slice A s.trace.length k, .int .i64 s.used] 29)
    have KR0 := kyq.alloc (.cells #[.int .i64 s.code, .int .i64 0, .slice A s.trace.length k, .int .i64 s.used] 29)
    have KO0 := Keep.new w1 #[.int .i64 s.code, .int .i64 0, .slice A s.trace.length k, .int .i64 s.used] 29
    have HB0 : Below w.heap.size w (w1.alloc (.cells #[.int .i64 s.code, .int .i64 0, .slice A s.trace.length k, .int .i64 s.used] 29)) := (hb00.trans ((show Below W0.heap.size W0 w1 from (Below.drew (Below.refl _ _)).trans hb1).mono hle)).alloc (by omega) _
    have HNF0 : ∀ W3 : World, (W3 = w1.alloc (.cells #[.int .i64 s.code, .int .i64 0, .slice A s.trace.length k, .int .i64 s.used] 29) ∨ ∃ i u, W3 = (w1.alloc (.cells #[.int .i64 s.code, .int .i64 0, .slice A s.trace.length k, .int .i64 s.used] 29)).setCell ⟨w1.heap.size, i, none⟩ u) → Nums W3 W0.heap.size 3 .i64 (.slice A s.trace.length k) s.trace := by
      rintro W3 (rfl | ⟨i, u, rfl⟩)
      · exact hv1.alloc _
      · exact hv1.belowNew (((Below.refl _ _).alloc (Nat.le_refl _) _).setCell (Nat.le_refl _) _)
    have hgw : w.heap.size ≤ w1.heap.size := by omega
    have hgr : gb + 1 ≠ w1.heap.size := by omega
    obtain ⟨g, hg⟩ : ∃ g, w1.heap.size = g := ⟨_, rfl⟩
    rw [hg] at KO0 HNF0 hgw hgr ⊢
    generalize w1.alloc (.cells #[.int .i64 s.code, .int .i64 0, .slice A s.trace.length k, .int .i64 s.used] 29) = W2 at KX0 KR0 KO0 HB0 HNF0 ⊢
    have x3 := KX0.cell 3
    have x4 := KX0.cell 4
    simp at x3 x4
    have o0 := KO0.cell 0
    have of0 := KO0.frozen 0
    have r0 := KR0.cell 0
    have rf0 := KR0.frozen 0
    have o1 := KO0.cell 1
    have of1 := KO0.frozen 1
    have r1 := KR0.cell 1
    have rf1 := KR0.frozen 1
    have o2 := KO0.cell 2
    have of2 := KO0.frozen 2
    have r2 := KR0.cell 2
    have rf2 := KR0.frozen 2
    have o3 := KO0.cell 3
    have of3 := KO0.frozen 3
    have r3 := KR0.cell 3
    have rf3 := KR0.frozen 3
    simp at o0 r0 o1 r1 o2 r2 o3 r3
    have HNH := put HNF0
    clear HNF0 hS Y0 YB Y1 Y2 hv1 hrd kq
    by_cases hc0 : s.code = 0
    · have ENDC := put (show (endOc s).code = 5 by simp [endOc, hc0])
      have ENDV := put (show (endOc s).value = 0 by simp [endOc, hc0])
      have t0 : (s.code == 0) = true := by simp [hc0]
      clear hc0
      have KO := KO0
      have KR := KR0
      have HB := HB0
      replace KO := KO.set 0 (.int .i64 5)
      replace KR := KR.other (g' := g) hgr 0 (.int .i64 5)
      replace HB : Below w.heap.size w (W2.setCell ⟨g, 0, none⟩ (.int .i64 5)) := HB.setCell (show w.heap.size ≤ g from hgw) _
      go_wp2
      have HNF := HNH.out (W2.setCell ⟨g, 0, none⟩ (.int .i64 5)) (.inr ⟨_, _, rfl⟩)
      replace KR := KR.set 0 (.int .i64 5)
      replace HB := HB.setCell (p := ⟨gb + 1, 0, none⟩) (show w.heap.size ≤ gb + 1 by omega) (.int .i64 5)
      replace HNF := HNF.low (g := gb + 1) (i := 0) (u := .int .i64 5) (by omega)
      replace KR := KR.set 1 (.int .i64 0)
      replace HB := HB.setCell (p := ⟨gb + 1, 1, none⟩) (show w.heap.size ≤ gb + 1 by omega) (.int .i64 0)
      replace HNF := HNF.low (g := gb + 1) (i := 1) (u := .int .i64 0) (by omega)
      replace KR := KR.set 2 (.slice A s.trace.length k)
      replace HB := HB.setCell (p := ⟨gb + 1, 2, none⟩) (show w.heap.size ≤ gb + 1 by omega) (.slice A s.trace.length k)
      replace HNF := HNF.low (g := gb + 1) (i := 2) (u := .slice A s.trace.length k) (by omega)
      replace KR := KR.set 3 (.int .i64 s.used)
      replace HB := HB.setCell (p := ⟨gb + 1, 3, none⟩) (show w.heap.size ≤ gb + 1 by omega) (.int .i64 s.used)
      replace HNF := HNF.low (g := gb + 1) (i := 3) (u := .int .i64 s.used) (by omega)
      have e0 := KR.cell 0
      have e1 := KR.cell 1
      have e2 := KR.cell 2
      have e3 := KR.cell 3
      simp at e0 e1 e2 e3
      have HN2 := HNF.more (B' := w.heap.size) (by omega)
      clear HNH KX0 KR0 KO0 HB0 HNF x3 x4 o0 o1 o2 o3 of0 of1 of2 of3 r0 r1 r2 r3 rf0 rf1 rf2 rf3
      refine bodyPost_ret (v := .agg #[.int .i64 5, .int .i64 0, .slice A s.trace.length k, .int .i64 s.used]) ?_ rfl ?_
      · simp [results, Try.results20, go_sem, e0, e1, e2, e3]
      · exact ⟨_, by rw [ENDC.out, ENDV.out], HN2, HB⟩
    · have ENDC := put (show (endOc s).code = s.code by simp [endOc, hc0])
      by_cases hc1 : s.code = 1
      · have ENDV := put (show (endOc s).value = s.value by simp [endOc, hc1])
        have t0 : (s.code == 0) = false := by simp [hc0]
        have t1 : (s.code == 1) = true := by simp [hc1]
        clear hc0 hc1
        have KO := KO0
        have KR := KR0
        have HB := HB0
        replace KO := KO.set 1 (.int .i64 s.value)
        replace KR := KR.other (g' := g) hgr 1 (.int .i64 s.value)
        replace HB : Below w.heap.size w (W2.setCell ⟨g, 1, none⟩ (.int .i64 s.value)) := HB.setCell (show w.heap.size ≤ g from hgw) _
        go_wp2
        have HNF := HNH.out (W2.setCell ⟨g, 1, none⟩ (.int .i64 s.value)) (.inr ⟨_, _, rfl⟩)
        replace KR := KR.set 0 (.int .i64 s.code)
        replace HB := HB.setCell (p := ⟨gb + 1, 0, none⟩) (show w.heap.size ≤ gb + 1 by omega) (.int .i64 s.code)
        replace HNF := HNF.low (g := gb + 1) (i := 0) (u := .int .i64 s.code) (by omega)
        replace KR := KR.set 1 (.int .i64 s.value)
        replace HB := HB.setCell (p := ⟨gb + 1, 1, none⟩) (show w.heap.size ≤ gb + 1 by omega) (.int .i64 s.value)
        replace HNF := HNF.low (g := gb + 1) (i := 1) (u := .int .i64 s.value) (by omega)
        replace KR := KR.set 2 (.slice A s.trace.length k)
        replace HB := HB.setCell (p := ⟨gb + 1, 2, none⟩) (show w.heap.size ≤ gb + 1 by omega) (.slice A s.trace.length k)
        replace HNF := HNF.low (g := gb + 1) (i := 2) (u := .slice A s.trace.length k) (by omega)
        replace KR := KR.set 3 (.int .i64 s.used)
        replace HB := HB.setCell (p := ⟨gb + 1, 3, none⟩) (show w.heap.size ≤ gb + 1 by omega) (.int .i64 s.used)
        replace HNF := HNF.low (g := gb + 1) (i := 3) (u := .int .i64 s.used) (by omega)
        have e0 := KR.cell 0
        have e1 := KR.cell 1
        have e2 := KR.cell 2
        have e3 := KR.cell 3
        simp at e0 e1 e2 e3
        have HN2 := HNF.more (B' := w.heap.size) (by omega)
        clear HNH KX0 KR0 KO0 HB0 HNF x3 x4 o0 o1 o2 o3 of0 of1 of2 of3 r0 r1 r2 r3 rf0 rf1 rf2 rf3
        refine bodyPost_ret (v := .agg #[.int .i64 s.code, .int .i64 s.value, .slice A s.trace.length k, .int .i64 s.used]) ?_ rfl ?_
        · simp [results, Try.results20, go_sem, e0, e1, e2, e3]
        · exact ⟨_, by rw [ENDC.out, ENDV.out], HN2, HB⟩
      · by_cases hc2 : s.code = 2
        · have ENDV := put (show (endOc s).value = s.value by simp [endOc, hc2])
          have t0 : (s.code == 0) = false := by simp [hc0]
          have t1 : (s.code == 1) = false := by simp [hc1]
          have t2 : (s.code == 2) = true := by simp [hc2]
          clear hc0 hc1 hc2
          have KO := KO0
          have KR := KR0
          have HB := HB0
          replace KO := KO.set 1 (.int .i64 s.value)
          replace KR := KR.other (g' := g) hgr 1 (.int .i64 s.value)
          replace HB : Below w.heap.size w (W2.setCell ⟨g, 1, none⟩ (.int .i64 s.value)) := HB.setCell (show w.heap.size ≤ g from hgw) _
          go_wp2
          have HNF := HNH.out (W2.setCell ⟨g, 1, none⟩ (.int .i64 s.value)) (.inr ⟨_, _, rfl⟩)
          replace KR := KR.set 0 (.int .i64 s.code)
          replace HB := HB.setCell (p := ⟨gb + 1, 0, none⟩) (show w.heap.size ≤ gb + 1 by omega) (.int .i64 s.code)
          replace HNF := HNF.low (g := gb + 1) (i := 0) (u := .int .i64 s.code) (by omega)
          replace KR := KR.set 1 (.int .i64 s.value)
          replace HB := HB.setCell (p := ⟨gb + 1, 1, none⟩) (show w.heap.size ≤ gb + 1 by omega) (.int .i64 s.value)
          replace HNF := HNF.low (g := gb + 1) (i := 1) (u := .int .i64 s.value) (by omega)
          replace KR := KR.set 2 (.slice A s.trace.length k)
          replace HB := HB.setCell (p := ⟨gb + 1, 2, none⟩) (show w.heap.size ≤ gb + 1 by omega) (.slice A s.trace.length k)
          replace HNF := HNF.low (g := gb + 1) (i := 2) (u := .slice A s.trace.length k) (by omega)
          replace KR := KR.set 3 (.int .i64 s.used)
          replace HB := HB.setCell (p := ⟨gb + 1, 3, none⟩) (show w.heap.size ≤ gb + 1 by omega) (.int .i64 s.used)
          replace HNF := HNF.low (g := gb + 1) (i := 3) (u := .int .i64 s.used) (by omega)
          have e0 := KR.cell 0
          have e1 := KR.cell 1
          have e2 := KR.cell 2
          have e3 := KR.cell 3
          simp at e0 e1 e2 e3
          have HN2 := HNF.more (B' := w.heap.size) (by omega)
          clear HNH KX0 KR0 KO0 HB0 HNF x3 x4 o0 o1 o2 o3 of0 of1 of2 of3 r0 r1 r2 r3 rf0 rf1 rf2 rf3
          refine bodyPost_ret (v := .agg #[.int .i64 s.code, .int .i64 s.value, .slice A s.trace.length k, .int .i64 s.used]) ?_ rfl ?_
          · simp [results, Try.results20, go_sem, e0, e1, e2, e3]
          · exact ⟨_, by rw [ENDC.out, ENDV.out], HN2, HB⟩
        · have ENDV := put (show (endOc s).value = 0 by simp [endOc, hc1, hc2])
          have t0 : (s.code == 0) = false := by simp [hc0]
          have t1 : (s.code == 1) = false := by simp [hc1]
          have t2 : (s.code == 2) = false := by simp [hc2]
          clear hc0 hc1 hc2
          have KO := KO0
          have KR := KR0
          have HB := HB0
          go_wp2
          have HNF := HNH.out W2 (.inl rfl)
          replace KR := KR.set 0 (.int .i64 s.code)
          replace HB := HB.setCell (p := ⟨gb + 1, 0, none⟩) (show w.heap.size ≤ gb + 1 by omega) (.int .i64 s.code)
          replace HNF := HNF.low (g := gb + 1) (i := 0) (u := .int .i64 s.code) (by omega)
          replace KR := KR.set 1 (.int .i64 0)
          replace HB := HB.setCell (p := ⟨gb + 1, 1, none⟩) (show w.heap.size ≤ gb + 1 by omega) (.int .i64 0)
          replace HNF := HNF.low (g := gb + 1) (i := 1) (u := .int .i64 0) (by omega)
          replace KR := KR.set 2 (.slice A s.trace.length k)
          replace HB := HB.setCell (p := ⟨gb + 1, 2, none⟩) (show w.heap.size ≤ gb + 1 by omega) (.slice A s.trace.length k)
          replace HNF := HNF.low (g := gb + 1) (i := 2) (u := .slice A s.trace.length k) (by omega)
          replace KR := KR.set 3 (.int .i64 s.used)
          replace HB := HB.setCell (p := ⟨gb + 1, 3, none⟩) (show w.heap.size ≤ gb + 1 by omega) (.int .i64 s.used)
          replace HNF := HNF.low (g := gb + 1) (i := 3) (u := .int .i64 s.used) (by omega)
          have e0 := KR.cell 0
          have e1 := KR.cell 1
          have e2 := KR.cell 2
          have e3 := KR.cell 3
          simp at e0 e1 e2 e3
          have HN2 := HNF.more (B' := w.heap.size) (by omega)
          clear HNH KX0 KR0 KO0 HB0 HNF x3 x4 o0 o1 o2 o3 of0 of1 of2 of3 r0 r1 r2 r3 rf0 rf1 rf2 rf3
          refine bodyPost_ret (v := .agg #[.int .i64 s.code, .int .i64 0, .slice A s.trace.length k, .int .i64 s.used]) ?_ rfl ?_
          · simp [results, Try.results20, go_sem, e0, e1, e2, e3]
          · exact ⟨_, by rw [ENDC.out, ENDV.out], HN2, HB⟩
  · have kyq : Keep w1 (gb + 1) #[.int .i64 0, .int .i64 0, .slice none 0 0, .int .i64 0] 29 := (by first | exact Keep.below (w := W0.drew) hy0 hb1 | exact Keep.below (w := (W0.alloc (.cells #[.int .i64 0, .int .i64 0, .slice none 0 0, .int .i64 0] 29)).drew) (hy0.alloc _) hb1)
    have KX0 := (((kq.other hgb' 0 (.int .i64 s.code)).other hgb' 1 (.int .i64 0)).other hgb' 2 (.slice A s.trace.length k)).other hgb' 3 (.int .i64 s.used)
    have hgr : gb + 1 ≠ W0.heap.size := by omega
    have KR0 := (((kyq.other hgr 0 (.int .i64 s.code)).other hgr 1 (.int .i64 0)).other hgr 2 (.slice A s.trace.length k)).other hgr 3 (.int .i64 s.used)
    have KO0 : Keep ((((w1.setCell ⟨W0.heap.size, 0, none⟩ (.int .i64 s.code)).setCell ⟨W0.heap.size, 1, none⟩ (.int .i64 0)).setCell ⟨W0.heap.size, 2, none⟩ (.slice A s.trace.length k)).setCell ⟨W0.heap.size, 3, none⟩ (.int .i64 s.used)) W0.heap.size #[.int .i64 s.code, .int .i64 0, .slice A s.trace.length k, .int .i64 s.used] 29 := (((kb.set 0 (.int .i64 s.code)).set 1 (.int .i64 0)).set 2 (.slice A s.trace.length k)).set 3 (.int .i64 s.used)
    have HB1 : Below W0.heap.size W0 w1 := (((Below.refl _ _).alloc (Nat.le_refl _) _).drew).trans (hb1.mono (by simp))
    have HB0 : Below w.heap.size w ((((w1.setCell ⟨W0.heap.size, 0, none⟩ (.int .i64 s.code)).setCell ⟨W0.heap.size, 1, none⟩ (.int .i64 0)).setCell ⟨W0.heap.size, 2, none⟩ (.slice A s.trace.length k)).setCell ⟨W0.heap.size, 3, none⟩ (.int .i64 s.used)) := ((((hb00.trans (HB1.mono hle)).setCell (p := ⟨W0.heap.size, 0, none⟩) (by omega) _).setCell (p := ⟨W0.heap.size, 1, none⟩) (by omega) _).setCell (p := ⟨W0.heap.size, 2, none⟩) (by omega) _).setCell (p := ⟨W0.heap.size, 3, none⟩) (by omega) _
    have hv2 : Nums w1 (W0.heap.size + 1) 3 .i64 (.slice A s.trace.length k) s.trace := hv1.more (by simp)
    have HNF0 : ∀ W3 : World, (W3 = (((w1.setCell ⟨W0.heap.size, 0, none⟩ (.int .i64 s.code)).setCell ⟨W0.heap.size, 1, none⟩ (.int .i64 0)).setCell ⟨W0.heap.size, 2, none⟩ (.slice A s.trace.length k)).setCell ⟨W0.heap.size, 3, none⟩ (.int .i64 s.used) ∨ ∃ i u, W3 = ((((w1.setCell ⟨W0.heap.size, 0, none⟩ (.int .i64 s.code)).setCell ⟨W0.heap.size, 1, none⟩ (.int .i64 0)).setCell ⟨W0.heap.size, 2, none⟩ (.slice A s.trace.length k)).setCell ⟨W0.heap.size, 3, none⟩ (.int .i64 s.used)).setCell ⟨W0.heap.size, i, none⟩ u) → Nums W3 W0.heap.size 3 .i64 (.slice A s.trace.length k) s.trace := by
      have hv3 := (((hv2.low (g := W0.heap.size) (i := 0) (u := .int .i64 s.code) (by omega)).low (g := W0.heap.size) (i := 1) (u := .int .i64 0) (by omega)).low (g := W0.heap.size) (i := 2) (u := .slice A s.trace.length k) (by omega)).low (g := W0.heap.size) (i := 3) (u := .int .i64 s.used) (by omega)
      rintro W3 (rfl | ⟨i, u, rfl⟩)
      · exact hv3.more (by omega)
      · exact (hv3.low (g := W0.heap.size) (i := i) (u := u) (by omega)).more (by omega)
    have hgw : w.heap.size ≤ W0.heap.size := by omega
    obtain ⟨g, hg⟩ : ∃ g, W0.heap.size = g := ⟨_, rfl⟩
    have hv9 := hg
    have hs9 : gb + 1 < g := by omega
    rw [hg] at KO0 KX0 KR0 HB0 HNF0 hgw hgr ⊢
    generalize (((w1.setCell ⟨g, 0, none⟩ (.int .i64 s.code)).setCell ⟨g, 1, none⟩ (.int .i64 0)).setCell ⟨g, 2, none⟩ (.slice A s.trace.length k)).setCell ⟨g, 3, none⟩ (.int .i64 s.used) = W2 at KX0 KR0 KO0 HB0 HNF0 ⊢
    have x3 := KX0.cell 3
    have x4 := KX0.cell 4
    simp at x3 x4
    have o0 := KO0.cell 0
    have of0 := KO0.frozen 0
    have r0 := KR0.cell 0
    have rf0 := KR0.frozen 0
    have o1 := KO0.cell 1
    have of1 := KO0.frozen 1
    have r1 := KR0.cell 1
    have rf1 := KR0.frozen 1
    have o2 := KO0.cell 2
    have of2 := KO0.frozen 2
    have r2 := KR0.cell 2
    have rf2 := KR0.frozen 2
    have o3 := KO0.cell 3
    have of3 := KO0.frozen 3
    have r3 := KR0.cell 3
    have rf3 := KR0.frozen 3
    simp at o0 r0 o1 r1 o2 r2 o3 r3
    have HNH := put HNF0
    clear HNF0 hS Y0 YB Y1 Y2 hv1 hrd kq
    by_cases hc0 : s.code = 0
    · have ENDC := put (show (endOc s).code = 5 by simp [endOc, hc0])
      have ENDV := put (show (endOc s).value = 0 by simp [endOc, hc0])
      have t0 : (s.code == 0) = true := by simp [hc0]
      clear hc0
      have KO := KO0
      have KR := KR0
      have HB := HB0
      replace KO := KO.set 0 (.int .i64 5)
      replace KR := KR.other (g' := g) hgr 0 (.int .i64 5)
      replace HB : Below w.heap.size w (W2.setCell ⟨g, 0, none⟩ (.int .i64 5)) := HB.setCell (show w.heap.size ≤ g from hgw) _
      go_wp2
      have HNF := HNH.out (W2.setCell ⟨g, 0, none⟩ (.int .i64 5)) (.inr ⟨_, _, rfl⟩)
      replace KR := KR.set 0 (.int .i64 5)
      replace HB := HB.setCell (p := ⟨gb + 1, 0, none⟩) (show w.heap.size ≤ gb + 1 by omega) (.int .i64 5)
      replace HNF := HNF.low (g := gb + 1) (i := 0) (u := .int .i64 5) (by omega)
      replace KR := KR.set 1 (.int .i64 0)
      replace HB := HB.setCell (p := ⟨gb + 1, 1, none⟩) (show w.heap.size ≤ gb + 1 by omega) (.int .i64 0)
      replace HNF := HNF.low (g := gb + 1) (i := 1) (u := .int .i64 0) (by omega)
      replace KR := KR.set 2 (.slice A s.trace.length k)
      replace HB := HB.setCell (p := ⟨gb + 1, 2, none⟩) (show w.heap.size ≤ gb + 1 by omega) (.slice A s.trace.length k)
      replace HNF := HNF.low (g := gb + 1) (i := 2) (u := .slice A s.trace.length k) (by omega)
      replace KR := KR.set 3 (.int .i64 s.used)
      replace HB := HB.setCell (p := ⟨gb + 1, 3, none⟩) (show w.heap.size ≤ gb + 1 by omega) (.int .i64 s.used)
      replace HNF := HNF.low (g := gb + 1) (i := 3) (u := .int .i64 s.used) (by omega)
      have e0 := KR.cell 0
      have e1 := KR.cell 1
      have e2 := KR.cell 2
      have e3 := KR.cell 3
      simp at e0 e1 e2 e3
      have HN2 := HNF.more (B' := w.heap.size) (by omega)
      clear HNH KX0 KR0 KO0 HB0 HNF x3 x4 o0 o1 o2 o3 of0 of1 of2 of3 r0 r1 r2 r3 rf0 rf1 rf2 rf3
      refine bodyPost_ret (v := .agg #[.int .i64 5, .int .i64 0, .slice A s.trace.length k, .int .i64 s.used]) ?_ rfl ?_
      · simp [results, Try.results20, go_sem, e0, e1, e2, e3]
      · exact ⟨_, by rw [ENDC.out, ENDV.out], HN2, HB⟩
    · have ENDC := put (show (endOc s).code = s.code by simp [endOc, hc0])
      by_cases hc1 : s.code = 1
      · have ENDV := put (show (endOc s).value = s.value by simp [endOc, hc1])
        have t0 : (s.code == 0) = false := by simp [hc0]
        have t1 : (s.code == 1) = true := by simp [hc1]
        clear hc0 hc1
        have KO := KO0
        have KR := KR0
        have HB := HB0
        replace KO := KO.set 1 (.int .i64 s.value)
        replace KR := KR.other (g' := g) hgr 1 (.int .i64 s.value)
        replace HB : Below w.heap.size w (W2.setCell ⟨g, 1, none⟩ (.int .i64 s.value)) := HB.setCell (show w.heap.size ≤ g from hgw) _
        go_wp2
        have HNF := HNH.out (W2.setCell ⟨g, 1, none⟩ (.int .i64 s.value)) (.inr ⟨_, _, rfl⟩)
        replace KR := KR.set 0 (.int .i64 s.code)
        replace HB := HB.setCell (p := ⟨gb + 1, 0, none⟩) (show w.heap.size ≤ gb + 1 by omega) (.int .i64 s.code)
        replace HNF := HNF.low (g := gb + 1) (i := 0) (u := .int .i64 s.code) (by omega)
        replace KR := KR.set 1 (.int .i64 s.value)
        replace HB := HB.setCell (p := ⟨gb + 1, 1, none⟩) (show w.heap.size ≤ gb + 1 by omega) (.int .i64 s.value)
        replace HNF := HNF.low (g := gb + 1) (i := 1) (u := .int .i64 s.value) (by omega)
        replace KR := KR.set 2 (.slice A s.trace.length k)
        replace HB := HB.setCell (p := ⟨gb + 1, 2, none⟩) (show w.heap.size ≤ gb + 1 by omega) (.slice A s.trace.length k)
        replace HNF := HNF.low (g := gb + 1) (i := 2) (u := .slice A s.trace.length k) (by omega)
        replace KR := KR.set 3 (.int .i64 s.used)
        replace HB := HB.setCell (p := ⟨gb + 1, 3, none⟩) (show w.heap.size ≤ gb + 1 by omega) (.int .i64 s.used)
        replace HNF := HNF.low (g := gb + 1) (i := 3) (u := .int .i64 s.used) (by omega)
        have e0 := KR.cell 0
        have e1 := KR.cell 1
        have e2 := KR.cell 2
        have e3 := KR.cell 3
        simp at e0 e1 e2 e3
        have HN2 := HNF.more (B' := w.heap.size) (by omega)
        clear HNH KX0 KR0 KO0 HB0 HNF x3 x4 o0 o1 o2 o3 of0 of1 of2 of3 r0 r1 r2 r3 rf0 rf1 rf2 rf3
        refine bodyPost_ret (v := .agg #[.int .i64 s.code, .int .i64 s.value, .slice A s.trace.length k, .int .i64 s.used]) ?_ rfl ?_
        · simp [results, Try.results20, go_sem, e0, e1, e2, e3]
        · exact ⟨_, by rw [ENDC.out, ENDV.out], HN2, HB⟩
      · by_cases hc2 : s.code = 2
        · have ENDV := put (show (endOc s).value = s.value by simp [endOc, hc2])
          have t0 : (s.code == 0) = false := by simp [hc0]
          have t1 : (s.code == 1) = false := by simp [hc1]
          have t2 : (s.code == 2) = true := by simp [hc2]
          clear hc0 hc1 hc2
          have KO := KO0
          have KR := KR0
          have HB := HB0
          replace KO := KO.set 1 (.int .i64 s.value)
          replace KR := KR.other (g' := g) hgr 1 (.int .i64 s.value)
          replace HB : Below w.heap.size w (W2.setCell ⟨g, 1, none⟩ (.int .i64 s.value)) := HB.setCell (show w.heap.size ≤ g from hgw) _
          go_wp2
          have HNF := HNH.out (W2.setCell ⟨g, 1, none⟩ (.int .i64 s.value)) (.inr ⟨_, _, rfl⟩)
          replace KR := KR.set 0 (.int .i64 s.code)
          replace HB := HB.setCell (p := ⟨gb + 1, 0, none⟩) (show w.heap.size ≤ gb + 1 by omega) (.int .i64 s.code)
          replace HNF := HNF.low (g := gb + 1) (i := 0) (u := .int .i64 s.code) (by omega)
          replace KR := KR.set 1 (.int .i64 s.value)
          replace HB := HB.setCell (p := ⟨gb + 1, 1, none⟩) (show w.heap.size ≤ gb + 1 by omega) (.int .i64 s.value)
          replace HNF := HNF.low (g := gb + 1) (i := 1) (u := .int .i64 s.value) (by omega)
          replace KR := KR.set 2 (.slice A s.trace.length k)
          replace HB := HB.setCell (p := ⟨gb + 1, 2, none⟩) (show w.heap.size ≤ gb + 1 by omega) (.slice A s.trace.length k)
          replace HNF := HNF.low (g := gb + 1) (i := 2) (u := .slice A s.trace.length k) (by omega)
          replace KR := KR.set 3 (.int .i64 s.used)
          replace HB := HB.setCell (p := ⟨gb + 1, 3, none⟩) (show w.heap.size ≤ gb + 1 by omega) (.int .i64 s.used)
          replace HNF := HNF.low (g := gb + 1) (i := 3) (u := .int .i64 s.used) (by omega)
          have e0 := KR.cell 0
          have e1 := KR.cell 1
          have e2 := KR.cell 2
          have e3 := KR.cell 3
          simp at e0 e1 e2 e3
          have HN2 := HNF.more (B' := w.heap.size) (by omega)
          clear HNH KX0 KR0 KO0 HB0 HNF x3 x4 o0 o1 o2 o3 of0 of1 of2 of3 r0 r1 r2 r3 rf0 rf1 rf2 rf3
          refine bodyPost_ret (v := .agg #[.int .i64 s.code, .int .i64 s.value, .slice A s.trace.length k, .int .i64 s.used]) ?_ rfl ?_
          · simp [results, Try.results20, go_sem, e0, e1, e2, e3]
          · exact ⟨_, by rw [ENDC.out, ENDV.out], HN2, HB⟩
        · have ENDV := put (show (endOc s).value = 0 by simp [endOc, hc1, hc2])
          have t0 : (s.code == 0) = false := by simp [hc0]
          have t1 : (s.code == 1) = false := by simp [hc1]
          have t2 : (s.code == 2) = false := by simp [hc2]
          clear hc0 hc1 hc2
          have KO := KO0
          have KR := KR0
          have HB := HB0
          go_wp2
          have HNF := HNH.out W2 (.inl rfl)
          replace KR := KR.set 0 (.int .i64 s.code)
          replace HB := HB.setCell (p := ⟨gb + 1, 0, none⟩) (show w.heap.size ≤ gb + 1 by omega) (.int .i64 s.code)
          replace HNF := HNF.low (g := gb + 1) (i := 0) (u := .int .i64 s.code) (by omega)
          replace KR := KR.set 1 (.int .i64 0)
          replace HB := HB.setCell (p := ⟨gb + 1, 1, none⟩) (show w.heap.size ≤ gb + 1 by omega) (.int .i64 0)
          replace HNF := HNF.low (g := gb + 1) (i := 1) (u := .int .i64 0) (by omega)
          replace KR := KR.set 2 (.slice A s.trace.length k)
          replace HB := HB.setCell (p := ⟨gb + 1, 2, none⟩) (show w.heap.size ≤ gb + 1 by omega) (.slice A s.trace.length k)
          replace HNF := HNF.low (g := gb + 1) (i := 2) (u := .slice A s.trace.length k) (by omega)
          replace KR := KR.set 3 (.int .i64 s.used)
          replace HB := HB.setCell (p := ⟨gb + 1, 3, none⟩) (show w.heap.size ≤ gb + 1 by omega) (.int .i64 s.used)
          replace HNF := HNF.low (g := gb + 1) (i := 3) (u := .int .i64 s.used) (by omega)
          have e0 := KR.cell 0
          have e1 := KR.cell 1
          have e2 := KR.cell 2
          have e3 := KR.cell 3
          simp at e0 e1 e2 e3
          have HN2 := HNF.more (B' := w.heap.size) (by omega)
          clear HNH KX0 KR0 KO0 HB0 HNF x3 x4 o0 o1 o2 o3 of0 of1 of2 of3 r0 r1 r2 r3 rf0 rf1 rf2 rf3
          refine bodyPost_ret (v := .agg #[.int .i64 s.code, .int .i64 0, .slice A s.trace.length k, .int .i64 s.used]) ?_ rfl ?_
          · simp [results, Try.results20, go_sem, e0, e1, e2, e3]
          · exact ⟨_, by rw [ENDC.out, ENDV.out], HN2, HB⟩

end Go.Proofs.Ytcpjddkhclaafaa

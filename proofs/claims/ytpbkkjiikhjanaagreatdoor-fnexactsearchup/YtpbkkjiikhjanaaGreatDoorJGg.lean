/-
  Texts joined: Gg Gr Gh Ma Args ArgsI.
-/
import Derived.Test.YtpbkkjiikhjanaaGreatDoorJGl
import Derived.Test.YtpbkkjiikhjanaaGreatDoorJMy
import Derived.BigQuiet
import Derived.Test.YtpbkkjiikhjanaaGreatDoorJKit
import Derived.ProofKit
import Derived.OpenShut
import Derived.Deep.SlicePairs
import Derived.Lib.SmallJoins
import Derived.Test.YtpbkkjiikhjanaaGreatDoorJCoSz
/-
  Whether a machine is good: the reference's GoodVm; the program's goodEnd.
-/
namespace Go.Proofs.YtpbkkjiikhjanaaGreatDoor
open Go.RowKit Go.Deep Exs Ht

theorem gvB_and (cs : List Cd) (m : Mc) : gvB cs m = (giB cs && l8B cs m) := by
  rw [Bool.eq_iff_iff, gvB_iff, Bool.and_eq_true, l8B_iff]
theorem gvB_no {cs : List Cd} {m : Mc} (h : giB cs = false) : gvB cs m = false := by rw [gvB_and, h]; rfl
theorem gvB_on {cs : List Cd} {m : Mc} (h : giB cs = true) : gvB cs m = l8B cs m := by rw [gvB_and, h]; rfl

set_option maxHeartbeats 4000000 in
set_option maxRecDepth 100000 in
theorem specGoodVm_any (A : Option Addr) (n c : Nat) (cs : List Cd) (C : Option Addr) (m d : Nat) (fs : List Fr) (T2 : Option Addr) (m2 d2 : Nat) (trace : List Int) (T3 : Option Addr) (m3 d3 : Nat) (notes : List Row3) (used code value made : Int) (w : World) (hr : ReadsC w w.heap.size A n cs) (hf : ReadsFr w w.heap.size C m fs) (ht : Reads w w.heap.size .i64 T2 m2 trace) (hsm : SmallI cs) (hs : ∀ f ∈ fs, SmallFr f) (hm : m ≤ 1048576) (hm2 : m2 ≤ 1048576) :
    Calls Tryz.prog 27 #[.agg #[.slice A n c], .agg #[.slice C m d, .slice T2 m2 d2, .int .i64 used, .int .i64 code, .int .i64 value, .int .i64 made, .slice T3 m3 d3]] w fun e w' => e = .returned (.bool (gvB cs (⟨fs, trace, used, code, value, made, notes⟩ : Mc))) ∧ Below w.heap.size w w' := by
  have G0 := put (gvB_no (cs := cs) (m := (⟨fs, trace, used, code, value, made, notes⟩ : Mc)))
  have G1 := put (gvB_on (cs := cs) (m := (⟨fs, trace, used, code, value, made, notes⟩ : Mc)))
  generalize gvB cs (⟨fs, trace, used, code, value, made, notes⟩ : Mc) = ans at G0 G1 ⊢
  have HH := put (fun W (hW : Below w.heap.size w W) => specGoodImage_any A n c cs W (hr.now hW) hsm)
  have LG := put (fun (hg : giB cs = true) W (hW : Below w.heap.size w W) => l8Good_any A n c cs C m d fs T2 m2 d2 trace T3 m3 d3 notes used code value made W (hr.now hW) (hf.now hW) (ht.now hW) hs hm hm2 hg)
  clear hsm hs
  have hb0 : Below w.heap.size w ((w.alloc (.cells #[.slice A n c] 36)).alloc (.cells #[.slice C m d, .slice T2 m2 d2, .int .i64 used, .int .i64 code, .int .i64 value, .int .i64 made, .slice T3 m3 d3] 41)) := ((Below.refl _ _).alloc (Nat.le_refl _) _).alloc (by simp) _
  have kx : Keep ((w.alloc (.cells #[.slice A n c] 36)).alloc (.cells #[.slice C m d, .slice T2 m2 d2, .int .i64 used, .int .i64 code, .int .i64 value, .int .i64 made, .slice T3 m3 d3] 41)) w.heap.size #[.slice A n c] 36 := (Keep.new _ _ _).alloc _
  have kv : Keep ((w.alloc (.cells #[.slice A n c] 36)).alloc (.cells #[.slice C m d, .slice T2 m2 d2, .int .i64 used, .int .i64 code, .int .i64 value, .int .i64 made, .slice T3 m3 d3] 41)) (w.heap.size + 1) #[.slice C m d, .slice T2 m2 d2, .int .i64 used, .int .i64 code, .int .i64 value, .int .i64 made, .slice T3 m3 d3] 41 := by
    have := Keep.new (w.alloc (.cells #[.slice A n c] 36)) #[.slice C m d, .slice T2 m2 d2, .int .i64 used, .int .i64 code, .int .i64 value, .int .i64 made, .slice T3 m3 d3] 41
    rw [World.size_alloc] at this
    exact this
  go_enter Tryz.func27, Tryz.ntmps27
  go_wp2_with fail
  generalize (w.alloc (.cells #[.slice A n c] 36)).alloc (.cells #[.slice C m d, .slice T2 m2 d2, .int .i64 used, .int .i64 code, .int .i64 value, .int .i64 made, .slice T3 m3 d3] 41) = W at hb0 kx kv HH ⊢
  refine (HH.out _ hb0).mono ?_
  rintro e w1 ⟨rfl, hb1⟩
  have hbd := hb0.trans (hb1.mono hb0.size)
  have kx1 := kx.below hb1
  have kv1 := kv.below hb1
  clear kx kv hb1 hb0
  have x0 := kx1.cell 0
  simp at x0
  have y0 := kv1.cell 0
  have y1 := kv1.cell 1
  have y2 := kv1.cell 2
  have y3 := kv1.cell 3
  have y4 := kv1.cell 4
  have y5 := kv1.cell 5
  have y6 := kv1.cell 6
  simp at y0 y1 y2 y3 y4 y5 y6
  cases hg : giB cs
  · have HN := put (G0.out hg)
    go_wp2
    go_ret
    exact ⟨ret_bool HN.out.symm, hbd⟩
  · have HY := put (G1.out hg)
    go_wp2_with fail
    refine (LG.out hg _ hbd).mono ?_
    rintro e w2 ⟨rfl, hb2⟩
    rw [← HY.out]
    go_wp2
    go_ret
    exact ⟨rfl, hbd.trans (hb2.mono hbd.size)⟩


set_option maxHeartbeats 2000000 in
set_option maxRecDepth 100000 in
theorem goodEnd_any (C : Option Addr) (m d : Nat) (fs : List Fr) (T2 : Option Addr) (m2 d2 : Nat) (trace : List Int) (T3 : Option Addr) (m3 d3 : Nat) (notes : List Row3) (used code value made : Int) (w : World) (hl : fs.length = m) :
    Calls Tryz.prog 60 #[.agg #[.slice C m d, .slice T2 m2 d2, .int .i64 used, .int .i64 code, .int .i64 value, .int .i64 made, .slice T3 m3 d3]] w fun e w' => e = .returned (.bool (endB (⟨fs, trace, used, code, value, made, notes⟩ : Mc))) ∧ Below w.heap.size w w' := by
  have NO := put (fun (h : ¬ EndGd (⟨fs, trace, used, code, value, made, notes⟩ : Mc)) => (show endB (⟨fs, trace, used, code, value, made, notes⟩ : Mc) = false from no_of fun h' => h ((endB_iff _).1 h')))
  have YES := put (fun (h : EndGd (⟨fs, trace, used, code, value, made, notes⟩ : Mc)) => (endB_iff (⟨fs, trace, used, code, value, made, notes⟩ : Mc)).2 h)
  generalize endB (⟨fs, trace, used, code, value, made, notes⟩ : Mc) = ans at NO YES ⊢
  have hb0 := (Below.refl w.heap.size w).alloc (Nat.le_refl _) (Obj.cells #[.slice C m d, .slice T2 m2 d2, .int .i64 used, .int .i64 code, .int .i64 value, .int .i64 made, .slice T3 m3 d3] 41)
  by_cases z0 : code = 0
  · have b0 : (code == 0) = true := by simp [z0]
    by_cases hm : 0 < m
    · have HY := put (YES.out ⟨fun _ => by dsimp only; omega, fun h => absurd z0 h⟩)
      have HM := put hm
      clear z0 hm
      go_enter Tryz.func60, Tryz.ntmps60
      go_wp2
      go_ret
      exact ⟨ret_bool (by rw [HY.out]; exact decide_eq_true HM.out), hb0⟩
    · have HN := put (NO.out (fun h => by have := h.1 z0; dsimp only at this; omega))
      have HM := put hm
      clear z0 hm
      go_enter Tryz.func60, Tryz.ntmps60
      go_wp2
      go_ret
      exact ⟨ret_bool (by rw [HN.out]; exact decide_eq_false HM.out), hb0⟩
  · have b0 : (code == 0) = false := by simp [z0]
    by_cases z4 : code = 4
    · have b4 : (code == 4) = true := by simp [z4]
      have HY := put (YES.out ⟨fun h => absurd h z0, fun _ h => absurd z4 h⟩)
      clear z0 z4
      go_enter Tryz.func60, Tryz.ntmps60
      go_wp2
      go_ret
      exact ⟨ret_bool HY.out.symm, hb0⟩
    · have b4 : (code == 4) = false := by simp [z4]
      by_cases hm : m = 0
      · have HY := put (YES.out ⟨fun h => absurd h z0, fun _ _ => by dsimp only; omega⟩)
        have e1 : ((m : Int) == 0) = true := by simp [hm]
        clear z0 z4 hm
        go_enter Tryz.func60, Tryz.ntmps60
        go_wp2
        go_ret
        exact ⟨ret_bool HY.out.symm, hb0⟩
      · have HN := put (NO.out (fun h => by have := h.2 z0 z4; dsimp only at this; omega))
        have e1 : ((m : Int) == 0) = false := by simp [hm]
        clear z0 z4 hm
        go_enter Tryz.func60, Tryz.ntmps60
        go_wp2
        go_ret
        exact ⟨ret_bool HN.out.symm, hb0⟩

end Go.Proofs.YtpbkkjiikhjanaaGreatDoor

/-
  Whether a machine is good but for its frames: the program's goodRest.
-/
namespace Go.Proofs.YtpbkkjiikhjanaaGreatDoor
open Go.RowKit Go.Deep Exs Ht

set_option maxHeartbeats 4000000 in
set_option maxRecDepth 100000 in
theorem goodRest_any (C : Option Addr) (m d : Nat) (fs : List Fr) (T2 : Option Addr) (m2 d2 : Nat) (trace : List Int) (T3 : Option Addr) (m3 d3 : Nat) (notes : List Row3) (used code value made : Int) (w : World) (ht : Reads w w.heap.size .i64 T2 m2 trace) (hm2 : m2 ≤ 1048576) :
    Calls Tryz.prog 59 #[.agg #[.slice C m d, .slice T2 m2 d2, .int .i64 used, .int .i64 code, .int .i64 value, .int .i64 made, .slice T3 m3 d3]] w fun e w' => e = .returned (.bool (restB (⟨fs, trace, used, code, value, made, notes⟩ : Mc))) ∧ Below w.heap.size w w' := by
  have NO := put (fun (h : ¬ RestGd (⟨fs, trace, used, code, value, made, notes⟩ : Mc)) => (show restB (⟨fs, trace, used, code, value, made, notes⟩ : Mc) = false from no_of fun h' => h ((restB_iff _).1 h')))
  have YES := put (fun (h : RestGd (⟨fs, trace, used, code, value, made, notes⟩ : Mc)) => (restB_iff (⟨fs, trace, used, code, value, made, notes⟩ : Mc)).2 h)
  generalize restB (⟨fs, trace, used, code, value, made, notes⟩ : Mc) = ans at NO YES ⊢
  have hb0 := (Below.refl w.heap.size w).alloc (Nat.le_refl _) (Obj.cells #[.slice C m d, .slice T2 m2 d2, .int .i64 used, .int .i64 code, .int .i64 value, .int .i64 made, .slice T3 m3 d3] 41)
  by_cases u0 : used < 0
  · have HN := put (NO.out (fun h => by have := h.used.1; dsimp only at this; omega))
    go_enter Tryz.func59, Tryz.ntmps59
    go_wp2
    go_ret
    exact ⟨ret_bool HN.out.symm, hb0⟩
  by_cases u1 : 10 < used
  · have HN := put (NO.out (fun h => by have := h.used.2; dsimp only at this; omega))
    go_enter Tryz.func59, Tryz.ntmps59
    go_wp2
    go_ret
    exact ⟨ret_bool HN.out.symm, hb0⟩
  by_cases c0 : code < 0
  · have HN := put (NO.out (fun h => by have := h.code.1; dsimp only at this; omega))
    go_enter Tryz.func59, Tryz.ntmps59
    go_wp2
    go_ret
    exact ⟨ret_bool HN.out.symm, hb0⟩
  by_cases c1 : 4 < code
  · have HN := put (NO.out (fun h => by have := h.code.2; dsimp only at this; omega))
    go_enter Tryz.func59, Tryz.ntmps59
    go_wp2
    go_ret
    exact ⟨ret_bool HN.out.symm, hb0⟩
  by_cases m0 : made < 0
  · have HN := put (NO.out (fun h => by have := h.made.1; dsimp only at this; omega))
    go_enter Tryz.func59, Tryz.ntmps59
    go_wp2
    go_ret
    exact ⟨ret_bool HN.out.symm, hb0⟩
  by_cases m1 : 1000000 < made
  · have HN := put (NO.out (fun h => by have := h.made.2; dsimp only at this; omega))
    go_enter Tryz.func59, Tryz.ntmps59
    go_wp2
    go_ret
    exact ⟨ret_bool HN.out.symm, hb0⟩
  have HA := put (fun (hv : bound value = true) (hq : allB trace = true) => YES.out ⟨⟨Int.not_lt.1 u0, Int.not_lt.1 u1⟩, ⟨Int.not_lt.1 c0, Int.not_lt.1 c1⟩, ⟨Int.not_lt.1 m0, Int.not_lt.1 m1⟩, hv, hq⟩)
  have kv : Keep (w.alloc (.cells #[.slice C m d, .slice T2 m2 d2, .int .i64 used, .int .i64 code, .int .i64 value, .int .i64 made, .slice T3 m3 d3] 41)) w.heap.size #[.slice C m d, .slice T2 m2 d2, .int .i64 used, .int .i64 code, .int .i64 value, .int .i64 made, .slice T3 m3 d3] 41 := Keep.new w _ _
  go_enter Tryz.func59, Tryz.ntmps59
  go_wp2_with fail
  generalize w.alloc (.cells #[.slice C m d, .slice T2 m2 d2, .int .i64 used, .int .i64 code, .int .i64 value, .int .i64 made, .slice T3 m3 d3] 41) = W at hb0 kv ⊢
  refine (inBounds_any value _).mono ?_
  rintro e w1 ⟨rfl, rfl⟩
  cases hv : bound value
  · have HN := put (NO.out (fun h => by have h9 := h.value; dsimp only at h9; rw [hv] at h9; cases h9))
    go_wp2
    go_ret
    exact ⟨ret_bool HN.out.symm, hb0⟩
  have HA2 := put (HA.out hv)
  have y0 := kv.cell 0
  have y1 := kv.cell 1
  have y2 := kv.cell 2
  have y3 := kv.cell 3
  have y4 := kv.cell 4
  have y5 := kv.cell 5
  have y6 := kv.cell 6
  simp at y0 y1 y2 y3 y4 y5 y6
  go_wp2_with fail
  refine (allInBounds_any T2 m2 d2 trace W (ht.now hb0) hm2).mono ?_
  rintro e w2 ⟨rfl, rfl⟩
  cases hq : allB trace
  · have HN := put (NO.out (fun h => by have h9 := h.trace; dsimp only at h9; rw [hq] at h9; cases h9))
    go_wp2
    go_ret
    exact ⟨ret_bool HN.out.symm, hb0⟩
  · have HY := put (HA2.out hq)
    go_wp2
    go_ret
    exact ⟨ret_bool HY.out.symm, hb0⟩

end Go.Proofs.YtpbkkjiikhjanaaGreatDoor

/-
  Whether a machine is good: the program's GoodVm.
-/
namespace Go.Proofs.YtpbkkjiikhjanaaGreatDoor
open Go.RowKit Go.Deep Exs Ht

set_option maxHeartbeats 4000000 in
set_option maxRecDepth 100000 in
theorem goodVm_any (A : Option Addr) (n c : Nat) (cs : List Cd) (C : Option Addr) (m d : Nat) (fs : List Fr) (T2 : Option Addr) (m2 d2 : Nat) (trace : List Int) (T3 : Option Addr) (m3 d3 : Nat) (notes : List Row3) (used code value made : Int) (w : World) (hr : ReadsC w w.heap.size A n cs) (hf : ReadsFr w w.heap.size C m fs) (ht : Reads w w.heap.size .i64 T2 m2 trace) (hs : ∀ f ∈ fs, SmallFr f) (hm : m ≤ 1048576) (hm2 : m2 ≤ 1048576) (hkd : Kinds w) (hpos : 0 < w.heap.size) :
    Calls Tryz.prog 35 #[.agg #[.slice A n c], .agg #[.slice C m d, .slice T2 m2 d2, .int .i64 used, .int .i64 code, .int .i64 value, .int .i64 made, .slice T3 m3 d3]] w fun e w' => e = .returned (.bool (gvB cs (⟨fs, trace, used, code, value, made, notes⟩ : Mc))) ∧ Below w.heap.size w w' := by
  have NO := put (fun (h : giB cs = false ∨ restB (⟨fs, trace, used, code, value, made, notes⟩ : Mc) = false ∨ endB (⟨fs, trace, used, code, value, made, notes⟩ : Mc) = false ∨ frsB cs fs = false) => (show gvB cs (⟨fs, trace, used, code, value, made, notes⟩ : Mc) = false from no_of fun h' => by
    obtain ⟨a1, a2, a3, a4⟩ := (gvB_iff _ _).1 h'
    rcases h with h | h | h | h
    · rw [a1] at h; cases h
    · rw [(restB_iff _).2 a2] at h; cases h
    · rw [(endB_iff _).2 a3] at h; cases h
    · rw [(frsB_iff _ _).2 a4] at h; cases h))
  have YES := put (fun (h1 : giB cs = true) (h2 : restB (⟨fs, trace, used, code, value, made, notes⟩ : Mc) = true) (h3 : endB (⟨fs, trace, used, code, value, made, notes⟩ : Mc) = true) (h4 : frsB cs fs = true) => (gvB_iff cs (⟨fs, trace, used, code, value, made, notes⟩ : Mc)).2 ⟨h1, (restB_iff _).1 h2, (endB_iff _).1 h3, (frsB_iff _ _).1 h4⟩)
  generalize gvB cs (⟨fs, trace, used, code, value, made, notes⟩ : Mc) = ans at NO YES ⊢
  have HH := put (fun W (hW : Below w.heap.size w W) => goodImage_any A n c cs W (hr.now hW) (hkd.below hW hpos) (by have := hW.size; omega))
  have H2 := put (fun W (hW : Below w.heap.size w W) => goodRest_any C m d fs T2 m2 d2 trace T3 m3 d3 notes used code value made W (ht.now hW) hm2)
  have H3 := put (fun W => goodEnd_any C m d fs T2 m2 d2 trace T3 m3 d3 notes used code value made W hf.1)
  have H4 := put (fun (hg : giB cs = true) W (hW : Below w.heap.size w W) => goodFrames_any A n c cs C m d fs W (hr.now hW) (hf.now hW) hs hm hg (hkd.below hW hpos) (by have := hW.size; omega))
  clear hs hkd
  have hb0 : Below w.heap.size w ((w.alloc (.cells #[.slice A n c] 36)).alloc (.cells #[.slice C m d, .slice T2 m2 d2, .int .i64 used, .int .i64 code, .int .i64 value, .int .i64 made, .slice T3 m3 d3] 41)) := ((Below.refl _ _).alloc (Nat.le_refl _) _).alloc (by simp) _
  have kx : Keep ((w.alloc (.cells #[.slice A n c] 36)).alloc (.cells #[.slice C m d, .slice T2 m2 d2, .int .i64 used, .int .i64 code, .int .i64 value, .int .i64 made, .slice T3 m3 d3] 41)) w.heap.size #[.slice A n c] 36 := (Keep.new _ _ _).alloc _
  have kv : Keep ((w.alloc (.cells #[.slice A n c] 36)).alloc (.cells #[.slice C m d, .slice T2 m2 d2, .int .i64 used, .int .i64 code, .int .i64 value, .int .i64 made, .slice T3 m3 d3] 41)) (w.heap.size + 1) #[.slice C m d, .slice T2 m2 d2, .int .i64 used, .int .i64 code, .int .i64 value, .int .i64 made, .slice T3 m3 d3] 41 := by
    have := Keep.new (w.alloc (.cells #[.slice A n c] 36)) #[.slice C m d, .slice T2 m2 d2, .int .i64 used, .int .i64 code, .int .i64 value, .int .i64 made, .slice T3 m3 d3] 41
    rw [World.size_alloc] at this
    exact this
  go_enter Tryz.func35, Tryz.ntmps35
  go_wp2_with fail
  generalize (w.alloc (.cells #[.slice A n c] 36)).alloc (.cells #[.slice C m d, .slice T2 m2 d2, .int .i64 used, .int .i64 code, .int .i64 value, .int .i64 made, .slice T3 m3 d3] 41) = W at hb0 kx kv HH ⊢
  refine (HH.out _ hb0).mono ?_
  rintro e w1 ⟨rfl, hb1⟩
  have hbd := hb0.trans (hb1.mono hb0.size)
  have kx1 := kx.below hb1
  have kv1 := kv.below hb1
  clear kx kv hb1 hb0
  have y0 := kv1.cell 0
  have y1 := kv1.cell 1
  have y2 := kv1.cell 2
  have y3 := kv1.cell 3
  have y4 := kv1.cell 4
  have y5 := kv1.cell 5
  have y6 := kv1.cell 6
  simp at y0 y1 y2 y3 y4 y5 y6
  cases hg : giB cs
  · have HN := put (NO.out (.inl hg))
    go_wp2
    go_ret
    exact ⟨ret_bool HN.out.symm, hbd⟩
  go_wp2_with fail
  clear y0 y1 y2 y3 y4 y5 y6
  refine (H2.out _ hbd).mono ?_
  rintro e w2 ⟨rfl, hb2⟩
  have hbd2 := hbd.trans (hb2.mono hbd.size)
  have kx2 := kx1.below hb2
  have kv2 := kv1.below hb2
  clear kx1 kv1 hb2
  have y0 := kv2.cell 0
  have y1 := kv2.cell 1
  have y2 := kv2.cell 2
  have y3 := kv2.cell 3
  have y4 := kv2.cell 4
  have y5 := kv2.cell 5
  have y6 := kv2.cell 6
  simp at y0 y1 y2 y3 y4 y5 y6
  cases hg2 : restB (⟨fs, trace, used, code, value, made, notes⟩ : Mc)
  · have HN := put (NO.out (.inr (.inl hg2)))
    go_wp2
    go_ret
    exact ⟨ret_bool HN.out.symm, hbd2⟩
  go_wp2_with fail
  clear y0 y1 y2 y3 y4 y5 y6
  refine (H3.out _).mono ?_
  rintro e w3 ⟨rfl, hb3⟩
  have hbd3 := hbd2.trans (hb3.mono hbd2.size)
  have kx3 := kx2.below hb3
  have kv3 := kv2.below hb3
  clear kx2 kv2 hb3
  have x0 := kx3.cell 0
  simp at x0
  have y0 := kv3.cell 0
  have y1 := kv3.cell 1
  have y2 := kv3.cell 2
  have y3 := kv3.cell 3
  have y4 := kv3.cell 4
  have y5 := kv3.cell 5
  have y6 := kv3.cell 6
  simp at y0 y1 y2 y3 y4 y5 y6
  cases hg3 : endB (⟨fs, trace, used, code, value, made, notes⟩ : Mc)
  · have HN := put (NO.out (.inr (.inr (.inl hg3))))
    go_wp2
    go_ret
    exact ⟨ret_bool HN.out.symm, hbd3⟩
  go_wp2_with fail
  refine (H4.out hg _ hbd3).mono ?_
  rintro e w4 ⟨rfl, hb4⟩
  have hbd4 := hbd3.trans (hb4.mono hbd3.size)
  cases hg4 : frsB cs fs
  · have HN := put (NO.out (.inr (.inr (.inr hg4))))
    go_wp2
    go_ret
    exact ⟨ret_bool HN.out.symm, hbd4⟩
  · have HY := put (YES.out hg hg2 hg3 hg4)
    go_wp2
    go_ret
    exact ⟨ret_bool HY.out.symm, hbd4⟩

end Go.Proofs.YtpbkkjiikhjanaaGreatDoor

/-
  Whether a frame of a machine may stop a panic: MayStop of both sides.
-/
namespace Go.Proofs.YtpbkkjiikhjanaaGreatDoor
open Go.RowKit Go.Deep Exs Ht

theorem mayAns_no {cs : List Cd} {m : Mc} (a : Int) (h : gvB cs m = false) : mayAns cs m a = (false, false) := by unfold mayAns; rw [if_neg (by rw [h]; simp)]
theorem mayAns_out {cs : List Cd} {m : Mc} {a : Int} (h : ¬ (0 ≤ a ∧ a < (m.frames.length : Int))) : mayAns cs m a = (false, false) := by unfold mayAns; rw [if_neg (fun h' => h h'.2)]
theorem mayAns_go {cs : List Cd} {m : Mc} {k : Nat} (h : gvB cs m = true) (hk : k < m.frames.length) : mayAns cs m (k : Int) = (mayK cs m.frames k, true) := by unfold mayAns; rw [if_pos ⟨h, by omega, by omega⟩]; simp
theorem ReadsFr.drop {w : World} {B b off m k : Nat} {fs : List Fr} (h : ReadsFr w B (some ⟨b, off, none⟩) m fs) (hk : k < m) : ReadsFr w B (some ⟨b, off + k * 11, none⟩) (m - k) (fs.drop k) := by
  obtain ⟨b', off', hA, hB, hc⟩ := h.2 (by omega)
  injection hA with hA
  injection hA with q1 q2
  subst q1 q2
  refine ⟨by rw [List.length_drop, h.1], fun _ => ⟨b, _, rfl, hB, fun j s hs => ?_⟩⟩
  rw [List.getElem?_drop] at hs
  obtain ⟨A1, n1, c1, A2, n2, c2, A3, n3, c3, h0, r⟩ := hc (k + j) s hs
  exact ⟨A1, n1, c1, A2, n2, c2, A3, n3, c3, fun i u hu => by have := h0 i u hu; rwa [show off + (k + j) * 11 + i = off + k * 11 + j * 11 + i by omega] at this, r⟩

set_option maxHeartbeats 4000000 in
set_option maxRecDepth 100000 in
theorem specMayStop_any (A : Option Addr) (n c : Nat) (cs : List Cd) (C : Option Addr) (m d : Nat) (fs : List Fr) (T2 : Option Addr) (m2 d2 : Nat) (trace : List Int) (T3 : Option Addr) (m3 d3 : Nat) (notes : List Row3) (used code value made a : Int) (w : World) (hr : ReadsC w w.heap.size A n cs) (hf : ReadsFr w w.heap.size C m fs) (ht : Reads w w.heap.size .i64 T2 m2 trace) (hsm : SmallI cs) (hs : ∀ f ∈ fs, SmallFr f) (hm : m ≤ 1048576) (hm2 : m2 ≤ 1048576) :
    Calls Tryz.prog 8 #[.agg #[.slice A n c], .agg #[.slice C m d, .slice T2 m2 d2, .int .i64 used, .int .i64 code, .int .i64 value, .int .i64 made, .slice T3 m3 d3], .int .i64 a] w fun e w' => e = .returned (.tuple #[.bool (mayAns cs (⟨fs, trace, used, code, value, made, notes⟩ : Mc) a).1, .bool (mayAns cs (⟨fs, trace, used, code, value, made, notes⟩ : Mc) a).2]) ∧ Below w.heap.size w w' := by
  have G0 := put (mayAns_no (cs := cs) (m := (⟨fs, trace, used, code, value, made, notes⟩ : Mc)) a)
  have G1 := put (mayAns_out (cs := cs) (m := (⟨fs, trace, used, code, value, made, notes⟩ : Mc)) (a := a))
  have G2 := put (fun (hg : gvB cs (⟨fs, trace, used, code, value, made, notes⟩ : Mc) = true) (k : Nat) (hk : k < fs.length) (ha : a = (k : Int)) => show mayAns cs (⟨fs, trace, used, code, value, made, notes⟩ : Mc) a = (mayK cs fs k, true) by rw [ha]; exact mayAns_go hg hk)
  generalize mayAns cs (⟨fs, trace, used, code, value, made, notes⟩ : Mc) a = ans at G0 G1 G2 ⊢
  have GV := put (fun W (hW : Below w.heap.size w W) => specGoodVm_any A n c cs C m d fs T2 m2 d2 trace T3 m3 d3 notes used code value made W (hr.now hW) (hf.now hW) (ht.now hW) hsm hs hm hm2)
  have LM := put (fun (hg : gvB cs (⟨fs, trace, used, code, value, made, notes⟩ : Mc) = true) (k : Nat) (hk : k < m) W (hW : Below w.heap.size w W) => l9May_any A n c cs C m d fs T2 m2 d2 T3 m3 d3 used code value made k W (hr.now hW) (hf.now hW) hs hm (gdF_of hg) hk (fun c hc => (hsm.2 c hc).2.1))
  have HFL := put hf.1
  have HM := put hm
  clear hsm hs hr hf ht
  have hb0 : Below w.heap.size w ((w.alloc (.cells #[.slice A n c] 36)).alloc (.cells #[.slice C m d, .slice T2 m2 d2, .int .i64 used, .int .i64 code, .int .i64 value, .int .i64 made, .slice T3 m3 d3] 41)) := ((Below.refl _ _).alloc (Nat.le_refl _) _).alloc (by simp) _
  have kx : Keep ((w.alloc (.cells #[.slice A n c] 36)).alloc (.cells #[.slice C m d, .slice T2 m2 d2, .int .i64 used, .int .i64 code, .int .i64 value, .int .i64 made, .slice T3 m3 d3] 41)) w.heap.size #[.slice A n c] 36 := (Keep.new _ _ _).alloc _
  have kv : Keep ((w.alloc (.cells #[.slice A n c] 36)).alloc (.cells #[.slice C m d, .slice T2 m2 d2, .int .i64 used, .int .i64 code, .int .i64 value, .int .i64 made, .slice T3 m3 d3] 41)) (w.heap.size + 1) #[.slice C m d, .slice T2 m2 d2, .int .i64 used, .int .i64 code, .int .i64 value, .int .i64 made, .slice T3 m3 d3] 41 := by
    have := Keep.new (w.alloc (.cells #[.slice A n c] 36)) #[.slice C m d, .slice T2 m2 d2, .int .i64 used, .int .i64 code, .int .i64 value, .int .i64 made, .slice T3 m3 d3] 41
    rw [World.size_alloc] at this
    exact this
  have hwm : IntKind.i64.wrap ((m : Int) - 1) = (m : Int) - 1 := IntWalk.i64_in _ ⟨by omega, by omega⟩
  go_enter Tryz.func8, Tryz.ntmps8
  go_wp2_with fail
  generalize ((w.alloc (.cells #[.slice A n c] 36)).alloc (.cells #[.slice C m d, .slice T2 m2 d2, .int .i64 used, .int .i64 code, .int .i64 value, .int .i64 made, .slice T3 m3 d3] 41)) = W at hb0 kx kv GV ⊢
  refine (GV.out _ hb0).mono ?_
  rintro e w1 ⟨rfl, hb1⟩
  have hbd := hb0.trans (hb1.mono hb0.size)
  have kx1 := kx.below hb1
  have kv1 := kv.below hb1
  clear kx kv hb1 hb0
  have x0 := kx1.cell 0
  have y0 := kv1.cell 0
  have y1 := kv1.cell 1
  have y2 := kv1.cell 2
  have y3 := kv1.cell 3
  have y4 := kv1.cell 4
  have y5 := kv1.cell 5
  have y6 := kv1.cell 6
  simp at x0 y0 y1 y2 y3 y4 y5 y6
  cases hg : gvB cs (⟨fs, trace, used, code, value, made, notes⟩ : Mc)
  · have HN := put (G0.out hg)
    go_wp2_with fail
    go_wp2
    go_ret2
    exact ⟨by rw [HN.out]; rfl, hbd⟩
  by_cases ha : 0 ≤ a ∧ a < (m : Int)
  case neg =>
    have HN := put (G1.out (show ¬ (0 ≤ a ∧ a < (fs.length : Int)) by rw [HFL.out]; exact ha))
    have hw : within a 0 ((m : Int) - 1) = false := by rw [← Bool.not_eq_true, within_iff]; omega
    go_wp2_with fail
    refine (l1In_any a 0 ((m : Int) - 1) _).mono ?_
    rintro e w2 ⟨rfl, rfl⟩
    rw [hw]
    go_wp2
    go_ret2
    exact ⟨by rw [HN.out]; rfl, hbd⟩
  obtain ⟨k, rfl⟩ : ∃ k : Nat, a = (k : Int) := ⟨a.toNat, by omega⟩
  have hkm : k < m := by omega
  have HY := put (G2.out hg k (by rw [HFL.out]; exact hkm) rfl)
  have hw : within (k : Int) 0 ((m : Int) - 1) = true := (within_iff _ _ _).2 (by omega)
  clear G0 G1 G2
  go_wp2_with fail
  refine (l1In_any (k : Int) 0 ((m : Int) - 1) _).mono ?_
  rintro e w2 ⟨rfl, rfl⟩
  rw [hw]
  go_wp2_with fail
  refine (LM.out hg k hkm _ hbd).mono ?_
  rintro e w2 ⟨rfl, hb2⟩
  go_wp2
  go_ret2
  exact ⟨by rw [HY.out]; rfl, hbd.trans (hb2.mono hbd.size)⟩

set_option maxHeartbeats 4000000 in
set_option maxRecDepth 100000 in
theorem implMayStop_any (A : Option Addr) (n c : Nat) (cs : List Cd) (C : Option Addr) (m d : Nat) (fs : List Fr) (T2 : Option Addr) (m2 d2 : Nat) (trace : List Int) (T3 : Option Addr) (m3 d3 : Nat) (notes : List Row3) (used code value made a : Int) (w : World) (hr : ReadsC w w.heap.size A n cs) (hf : ReadsFr w w.heap.size C m fs) (ht : Reads w w.heap.size .i64 T2 m2 trace) (hsm : SmallI cs) (hs : ∀ f ∈ fs, SmallFr f) (hm : m ≤ 1048576) (hm2 : m2 ≤ 1048576) (hd : m ≤ d) (hkd : Kinds w) (hpos : 0 < w.heap.size) :
    Calls Tryz.prog 11 #[.agg #[.slice A n c], .agg #[.slice C m d, .slice T2 m2 d2, .int .i64 used, .int .i64 code, .int .i64 value, .int .i64 made, .slice T3 m3 d3], .int .i64 a] w fun e w' => e = .returned (.tuple #[.bool (mayAns cs (⟨fs, trace, used, code, value, made, notes⟩ : Mc) a).1, .bool (mayAns cs (⟨fs, trace, used, code, value, made, notes⟩ : Mc) a).2]) ∧ Below w.heap.size w w' := by
  have G0 := put (mayAns_no (cs := cs) (m := (⟨fs, trace, used, code, value, made, notes⟩ : Mc)) a)
  have G1 := put (mayAns_out (cs := cs) (m := (⟨fs, trace, used, code, value, made, notes⟩ : Mc)) (a := a))
  have G2 := put (fun (hg : gvB cs (⟨fs, trace, used, code, value, made, notes⟩ : Mc) = true) (k : Nat) (hk : k < fs.length) (ha : a = (k : Int)) => show mayAns cs (⟨fs, trace, used, code, value, made, notes⟩ : Mc) a = (mayK cs fs k, true) by rw [ha]; exact mayAns_go hg hk)
  generalize mayAns cs (⟨fs, trace, used, code, value, made, notes⟩ : Mc) a = ans at G0 G1 G2 ⊢
  have GV := put (fun W (hW : Below w.heap.size w W) => goodVm_any A n c cs C m d fs T2 m2 d2 trace T3 m3 d3 notes used code value made W (hr.now hW) (hf.now hW) (ht.now hW) hs hm hm2 (hkd.below hW hpos) (by have := hW.size; omega))
  have LM := put (fun (hg : gvB cs (⟨fs, trace, used, code, value, made, notes⟩ : Mc) = true) (k : Nat) (hk : k < m) (b o : Nat) (hC : C = some ⟨b, o, none⟩) W (hW : Below w.heap.size w W) => show Calls Tryz.prog 36 #[.agg #[.slice A n c], .slice (some ⟨b, o + k * 11, none⟩) (m - k) (d - k)] W (fun e w' => e = .returned (.bool (mayK cs fs k)) ∧ Below W.heap.size W w') by
    have h1 := mayStop_any A n c cs (some ⟨b, o + k * 11, none⟩) (m - k) (d - k) (fs.drop k) W (hr.now hW) (ReadsFr.drop (by subst hC; exact hf.now hW) hk) (fun f hf' => hs f (List.mem_of_mem_drop hf')) (by omega) (fun f hf' => gdF_of hg f (List.mem_of_mem_drop hf')) (by omega) (fun c hc => (hsm.2 c hc).2.1)
    rwa [mayK_drop] at h1)
  have HAT := put (fun k (hk : k < m) => (ReadsFr.at_ hf hk))
  have HFL := put hf.1
  have HM := put hm
  clear hs hkd hr hf ht hsm
  have hb0 : Below w.heap.size w ((w.alloc (.cells #[.slice A n c] 36)).alloc (.cells #[.slice C m d, .slice T2 m2 d2, .int .i64 used, .int .i64 code, .int .i64 value, .int .i64 made, .slice T3 m3 d3] 41)) := ((Below.refl _ _).alloc (Nat.le_refl _) _).alloc (by simp) _
  have kx : Keep ((w.alloc (.cells #[.slice A n c] 36)).alloc (.cells #[.slice C m d, .slice T2 m2 d2, .int .i64 used, .int .i64 code, .int .i64 value, .int .i64 made, .slice T3 m3 d3] 41)) w.heap.size #[.slice A n c] 36 := (Keep.new _ _ _).alloc _
  have kv : Keep ((w.alloc (.cells #[.slice A n c] 36)).alloc (.cells #[.slice C m d, .slice T2 m2 d2, .int .i64 used, .int .i64 code, .int .i64 value, .int .i64 made, .slice T3 m3 d3] 41)) (w.heap.size + 1) #[.slice C m d, .slice T2 m2 d2, .int .i64 used, .int .i64 code, .int .i64 value, .int .i64 made, .slice T3 m3 d3] 41 := by
    have := Keep.new (w.alloc (.cells #[.slice A n c] 36)) #[.slice C m d, .slice T2 m2 d2, .int .i64 used, .int .i64 code, .int .i64 value, .int .i64 made, .slice T3 m3 d3] 41
    rw [World.size_alloc] at this
    exact this
  have v0 := kv.cell 0
  have v1 := kv.cell 1
  have v2 := kv.cell 2
  have v3 := kv.cell 3
  have v4 := kv.cell 4
  have v5 := kv.cell 5
  have v6 := kv.cell 6
  have u0 := kx.cell 0
  simp only [List.getElem?_toArray, List.getElem?_cons_zero, List.getElem?_cons_succ] at v0 v1 v2 v3 v4 v5 v6 u0
  go_enter Tryz.func11, Tryz.ntmps11
  go_wp2_with fail
  generalize ((w.alloc (.cells #[.slice A n c] 36)).alloc (.cells #[.slice C m d, .slice T2 m2 d2, .int .i64 used, .int .i64 code, .int .i64 value, .int .i64 made, .slice T3 m3 d3] 41)) = W at hb0 kx kv v0 v1 v2 v3 v4 v5 v6 u0 GV LM ⊢
  refine (hasFrame_any C m d T2 m2 d2 T3 m3 d3 used code value made a W).mono ?_
  rintro e w0 ⟨rfl, hb⟩
  have hb0' := hb0.trans (hb.mono hb0.size)
  have kx0 := kx.below hb
  have kv0 := kv.below hb
  clear kx kv v0 v1 v2 v3 v4 v5 v6 u0 hb hb0
  have x0 := kx0.cell 0
  have y0 := kv0.cell 0
  have y1 := kv0.cell 1
  have y2 := kv0.cell 2
  have y3 := kv0.cell 3
  have y4 := kv0.cell 4
  have y5 := kv0.cell 5
  have y6 := kv0.cell 6
  simp at x0 y0 y1 y2 y3 y4 y5 y6
  by_cases ha : 0 ≤ a ∧ a < (m : Int)
  case neg =>
    have HN := put (G1.out (show ¬ (0 ≤ a ∧ a < (fs.length : Int)) by rw [HFL.out]; exact ha))
    have hq : decide (0 ≤ a ∧ a < (m : Int)) = false := decide_eq_false ha
    rw [hq]
    go_wp2
    go_ret2
    exact ⟨by rw [HN.out]; rfl, hb0'⟩
  have hq : decide (0 ≤ a ∧ a < (m : Int)) = true := decide_eq_true ha
  rw [hq]
  go_wp2_with fail
  refine (GV.out _ hb0').mono ?_
  rintro e w1 ⟨rfl, hb1⟩
  have hbd := hb0'.trans (hb1.mono hb0'.size)
  have kx1 := kx0.below hb1
  have kv1 := kv0.below hb1
  clear kx0 kv0 x0 y0 y1 y2 y3 y4 y5 y6 hb1 hb0'
  have x0 := kx1.cell 0
  have y0 := kv1.cell 0
  simp at x0 y0
  cases hg : gvB cs (⟨fs, trace, used, code, value, made, notes⟩ : Mc)
  · have HN := put (G0.out hg)
    go_wp2
    go_ret2
    exact ⟨by rw [HN.out]; rfl, hbd⟩
  obtain ⟨k, rfl⟩ : ∃ k : Nat, a = (k : Int) := ⟨a.toNat, by omega⟩
  have hkm : k < m := by omega
  have HY := put (G2.out hg k (by rw [HFL.out]; exact hkm) rfl)
  obtain ⟨bC, oC, _, _, _, _, _, _, _, _, _, _, hC, _⟩ := HAT.out k hkm
  subst hC
  have MS := put (fun W (hW : Below w1.heap.size w1 W) => LM.out hg k hkm bC oC rfl W (hbd.trans (hW.mono hbd.size)))
  have hkI : (k : Int) ≤ (m : Int) := by omega
  have hk0 : (0 : Int) ≤ (k : Int) := by omega
  have hne : ¬ d = k := by omega
  have ux := cell_regrown x0
  have uy := cell_regrown y0
  clear G0 G1 G2 GV HAT x0 y0 kx1 kv1 hq ha
  go_wp2_with fail
  refine wp_region_quiet_below (by kernel_rfl) (by kernel_rfl) ?_
  repeat (first | go_big_quiet_step ((go_at_call 36; exact Calls.regrown_of (MS.out _ (below_regrown w1 _ _)))) | quiet_step (fail))
  refine wpQuiet_nil ?_
  intro _ hw'
  obtain ⟨⟨dq, osq⟩, hw''⟩ := hw'
  subst hw''
  go_wp2
  go_ret2
  exact ⟨by rw [HY.out]; rfl, hbd.trans ((below_regrown w1 dq osq).mono hbd.size)⟩

end Go.Proofs.YtpbkkjiikhjanaaGreatDoor

/-
  Arguments opened to what the walks ask: slices of ints, slices of tokens, tokens. Over any program.
-/
namespace Go.Proofs.YtpbkkjiikhjanaaGreatDoor
open Go.ChangeShapes Go.WideShapes Go.ChangeAt Go.RowKit Go.Deep Exs

section
variable {H : Type} {enc : TypeId × Value → H} {P : Program} {w : World} {held : Bool}

theorem addr_add_none {b off : Nat} (j : Nat) : (⟨b, off, none⟩ : Addr).add j = ⟨b, off + j, none⟩ := by unfold Addr.add; split <;> simp_all

/-- A slice of integers that came in. -/
theorem open_reads {t e : TypeId} {k : IntKind} {a : Option Addr} {len cap : Nat} {d : DataW H} {p : List MemPlace} (ht : P.underlying t = some (.slice e)) (he : P.underlying e = some (.int k)) (ce : P.cellsOf e = 1)
    (h : DataW.Trod enc P w 0 (fun _ => true) held t (.slice a len cap) d p) : ∃ xs, Reads w w.heap.size k a len xs ∧ len ≤ maxLen ∧ ∀ x ∈ xs, (Lit.int k x).wf = true := by
  obtain ⟨fuel, hf⟩ := h
  rcases open_ints ht he ce hf with ⟨hcs, _⟩ | ⟨x, l, c, zs, hcs, _, hl, hm, hz, _, hcell, hwz⟩
  · simp [Value.cells] at hcs
    obtain ⟨rfl, rfl, rfl⟩ := hcs
    exact ⟨[], ⟨rfl, fun h => absurd h (by omega)⟩, by unfold maxLen; omega, by simp⟩
  · simp [Value.cells] at hcs
    obtain ⟨rfl, rfl, rfl⟩ := hcs
    exact ⟨zs.take len, reads_of_row (.inr ⟨_, rfl, hl, hm, by simpa using hz, hcell, hwz⟩), by omega, fun x hx => hwz x (List.mem_of_mem_take hx)⟩

/-- A slice of structs of two ints that came in. -/
theorem open_readsT {t e : TypeId} {f0 f1 : Field} {a : Option Addr} {len cap : Nat} {d : DataW H} {p : List MemPlace} (ht : P.underlying t = some (.slice e)) (he : P.underlying e = some (.struct #[f0, f1])) (ce : P.cellsOf e = 2)
    (o0 : f0.offset = 0) (o1 : f1.offset = 1) (c0 : P.cellsOf f0.type = 1) (c1 : P.cellsOf f1.type = 1) (u0 : P.underlying f0.type = some (.int .i64)) (u1 : P.underlying f1.type = some (.int .i64))
    (h : DataW.Trod enc P w 0 (fun _ => true) held t (.slice a len cap) d p) : ∃ ts, ReadsT w w.heap.size a len ts ∧ len ≤ maxLen := by
  obtain ⟨fuel, hf⟩ := h
  rcases Go.Deep.open_slice_pairs ht he ce o0 o1 c0 c1 hf with ⟨hcs, _⟩ | ⟨x, l, c, m, n, V0, V1, D0, D1, P0, P1, hcs, _, hl, hcap, hm, _, hi⟩
  · simp [Value.cells] at hcs
    obtain ⟨rfl, rfl, rfl⟩ := hcs
    exact ⟨[], ⟨rfl, rfl, fun h => absurd h (by omega)⟩, by unfold maxLen; omega⟩
  · simp [Value.cells] at hcs
    obtain ⟨rfl, rfl, rfl⟩ := hcs
    simp only [if_true] at hm
    subst hm
    refine ⟨(List.range len).map fun i => (intOf (V0 i), intOf (V1 i)), ⟨by simp, by rw [flat_length]; simp, fun hn => ?_⟩, by omega⟩
    have hz := hi 0 (by omega)
    obtain ⟨b, off, spot⟩ := x
    have hspot : spot = none := by
      have := World.cell?_spot hz.1
      simpa [Addr.add] using this
    subst hspot
    refine ⟨b, off, rfl, ?_, ?_⟩
    · have := World.block_lt_of_cell? w _ hz.1
      rw [addr_add_none] at this
      exact this
    · intro j y hy
      have hj : j < 2 * len := by
        have := (List.getElem?_eq_some_iff.1 hy).1
        rw [flat_length] at this
        simpa using this
      have hk : j / 2 < len := by omega
      obtain ⟨g0, g1, t0, t1⟩ := hi (j / 2) (by omega)
      obtain ⟨n0, e0, _, _⟩ := DataW.trod_int u0 t0
      obtain ⟨n1, e1, _, _⟩ := DataW.trod_int u1 t1
      have hfa := flat_at (ts := (List.range len).map fun i => (intOf (V0 i), intOf (V1 i))) (j := j / 2) (t := (intOf (V0 (j / 2)), intOf (V1 (j / 2)))) (by simp [hk])
      injection e0 with e0
      injection e1 with e1
      rw [addr_add_none] at g0 g1
      rw [e0] at g0 hfa
      rw [e1] at g1 hfa
      by_cases hpar : j % 2 = 0
      · have hjj : j = 2 * (j / 2) := by omega
        rw [hjj, hfa.1] at hy
        injection hy with hy
        rw [show off + j = off + j / 2 * 2 by omega, g0, ← hy]
        rfl
      · have hjj : j = 2 * (j / 2) + 1 := by omega
        rw [hjj, hfa.2] at hy
        injection hy with hy
        rw [show off + j = off + (j / 2 * 2 + 1) by omega, g1, ← hy]
        rfl

/-- A struct of two ints that came in. -/
theorem open_tok {r : Reach} {b0 : Nat} {t : TypeId} {f0 f1 : Field} {v : Value} {d : DataW H} {p : List MemPlace} (hs : P.underlying t = some (.struct #[f0, f1])) (hone : oneCellFields P #[f0, f1] = true) (hC : P.cellsOf t = 2)
    (u0 : P.underlying f0.type = some (.int .i64)) (u1 : P.underlying f1.type = some (.int .i64))
    (hv : Value.okWide P w r b0 t v) (h : DataW.Trod enc P w 0 (fun _ => true) held t v d p) : ∃ op x : Int, v = .agg #[.int .i64 op, .int .i64 x] := by
  obtain ⟨v0, v1, y0, y1, n, rfl, _, _, h0, h1⟩ := Go.Joins.open_agg2 hs hone hC hv h
  obtain ⟨n0, e0, _, _⟩ := DataW.trod_int u0 h0
  obtain ⟨n1, e1, _, _⟩ := DataW.trod_int u1 h1
  injection e0 with e0
  injection e1 with e1
  exact ⟨n0, n1, by rw [e0, e1]⟩
end

end Go.Proofs.YtpbkkjiikhjanaaGreatDoor

/-
  An image that came in, opened to what the walks ask.
-/
namespace Go.Proofs.YtpbkkjiikhjanaaGreatDoor
open Go.ChangeShapes Go.WideShapes Go.ChangeAt Go.RowKit Go.Deep Exs

section
variable {H : Type} {enc : TypeId × Value → H} {P : Program} {w : World} {held : Bool}

/-- A slice of structs of one-cell fields, opened at every index. -/
theorem open_rows {t e : TypeId} {fs : Array Field} {N fuel : Nat} {cs : List Value} {x : DataW H × List MemPlace} (ht : P.underlying t = some (.slice e)) (he : P.underlying e = some (.struct fs)) (ce : P.cellsOf e = N) (hone : oneCellFields P fs = true) (hN : 0 < N) (hfs : fs.size = N)
    (h : DataW.trod enc P w 0 (fun _ => true) held fuel t cs = some x) :
    ∃ (A : Option Addr) (len cap : Nat), cs = [.slice A len cap] ∧ len ≤ maxLen ∧ (0 < len → ∃ b off, A = some ⟨b, off, none⟩ ∧ b < w.heap.size ∧ ∀ i, i < len → ∃ cs' : List Value, cs'.length = N ∧ (∀ j, j < N → w.cell? ⟨b, off + (i * N + j), none⟩ = cs'[j]?) ∧
      ∀ (j : Nat) (f : Field), fs[j]? = some f → ∃ v y n, cs'[j]? = some v ∧ DataW.trod enc P w 0 (fun _ => true) held n f.type [v] = some y) := by
  rcases open_slice ht h with ⟨h0, _⟩ | ⟨a, len, cap, m, n, D, Pl, rfl, hb, hl, hm, hmm, rfl, hx⟩
  · exact ⟨none, 0, 0, h0, by unfold maxLen; omega, fun h => absurd h (by omega)⟩
  simp only [if_true] at hmm
  subst hmm
  refine ⟨some a, len, _, rfl, by omega, fun hlen => ?_⟩
  obtain ⟨b, off, spot⟩ := a
  obtain ⟨cs0, h0, _⟩ := hx 0 (by omega)
  obtain ⟨_, hl0, hc0⟩ := World.cells?_some h0
  have hz := hc0 0 (by omega)
  rw [List.getElem?_eq_getElem (by omega)] at hz
  have hspot : spot = none := by
    have := World.cell?_spot hz
    simpa [Addr.add] using this
  subst hspot
  refine ⟨b, off, rfl, ?_, fun i hi => ?_⟩
  · have := World.block_lt_of_cell? w _ hz
    simpa [addr_add_none] using this
  · obtain ⟨cs', h1, h2⟩ := hx i (by omega)
    rw [ce] at h1
    obtain ⟨_, hlc, hcell⟩ := World.cells?_some h1
    obtain ⟨xs, k, hk, _, _, hxl, hf⟩ := DataW.trod_struct he h2
    refine ⟨cs', hlc, fun j hj => ?_, fun j f hfj => ?_⟩
    · have := hcell j hj
      rw [addr_add_none, addr_add_none] at this
      rw [← this]
      congr 2
      omega
    · obtain ⟨o, c⟩ := hone_of hone j f hfj
      have hjN : j < N := by rw [← hfs]; exact (Array.getElem?_eq_some_iff.1 hfj).1
      have hjj := hf j f hfj
      rw [o, c, List.drop_eq_getElem_cons (by omega), List.take_succ_cons, List.take_zero] at hjj
      rw [List.getElem?_eq_getElem (by rw [hxl]; omega)] at hjj
      exact ⟨_, _, _, List.getElem?_eq_getElem (by omega), hjj⟩
end

section
variable {H : Type} {enc : TypeId × Value → H} {w : World} {held : Bool}

theorem cell_reads {t : TypeId} {v : Value} {n : Nat} {y : DataW H × List MemPlace} (ht : Tryz.prog.underlying t = some (.slice 3)) (h : DataW.trod enc Tryz.prog w 0 (fun _ => true) held n t [v] = some y) : ∃ A m c xs, v = .slice A m c ∧ Reads w w.heap.size .i64 A m xs ∧ m ≤ maxLen := by
  rcases open_slice ht h with ⟨h0, _⟩ | ⟨a, len, cap, m', n', D, Pl, h0, _⟩
  · injection h0 with h0; subst h0
    obtain ⟨xs, h1, h2, _⟩ := open_reads (d := y.1) (p := y.2) ht Tryz.underlying3 (by kernel_rfl) ⟨n, by simpa [Value.cells] using h⟩
    exact ⟨_, _, _, xs, rfl, h1, h2⟩
  · injection h0 with h0; subst h0
    obtain ⟨xs, h1, h2, _⟩ := open_reads (d := y.1) (p := y.2) ht Tryz.underlying3 (by kernel_rfl) ⟨n, by simpa [Value.cells] using h⟩
    exact ⟨_, _, _, xs, rfl, h1, h2⟩
theorem cell_int {v : Value} {n : Nat} {y : DataW H × List MemPlace} (h : DataW.trod enc Tryz.prog w 0 (fun _ => true) held n 3 [v] = some y) : ∃ x : Int, v = .int .i64 x := by
  obtain ⟨x, h1, _⟩ := DataW.trod_int Tryz.underlying3 h
  injection h1 with h1
  exact ⟨x, h1⟩
theorem cell_toks {v : Value} {n : Nat} {y : DataW H × List MemPlace} (h : DataW.trod enc Tryz.prog w 0 (fun _ => true) held n 91 [v] = some y) : ∃ A m c ts, v = .slice A m c ∧ ReadsT w w.heap.size A m ts ∧ m ≤ maxLen := by
  have key : ∀ {A : Option Addr} {m c : Nat}, DataW.trod enc Tryz.prog w 0 (fun _ => true) held n 91 [.slice A m c] = some y → ∃ ts, ReadsT w w.heap.size A m ts ∧ m ≤ maxLen := fun h => open_readsT (d := y.1) (p := y.2) Tryz.underlying91 Tryz.underlying154 (by kernel_rfl) rfl rfl (by kernel_rfl) (by kernel_rfl) Tryz.underlying3 Tryz.underlying3 ⟨n, by simpa [Value.cells] using h⟩
  rcases open_slice Tryz.underlying91 h with ⟨h0, _⟩ | ⟨a, len, cap, m', n', D, Pl, h0, _⟩
  · injection h0 with h0; subst h0
    obtain ⟨ts, h1, h2⟩ := key h
    exact ⟨_, _, _, ts, rfl, h1, h2⟩
  · injection h0 with h0; subst h0
    obtain ⟨ts, h1, h2⟩ := key h
    exact ⟨_, _, _, ts, rfl, h1, h2⟩

theorem list_of {α : Type} {Q : Nat → α → Prop} : ∀ (n : Nat), (∀ i, i < n → ∃ s, Q i s) → ∃ ss : List α, ss.length = n ∧ ∀ (i : Nat) (s : α), ss[i]? = some s → Q i s
  | 0, _ => ⟨[], rfl, fun i s h => by simp at h⟩
  | n + 1, h => by
    obtain ⟨ss, h1, h2⟩ := list_of n (fun i hi => h i (by omega))
    obtain ⟨s, hs⟩ := h n (by omega)
    refine ⟨ss ++ [s], by simp [h1], fun i s' hi => ?_⟩
    by_cases hl : i < ss.length
    · rw [List.getElem?_append_left hl] at hi; exact h2 i s' hi
    · have hi2 : i = n := by have := (List.getElem?_eq_some_iff.1 hi).1; simp at this; omega
      subst hi2
      rw [List.getElem?_append_right (by omega), h1, Nat.sub_self] at hi
      simp at hi
      subst hi
      exact hs


/-- A slice of rows that came in. -/
theorem cell_rows {v : Value} {n : Nat} {y : DataW H × List MemPlace} (h : DataW.trod enc Tryz.prog w 0 (fun _ => true) held n 92 [v] = some y) : ∃ A m c rs, v = .slice A m c ∧ ReadsR w w.heap.size A m rs ∧ m ≤ maxLen := by
  obtain ⟨A, m, c, h0, hm, hrow⟩ := open_rows (N := 3) Tryz.underlying92 Tryz.underlying156 (by kernel_rfl) (by kernel_rfl) (by decide) rfl h
  injection h0 with h0
  subst h0
  by_cases hpos : 0 < m
  · obtain ⟨b, off, rfl, hb, hi⟩ := hrow hpos
    obtain ⟨rs, hl, hq⟩ := list_of (Q := fun i (r : Row3) => w.cell? ⟨b, off + i * 3, none⟩ = some (.int .i64 r.1) ∧ w.cell? ⟨b, off + i * 3 + 1, none⟩ = some (.int .i64 r.2.1) ∧ w.cell? ⟨b, off + i * 3 + 2, none⟩ = some (.int .i64 r.2.2)) m (fun i hlt => by
        obtain ⟨cs', hlc, hcell, hf⟩ := hi i hlt
        obtain ⟨v0, y0, k0, e0, t0⟩ := hf 0 _ rfl
        obtain ⟨v1, y1, k1, e1, t1⟩ := hf 1 _ rfl
        obtain ⟨v2, y2, k2, e2, t2⟩ := hf 2 _ rfl
        obtain ⟨x, rfl⟩ := cell_int t0
        obtain ⟨yy, rfl⟩ := cell_int t1
        obtain ⟨z, rfl⟩ := cell_int t2
        have g := fun j hj => hcell j hj
        refine ⟨(x, yy, z), ?_, ?_, ?_⟩
        · have := g 0 (by omega); rw [e0] at this; simpa using this
        · have := g 1 (by omega); rw [e1] at this; rw [← this]; rfl
        · have := g 2 (by omega); rw [e2] at this; rw [← this]; rfl)
    refine ⟨_, _, _, rs, rfl, ⟨hl, by rw [flat3_length, hl], fun _ => ⟨b, off, rfl, hb, fun j x hx => ?_⟩⟩, hm⟩
    have hj : j < 3 * m := by
      have := (List.getElem?_eq_some_iff.1 hx).1
      rw [flat3_length, hl] at this
      exact this
    have hk : j / 3 < rs.length := by omega
    have hg := List.getElem?_eq_getElem hk
    have hfa := flat3_at hg
    obtain ⟨q0, q1, q2⟩ := hq _ _ hg
    rcases (show j = 3 * (j / 3) ∨ j = 3 * (j / 3) + 1 ∨ j = 3 * (j / 3) + 2 by omega) with hjj | hjj | hjj
    · rw [hjj, hfa.1] at hx
      injection hx with hx
      rw [show off + j = off + j / 3 * 3 by omega, q0, hx]
    · rw [hjj, hfa.2.1] at hx
      injection hx with hx
      rw [show off + j = off + j / 3 * 3 + 1 by omega, q1, hx]
    · rw [hjj, hfa.2.2] at hx
      injection hx with hx
      rw [show off + j = off + j / 3 * 3 + 2 by omega, q2, hx]
  · exact ⟨A, m, c, [], rfl, ⟨by simp; omega, by simp [flat3]; omega, fun h => absurd h (by omega)⟩, hm⟩
/-- A slice of codes that came in. -/
theorem cell_codes {v : Value} {n : Nat} {y : DataW H × List MemPlace} (h : DataW.trod enc Tryz.prog w 0 (fun _ => true) held n 22 [v] = some y) : ∃ A m c ss, v = .slice A m c ∧ ReadsC w w.heap.size A m ss ∧ m ≤ maxLen ∧ ∀ s ∈ ss, LongC s := by
  obtain ⟨A, m, c, h0, hm, hrow⟩ := open_rows (N := 5) Tryz.underlying22 Tryz.underlying94 (by kernel_rfl) (by kernel_rfl) (by decide) rfl h
  injection h0 with h0
  subst h0
  by_cases hpos : 0 < m
  · obtain ⟨b, off, rfl, hb, hi⟩ := hrow hpos
    obtain ⟨ss, hl, hq⟩ := list_of (Q := fun i s => (∃ A1 n1 c1 A2 n2 c2 A3 n3 c3, w.cell? ⟨b, off + i * 5, none⟩ = some (.int .i64 s.params) ∧ w.cell? ⟨b, off + i * 5 + 1, none⟩ = some (.int .i64 s.vars) ∧ w.cell? ⟨b, off + i * 5 + 2, none⟩ = some (.slice A1 n1 c1) ∧
      w.cell? ⟨b, off + i * 5 + 3, none⟩ = some (.slice A2 n2 c2) ∧ w.cell? ⟨b, off + i * 5 + 4, none⟩ = some (.slice A3 n3 c3) ∧ Reads w w.heap.size .i64 A1 n1 s.sites ∧ ReadsT w w.heap.size A2 n2 s.ins ∧ ReadsR w w.heap.size A3 n3 s.rows) ∧ LongC s) m (fun i hlt => by
        obtain ⟨cs', hlc, hcell, hf⟩ := hi i hlt
        obtain ⟨v0, y0, k0, e0, t0⟩ := hf 0 _ rfl
        obtain ⟨v1, y1, k1, e1, t1⟩ := hf 1 _ rfl
        obtain ⟨v2, y2, k2, e2, t2⟩ := hf 2 _ rfl
        obtain ⟨v3, y3, k3, e3, t3⟩ := hf 3 _ rfl
        obtain ⟨v4, y4, k4, e4, t4⟩ := hf 4 _ rfl
        obtain ⟨kind, rfl⟩ := cell_int t0
        obtain ⟨nn, rfl⟩ := cell_int t1
        obtain ⟨A1, n1, c1, th, rfl, r1, l1⟩ := cell_reads Tryz.underlying26 t2
        obtain ⟨A2, n2, c2, ts, rfl, r2, l2⟩ := cell_toks t3
        obtain ⟨A3, n3, c3, el, rfl, r3, l3⟩ := cell_rows t4
        have g := fun j hj => hcell j hj
        refine ⟨⟨kind, nn, th, ts, el⟩, ⟨A1, n1, c1, A2, n2, c2, A3, n3, c3, ?_, ?_, ?_, ?_, ?_, r1, r2, r3⟩, by rw [← r1.1] at l1; exact l1, by rw [← r2.1] at l2; exact l2, by rw [← r3.1] at l3; exact l3⟩
        · have := g 0 (by omega); rw [e0] at this; simpa using this
        · have := g 1 (by omega); rw [e1] at this; rw [← this]; rfl
        · have := g 2 (by omega); rw [e2] at this; rw [← this]; rfl
        · have := g 3 (by omega); rw [e3] at this; rw [← this]; rfl
        · have := g 4 (by omega); rw [e4] at this; rw [← this]; rfl)
    refine ⟨_, _, _, ss, rfl, ⟨hl, fun _ => ⟨b, off, rfl, hb, fun j s hs => (hq j s hs).1⟩⟩, hm, fun s hs => ?_⟩
    obtain ⟨j, hj⟩ := List.getElem?_of_mem hs
    exact (hq j s hj).2
  · exact ⟨A, m, c, [], rfl, ⟨by simp; omega, fun h => absurd h hpos⟩, hm, by simp⟩

/-- A struct of one one-cell field that came in. -/
theorem open_agg1 {P : Program} {r : Reach} {b0 : Nat} {t : TypeId} {f0 : Field} {v : Value} {d : DataW H} {p : List MemPlace} (hs : P.underlying t = some (.struct #[f0])) (hone : oneCellFields P #[f0] = true) (hC : P.cellsOf t = 1)
    (hv : Value.okWide P w r b0 t v) (h : DataW.Trod enc P w 0 (fun _ => true) held t v d p) : ∃ (v0 : Value) (y0 : DataW H × List MemPlace) (n : Nat), v = .agg #[v0] ∧ DataW.trod enc P w 0 (fun _ => true) held n f0.type [v0] = some y0 := by
  obtain ⟨cs, rfl, hsz⟩ := okWide_struct hs hv
  obtain ⟨c0, rfl⟩ : ∃ c0, cs = #[c0] := by
    have h1 := hsz.trans hC
    match cs, h1 with
    | ⟨[c0]⟩, _ => exact ⟨c0, rfl⟩
  obtain ⟨fuel, hf⟩ := h
  obtain ⟨xs, k, _, _, _, hxl, hfl⟩ := DataW.trod_struct hs hf
  obtain ⟨o0, k0⟩ := hone_of hone 0 f0 rfl
  have h0 := hfl 0 f0 rfl
  have hx : ∃ y, xs[0]? = some y := ⟨_, List.getElem?_eq_getElem (by rw [hxl]; exact Nat.zero_lt_one)⟩
  obtain ⟨y, hy⟩ := hx
  rw [hy] at h0
  exact ⟨c0, y, k, rfl, by simpa [Value.cells, o0, k0] using h0⟩

set_option maxRecDepth 100000 in
/-- An image that came in. -/
theorem open_image {r : Reach} {b0 : Nat} {v : Value} {d : DataW H} {p : List MemPlace} (hv : Value.okWide Tryz.prog w r b0 24 v) (h : DataW.Trod enc Tryz.prog w 0 (fun _ => true) held 24 v d p) :
    ∃ A m c cs, v = .agg #[.slice A m c] ∧ ReadsC w w.heap.size A m cs ∧ LongI cs := by
  obtain ⟨v0, y0, n, rfl, h0⟩ := open_agg1 Tryz.underlying24 (by kernel_rfl) (by kernel_rfl) hv h
  obtain ⟨A, m, c, cs, rfl, h1, h2, h3⟩ := cell_codes h0
  exact ⟨A, m, c, cs, rfl, h1, by rw [h1.1]; exact h2, h3⟩
end

end Go.Proofs.YtpbkkjiikhjanaaGreatDoor

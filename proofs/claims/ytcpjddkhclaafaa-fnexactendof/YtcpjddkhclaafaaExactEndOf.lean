/-
  Proved: at every machine the program's EndOf gives the same outcome and truth as the reference EndOf, leaves its argument as it was, and its answer has memory of its own; the law FnExactEndOf returns true at every argument.
  Conditions: none beyond those that the given row itself prints.
-/
import Derived.Test.YtcpjddkhclaafaaRows
import Derived.Test.YtcpjddkhclaafaaEndR
import Derived.Test.YtcpjddkhclaafaaArgV
import Derived.WalkKit
import Derived.ProofKit
import Derived.OpenShut
import Derived.ShutString
import Derived.ChangeOld
import Derived.Deep.RegionLaw
import Derived.Below
namespace Go.Proofs.Ytcpjddkhclaafaa.fnExactEndOf
open Go.ChangeShapes Go.WideShapes Go.ChangeAt Go.RowKit Exs
open Go.ChangeMaps (open_string shut_string)
set_option linter.unusedVariables false

theorem own : ownKnob Try.prog.godebug = none := by kernel_rfl
theorem laidOut : laidOutB Try.prog = true := by kernel_rfl

/-! The walk: both functions by their contracts, whose answers are the same; the marks by theirs. -/
set_option maxHeartbeats 40000000 in
set_option maxRecDepth 100000 in
theorem walk (w : World) (s0 : Mc) (A01 : Option Addr) (n01 c01 : Nat) (A02 : Option Addr) (n02 c02 : Nat) (A03 : Option Addr) (n03 c03 : Nat) (r0 : IsMc w w.heap.size s0 A01 n01 A02 n02 A03 n03) (l0 : LongMc s0) :
    Calls Try.prog 3 #[mcV s0 A01 n01 c01 A02 n02 c02 A03 n03 c03] w fun e w' => e = .returned (.bool true) ∧ Below w.heap.size w w' := by

  have hb0 : Below w.heap.size w (w.alloc (.cells #[.slice A01 n01 c01, .slice A02 n02 c02, .int .i64 s0.used, .int .i64 s0.code, .int .i64 s0.value, .int .i64 s0.made, .slice A03 n03 c03] 26)) := (Below.refl _ _).alloc (Nat.le_refl _) _
  have k0 := Keep.new w #[.slice A01 n01 c01, .slice A02 n02 c02, .int .i64 s0.used, .int .i64 s0.code, .int .i64 s0.value, .int .i64 s0.made, .slice A03 n03 c03] 26
  obtain ⟨t0, ht0⟩ : ∃ t : Nat, manyMc s0 = t := ⟨_, rfl⟩
  unfold mcV
  by_cases h0 : (t0 : Int) ≤ 1048576
  · have z0 := szA_fit h0
    have m0s := smallMc_of (show manyMc s0 ≤ 1048576 by omega)
    have hq0 : ¬ (1048576 : Int) - t0 < 0 := by omega
    have hlt : s0.trace.length ≤ 1048576 := m0s.2.2.1
    have hn2 : n02 ≤ 1048576 := by rw [← r0.trace.1]; exact hlt
    have HINK := put (show (1 : Int) + (inkMc s0 : Int) ≤ 1000000000 by have := inkMc_le s0; omega)
    have hk1 : ¬ ((1 : Int) + (inkMc s0 : Int)) < 0 := by omega
    obtain ⟨o, q, hpq⟩ : ∃ o q, endR s0 = (o, q) := ⟨_, _, rfl⟩
    have HPQ := put hpq
    have HLEN := put (show o.trace.length ≤ 1048576 by have := endR_length (s := s0) (m := 1048576) hlt; rw [hpq] at this; exact this)
    clear hpq hlt h0
    obtain ⟨no, hno⟩ : ∃ n, o.trace.length = n := ⟨_, rfl⟩
    have HNO := put hno
    have hno1 : no ≤ 1048576 := by rw [← hno]; exact HLEN.out
    have hno2 : ¬ ((no : Int) + 1) < 0 := by omega
    clear hno
    have M0S := put m0s
    clear m0s
    go_enter Try.func3, Try.ntmps3
    go_wp2_with fail
    generalize hW : w.alloc (.cells #[.slice A01 n01 c01, .slice A02 n02 c02, .int .i64 s0.used, .int .i64 s0.code, .int .i64 s0.value, .int .i64 s0.made, .slice A03 n03 c03] 26) = W0 at hb0 k0 ⊢
    clear hW
    refine (szMc_v s0 A01 n01 c01 A02 n02 c02 A03 n03 c03 1048576 W0 (r0.now hb0) l0 (by decide) (by decide)).mono ?_
    rintro e w1 ⟨rfl, hb1⟩
    rw [ht0, z0]
    have b1 : Below w.heap.size w w1 := hb0.trans (hb1.mono hb0.size)
    have k1 := k0.below hb1
    clear hb0 k0 hb1 z0 ht0
    have y0 := k1.cell 0
    have y1 := k1.cell 1
    have y2 := k1.cell 2
    have y3 := k1.cell 3
    have y4 := k1.cell 4
    have y5 := k1.cell 5
    have y6 := k1.cell 6
    simp at y0 y1 y2 y3 y4 y5 y6
    go_wp2_with fail
    refine (toMc_v s0 A01 n01 c01 A02 n02 c02 A03 n03 c03 w1 (r0.now b1) M0S.out).mono ?_
    rintro e w2 ⟨C01, C02, C03, rfl, m2, hb2⟩
    have b2 : Below w.heap.size w w2 := b1.trans (hb2.mono b1.size)
    have k2 := k1.below hb2
    clear y0 y1 y2 y3 y4 y5 y6 k1 hb2 b1
    go_wp2_with fail
    refine (specEndOf_any s0 C01 n01 n01 C02 n02 n02 C03 n03 n03 w2 m2.reads hn2 (fun h => by obtain ⟨g, e, _⟩ := m2.trace; rw [e] at h; cases h)).mono ?_
    simp only [HPQ.out]
    rintro e w3 ⟨v, rfl, nw3, hb3⟩
    obtain ⟨Aw, cw, rfl, _⟩ := nw3.reads
    rw [HNO.out] at nw3 ⊢
    have b3 : Below w.heap.size w w3 := b2.trans (hb3.mono b2.size)
    have k3 := (k2.below hb3).alloc (.cells #[.int .i64 o.code, .int .i64 o.value, .slice Aw no cw, .int .i64 o.used] 29)
    have p3 := Keep.new w3 #[.int .i64 o.code, .int .i64 o.value, .slice Aw no cw, .int .i64 o.used] 29
    have b3a := b3.alloc b3.size (.cells #[.int .i64 o.code, .int .i64 o.value, .slice Aw no cw, .int .i64 o.used] 29)
    have nw3a := nw3.alloc (.cells #[.int .i64 o.code, .int .i64 o.value, .slice Aw no cw, .int .i64 o.used] 29)
    have y0 : (w3.alloc (.cells #[.int .i64 o.code, .int .i64 o.value, .slice Aw no cw, .int .i64 o.used] 29)).cell? ⟨w.heap.size, 0, none⟩ = some (.slice A01 n01 c01) := k3.cell 0
    have y1 : (w3.alloc (.cells #[.int .i64 o.code, .int .i64 o.value, .slice Aw no cw, .int .i64 o.used] 29)).cell? ⟨w.heap.size, 1, none⟩ = some (.slice A02 n02 c02) := k3.cell 1
    have y2 : (w3.alloc (.cells #[.int .i64 o.code, .int .i64 o.value, .slice Aw no cw, .int .i64 o.used] 29)).cell? ⟨w.heap.size, 2, none⟩ = some (.int .i64 s0.used) := k3.cell 2
    have y3 : (w3.alloc (.cells #[.int .i64 o.code, .int .i64 o.value, .slice Aw no cw, .int .i64 o.used] 29)).cell? ⟨w.heap.size, 3, none⟩ = some (.int .i64 s0.code) := k3.cell 3
    have y4 : (w3.alloc (.cells #[.int .i64 o.code, .int .i64 o.value, .slice Aw no cw, .int .i64 o.used] 29)).cell? ⟨w.heap.size, 4, none⟩ = some (.int .i64 s0.value) := k3.cell 4
    have y5 : (w3.alloc (.cells #[.int .i64 o.code, .int .i64 o.value, .slice Aw no cw, .int .i64 o.used] 29)).cell? ⟨w.heap.size, 5, none⟩ = some (.int .i64 s0.made) := k3.cell 5
    have y6 : (w3.alloc (.cells #[.int .i64 o.code, .int .i64 o.value, .slice Aw no cw, .int .i64 o.used] 29)).cell? ⟨w.heap.size, 6, none⟩ = some (.slice A03 n03 c03) := k3.cell 6
    clear m2 hb3 b2 k2
    go_wp2_with fail
    clear y0 y1 y2 y3 y4 y5 y6
    generalize hW : w3.alloc (.cells #[.int .i64 o.code, .int .i64 o.value, .slice Aw no cw, .int .i64 o.used] 29) = w3a at k3 p3 b3a nw3a ⊢
    clear hW nw3 b3
    obtain ⟨g4, hg4⟩ : ∃ g, w3.heap.size = g := ⟨_, rfl⟩
    rw [hg4] at p3 ⊢
    clear hg4
    refine (toMc_v s0 A01 n01 c01 A02 n02 c02 A03 n03 c03 w3a (r0.now b3a) M0S.out).mono ?_
    rintro e w4 ⟨D01, D02, D03, rfl, m4, c4⟩
    have M4 := put m4
    have hL4 := c4.size
    have hp4 := p3.lt
    have hk4 := k3.lt
    have c4a : Below w3a.heap.size w3a (w4.alloc (.cells #[.slice D01 n01 n01, .slice D02 n02 n02, .int .i64 s0.used, .int .i64 s0.code, .int .i64 s0.value, .int .i64 s0.made, .slice D03 n03 n03] 35)) := c4.alloc c4.size _
    have b44 : Below w4.heap.size w4 (w4.alloc (.cells #[.slice D01 n01 n01, .slice D02 n02 n02, .int .i64 s0.used, .int .i64 s0.code, .int .i64 s0.value, .int .i64 s0.made, .slice D03 n03 n03] 35)) := (Below.refl _ _).alloc (Nat.le_refl _) _
    have xk4 := Keep.new w4 #[.slice D01 n01 n01, .slice D02 n02 n02, .int .i64 s0.used, .int .i64 s0.code, .int .i64 s0.value, .int .i64 s0.made, .slice D03 n03 n03] 35
    have m4a := m4.same (SameFrom.of_below b44)
    have hs4 : w4.heap.size < (w4.alloc (.cells #[.slice D01 n01 n01, .slice D02 n02 n02, .int .i64 s0.used, .int .i64 s0.code, .int .i64 s0.value, .int .i64 s0.made, .slice D03 n03 n03] 35)).heap.size := xk4.lt
    clear m4 c4
    go_wp2_with fail
    generalize hW : w4.alloc (.cells #[.slice D01 n01 n01, .slice D02 n02 n02, .int .i64 s0.used, .int .i64 s0.code, .int .i64 s0.value, .int .i64 s0.made, .slice D03 n03 n03] 35) = w4a at c4a b44 xk4 m4a hs4 ⊢
    clear hW
    refine (implEndOf_any s0 D01 n01 n01 D02 n02 n02 D03 n03 n03 w4a m4a.reads hn2 (by obtain ⟨g, e, _⟩ := m4a.trace; exact ⟨_, e⟩)).mono ?_
    simp only [HPQ.out]
    rintro e w5 ⟨v, rfl, ng5, hb5⟩
    obtain ⟨Ag, cg, rfl, _⟩ := ng5.reads
    rw [HNO.out] at ng5 ⊢
    have c5 : Below w3a.heap.size w3a (w5.alloc (.cells #[.int .i64 o.code, .int .i64 o.value, .slice Ag no cg, .int .i64 o.used] 29)) := (c4a.trans (hb5.mono c4a.size)).alloc (Nat.le_trans c4a.size hb5.size) _
    have b45 : Below w4.heap.size w4 (w5.alloc (.cells #[.int .i64 o.code, .int .i64 o.value, .slice Ag no cg, .int .i64 o.used] 29)) := (b44.trans (hb5.mono b44.size)).alloc (Nat.le_trans b44.size hb5.size) _
    have p5 := Keep.new w5 #[.int .i64 o.code, .int .i64 o.value, .slice Ag no cg, .int .i64 o.used] 29
    have xk5 := (xk4.below hb5).alloc (.cells #[.int .i64 o.code, .int .i64 o.value, .slice Ag no cg, .int .i64 o.used] 29)
    have m5 := (m4a.same (SameFrom.of_below hb5)).same (SameFrom.of_below ((Below.refl _ w5).alloc (Nat.le_refl _) (.cells #[.int .i64 o.code, .int .i64 o.value, .slice Ag no cg, .int .i64 o.used] 29)))
    have ng5a := ng5.alloc (.cells #[.int .i64 o.code, .int .i64 o.value, .slice Ag no cg, .int .i64 o.used] 29)
    have hrow : ∀ g n' c', (.slice Ag no cg : Value) = .slice (some ⟨g, 0, none⟩) n' c' → w5.heap.size ≠ g := by
      intro g n' c' e
      injection e with e1 e2 e3
      subst e1 e2 e3
      rcases ng5.2 with ⟨h, _⟩ | ⟨g', cap, cur, hv, _, hh, _⟩
      · cases h
      · injection hv with hv1 _ _
        injection hv1 with hv1
        injection hv1 with hv1
        subst hv1
        have := (Array.getElem?_eq_some_iff.1 hh).1
        omega
    have HROW := put hrow
    have hs5 : w4a.heap.size ≤ w5.heap.size := hb5.size
    have hs5a : w5.heap.size < (w5.alloc (.cells #[.int .i64 o.code, .int .i64 o.value, .slice Ag no cg, .int .i64 o.used] 29)).heap.size := p5.lt
    have k5 := k3.below c5
    have o5 := p3.below c5
    have nw5 := nw3a.belowNew c5
    have y0 : (w5.alloc (.cells #[.int .i64 o.code, .int .i64 o.value, .slice Ag no cg, .int .i64 o.used] 29)).cell? ⟨g4, 0, none⟩ = some (.int .i64 o.code) := o5.cell 0
    have y1 : (w5.alloc (.cells #[.int .i64 o.code, .int .i64 o.value, .slice Ag no cg, .int .i64 o.used] 29)).cell? ⟨g4, 1, none⟩ = some (.int .i64 o.value) := o5.cell 1
    have y2 : (w5.alloc (.cells #[.int .i64 o.code, .int .i64 o.value, .slice Ag no cg, .int .i64 o.used] 29)).cell? ⟨g4, 2, none⟩ = some (.slice Aw no cw) := o5.cell 2
    have y3 : (w5.alloc (.cells #[.int .i64 o.code, .int .i64 o.value, .slice Ag no cg, .int .i64 o.used] 29)).cell? ⟨g4, 3, none⟩ = some (.int .i64 o.used) := o5.cell 3
    clear hrow hb5 b44 xk4 m4a c4a ng5
    go_wp2_with fail
    generalize hW : w5.alloc (.cells #[.int .i64 o.code, .int .i64 o.value, .slice Ag no cg, .int .i64 o.used] 29) = w5a at c5 b45 p5 xk5 m5 ng5a k5 o5 nw5 hs5a y0 y1 y2 y3 ⊢
    clear hW
    obtain ⟨g7, hg7⟩ : ∃ g, w5.heap.size = g := ⟨_, rfl⟩
    rw [hg7] at p5 hs5 hs5a HROW ⊢
    clear hg7 y0 y1 y2 y3
    refine (eqOc_o o Ag no cg Aw no cw w5a _ _ ng5a nw5 HLEN.out).mono ?_
    rintro e w6 ⟨rfl, hb6⟩
    have c6 := c5.trans (hb6.mono c5.size)
    have b46 := b45.trans (hb6.mono b45.size)
    have p6 := p5.below hb6
    have xk6 := xk5.below hb6
    have m6 := m5.same (SameFrom.of_below hb6)
    have ng6 := ng5a.belowNew hb6
    have k6 := k5.below hb6
    have o6 := o5.below hb6
    have b6 : Below w.heap.size w w6 := b3a.trans (c6.mono b3a.size)
    clear c5 b45 p5 xk5 m5 ng5a k5 o5 nw5 hb6
    have x0 := xk6.cell 0
    have x1 := xk6.cell 1
    have x2 := xk6.cell 2
    have x3 := xk6.cell 3
    have x4 := xk6.cell 4
    have x5 := xk6.cell 5
    have x6 := xk6.cell 6
    simp at x0 x1 x2 x3 x4 x5 x6
    have y0 := k6.cell 0
    have y1 := k6.cell 1
    have y2 := k6.cell 2
    have y3 := k6.cell 3
    have y4 := k6.cell 4
    have y5 := k6.cell 5
    have y6 := k6.cell 6
    simp at y0 y1 y2 y3 y4 y5 y6
    go_wp2
    go_region_law (first
      | (go_simp; go_at_call 7; refine (toMc_v s0 A01 n01 c01 A02 n02 c02 A03 n03 c03 w6.drew (r0.now b6.drew) M0S.out).mono ?_; rintro e w7 ⟨E01, E02, E03, rfl, m7, hb7⟩; have xk7 := Keep.below (w := w6.drew) xk6 hb7; have v0 := xk7.cell 0; have v1 := xk7.cell 1; have v2 := xk7.cell 2; have v3 := xk7.cell 3; have v4 := xk7.cell 4; have v5 := xk7.cell 5; have v6 := xk7.cell 6; simp at v0 v1 v2 v3 v4 v5 v6)
      | (go_simp; go_at_call 10; refine (eqMc_v s0 D01 n01 n01 D02 n02 n02 D03 n03 n03 E01 n01 n01 E02 n02 n02 E03 n03 n03 w7 (MMc.reads (m6.same (SameFrom.of_below ((Below.refl w6.heap.size w6).drew.trans hb7)))) m7.reads M0S.out).mono ?_; rintro e w8 ⟨rfl, hb8⟩))
    all_goals (
      have b68 : Below w6.heap.size w6 w8 := (Below.refl _ w6).drew.trans (hb7.trans (hb8.mono hb7.size))
      have c8 := c6.trans (b68.mono c6.size)
      have b48 := b46.trans (b68.mono b46.size)
      have p8 := p6.below b68
      have xk8 := xk6.below b68
      have ng8 := ng6.belowNew b68
      have k8 := k6.below b68
      have o8 := o6.below b68
      clear c6 b46 p6 xk6 m6 ng6 k6 o6 b6 m7 hb7 hb8 xk7 b68 v0 v1 v2 v3 v4 v5 v6 x0 x1 x2 x3 x4 x5 x6 y0 y1 y2 y3 y4 y5 y6
      have x0 := xk8.cell 0
      have x1 := xk8.cell 1
      have x2 := xk8.cell 2
      have x3 := xk8.cell 3
      have x4 := xk8.cell 4
      have x5 := xk8.cell 5
      have x6 := xk8.cell 6
      simp at x0 x1 x2 x3 x4 x5 x6
      go_wp2_with fail
      clear x0 x1 x2 x3 x4 x5 x6
      refine (markMc_v s0 D01 n01 n01 D02 n02 n02 D03 n03 n03 1 w3a.heap.size w4 w8 M4.out hL4 b48 M0S.out (by omega) HINK.out).mono ?_
      rintro e w9 ⟨rfl, hi9⟩
      have c9 := c8.trans hi9.below
      have ng9 := ng8.inkv (show w4.heap.size ≤ w4a.heap.size by omega) hi9
      have nw9 := nw3a.belowNew c9
      have k9 := k3.below c9
      have o9 := p3.below c9
      have p9 : Keep w9 g7 #[.int .i64 o.code, .int .i64 o.value, .slice Ag no cg, .int .i64 o.used] 29 := (hi9.above g7 (by omega) p8.lt).trans p8
      have hp9 := p9.lt
      clear c8 b48 p8 xk8 ng8 k8 o8 hi9
      have x0 := p9.cell 0
      have x1 := p9.cell 1
      have x2 := p9.cell 2
      have x3 := p9.cell 3
      simp at x0 x1 x2 x3
      have y0 := o9.cell 0
      have y1 := o9.cell 1
      have y2 := o9.cell 2
      have y3 := o9.cell 3
      simp at y0 y1 y2 y3
      go_wp2_with fail
      clear x0 x1 x2 x3 y0 y1 y2 y3
      refine (eqOc_o o Ag no cg Aw no cw w9 _ _ ng9 nw9 HLEN.out).mono ?_
      rintro e w10 ⟨rfl, hb10⟩
      have c10 := c9.trans (hb10.mono c9.size)
      have ng10 := ng9.belowNew hb10
      have p10 := p9.below hb10
      clear c9 ng9 nw9 k9 o9 p9 hb10
      have hB10 : w4a.heap.size ≤ w10.heap.size := by have := p10.lt; omega
      have x0 := p10.cell 0
      have x1 := p10.cell 1
      have x2 := p10.cell 2
      have x3 := p10.cell 3
      simp at x0 x1 x2 x3
      go_wp2_with fail
      clear x0 x1 x2 x3
      refine (markOc_n o.code o.value o.used Ag no cg o.trace HNO.out w4a.heap.size w10 ng10 hB10 hno1).mono ?_
      rintro e w11 ⟨rfl, ng11, hb11, hO⟩
      have c11 := c10.trans (hb11.mono (by omega))
      have p11 : Keep w11 g7 #[.int .i64 o.code, .int .i64 o.value, .slice Ag no cg, .int .i64 o.used] 29 := (hO g7 p10.lt HROW.out).trans p10
      clear hO hb11 c10 ng10 p10 hB10
      have x0 := p11.cell 0
      have x1 := p11.cell 1
      have x2 := p11.cell 2
      have x3 := p11.cell 3
      simp at x0 x1 x2 x3
      go_wp2_with fail
      clear x0 x1 x2 x3
      refine (heldOc_o o.code o.value o.used (.slice Ag no cg) no w4a.heap.size w11 ng11 hno1).mono ?_
      rintro e w12 ⟨rfl, hb12⟩
      have c12 := c11.trans (hb12.mono c11.size)
      have ng12 := ng11.belowNew hb12
      have p12 := p11.below hb12
      have k12 := k3.below c12
      have b12 : Below w.heap.size w w12 := b3a.trans (c12.mono b3a.size)
      clear c11 ng11 p11 hb12
      have y0 := k12.cell 0
      have y1 := k12.cell 1
      have y2 := k12.cell 2
      have y3 := k12.cell 3
      have y4 := k12.cell 4
      have y5 := k12.cell 5
      have y6 := k12.cell 6
      simp at y0 y1 y2 y3 y4 y5 y6
      go_wp2_with fail
      clear y0 y1 y2 y3 y4 y5 y6 k12
      refine (toMc_v s0 A01 n01 c01 A02 n02 c02 A03 n03 c03 w12 (r0.now b12) M0S.out).mono ?_
      rintro e w13 ⟨H01, H02, H03, rfl, m13, hb13⟩
      have c13 := c12.trans (hb13.mono c12.size)
      have ng13 := ng12.belowNew hb13
      have p13 := p12.below hb13
      clear c12 ng12 p12 hb13 b12
      go_wp2_with fail
      refine (implEndOf_any s0 H01 n01 n01 H02 n02 n02 H03 n03 n03 w13 m13.reads hn2 (by obtain ⟨g, e, _⟩ := m13.trace; exact ⟨_, e⟩)).mono ?_
      simp only [HPQ.out]
      rintro e w14 ⟨v, rfl, nh14, hb14⟩
      obtain ⟨Ah, ch, rfl, _⟩ := nh14.reads
      rw [HNO.out] at nh14 ⊢
      have c14 : Below w3a.heap.size w3a (w14.alloc (.cells #[.int .i64 o.code, .int .i64 o.value, .slice Ah no ch, .int .i64 o.used] 29)) := (c13.trans (hb14.mono c13.size)).alloc (Nat.le_trans c13.size hb14.size) _
      have ng14 := (ng13.belowNew hb14).alloc (.cells #[.int .i64 o.code, .int .i64 o.value, .slice Ah no ch, .int .i64 o.used] 29)
      have nh14a := nh14.alloc (.cells #[.int .i64 o.code, .int .i64 o.value, .slice Ah no ch, .int .i64 o.used] 29)
      have p14 := (p13.below hb14).alloc (.cells #[.int .i64 o.code, .int .i64 o.value, .slice Ah no ch, .int .i64 o.used] 29)
      have o14 := p3.below c14
      have h14 := Keep.new w14 #[.int .i64 o.code, .int .i64 o.value, .slice Ah no ch, .int .i64 o.used] 29
      have nw14 := nw3a.belowNew c14
      have y0 : (w14.alloc (.cells #[.int .i64 o.code, .int .i64 o.value, .slice Ah no ch, .int .i64 o.used] 29)).cell? ⟨g4, 0, none⟩ = some (.int .i64 o.code) := o14.cell 0
      have y1 : (w14.alloc (.cells #[.int .i64 o.code, .int .i64 o.value, .slice Ah no ch, .int .i64 o.used] 29)).cell? ⟨g4, 1, none⟩ = some (.int .i64 o.value) := o14.cell 1
      have y2 : (w14.alloc (.cells #[.int .i64 o.code, .int .i64 o.value, .slice Ah no ch, .int .i64 o.used] 29)).cell? ⟨g4, 2, none⟩ = some (.slice Aw no cw) := o14.cell 2
      have y3 : (w14.alloc (.cells #[.int .i64 o.code, .int .i64 o.value, .slice Ah no ch, .int .i64 o.used] 29)).cell? ⟨g4, 3, none⟩ = some (.int .i64 o.used) := o14.cell 3
      clear c13 ng13 p13 hb14 nh14 m13
      go_wp2_with fail
      clear y0 y1 y2 y3
      generalize w14.alloc (.cells #[.int .i64 o.code, .int .i64 o.value, .slice Ah no ch, .int .i64 o.used] 29) = w14a at c14 ng14 nh14a p14 o14 h14 nw14 ⊢
      refine (eqOc_o o Ah no ch Aw no cw w14a _ _ nh14a nw14 HLEN.out).mono ?_
      rintro e w15 ⟨rfl, hb15⟩
      have c15 := c14.trans (hb15.mono c14.size)
      have ng15 := ng14.belowNew hb15
      have p15 := p14.below hb15
      clear c14 ng14 p14 hb15 nh14a nw14 h14 o14
      have x0 := p15.cell 0
      have x1 := p15.cell 1
      have x2 := p15.cell 2
      have x3 := p15.cell 3
      simp at x0 x1 x2 x3
      go_wp2_with fail
      clear x0 x1 x2 x3
      refine (heldOc_o o.code o.value o.used (.slice Ag no cg) no w4a.heap.size w15 ng15 hno1).mono ?_
      rintro e w16 ⟨rfl, hb16⟩
      have c16 := c15.trans (hb16.mono c15.size)
      have b16 : Below w.heap.size w w16 := b3a.trans (c16.mono b3a.size)
      go_wp2
      go_ret
      exact ⟨rfl, b16⟩)
  · have z0 := szA_no (Int.not_le.1 h0)
    go_enter Try.func3, Try.ntmps3
    go_wp2_with fail
    generalize hW : w.alloc (.cells #[.slice A01 n01 c01, .slice A02 n02 c02, .int .i64 s0.used, .int .i64 s0.code, .int .i64 s0.value, .int .i64 s0.made, .slice A03 n03 c03] 26) = W0 at hb0 k0 ⊢
    clear hW
    refine (szMc_v s0 A01 n01 c01 A02 n02 c02 A03 n03 c03 1048576 W0 (r0.now hb0) l0 (by decide) (by decide)).mono ?_
    rintro e w1 ⟨rfl, hb1⟩
    rw [ht0, z0]
    go_wp2
    go_ret
    exact ⟨rfl, hb0.trans (hb1.mono hb0.size)⟩

/-! From the walk to the given row. -/
set_option maxRecDepth 100000 in
theorem lifted (os : Os) (started : os.Started) (H : Type) (enc : TypeId × Value → H) :
    ReturnsInHanded {} Try.checked os 3 .any (Rows.fnExactEndOfSpec.pre6 enc Try.prog Try.f3 Rows.fnExactEndOfRow.domain false) (Rows.fnExactEndOfSpec.post enc Try.prog Try.f3 false true false false) := by
  refine returnsInHanded_of_change (C := Try.checked) own started (by kernel_rfl) Try.func3
    (ChangeSpec.witness6 (enc := enc) (C := Try.checked) false ⟨#[], #[.agg #[.slice none 0 0, .slice none 0 0, .int .i64 0, .int .i64 0, .int .i64 0, .int .i64 0, .slice none 0 0]], []⟩ 8 (by kernel_rfl) (by kernel_rfl) (by kernel_rfl) (by kernel_rfl)) ?_
  intro W base args ds gs before hval0 hW hcnd _
  have hval : ∀ (j : Nat) t v, Try.f3.params[j]? = some t → args[j]? = some v → Value.okWide Try.prog W .any base t v := hval0
  have hW' := hW
  obtain ⟨p, q, hA0, hV, rfl, hfz, hnd⟩ := hW
  have hA : DataW.TrodAll enc Try.prog W 0 (fun _ => true) true Try.f3.params.toList args.toList ds p := hA0
  rw [Try.params3] at hA hval
  obtain ⟨v0, vs0, d0, ds0, p0, q0, hargs, rfl, rfl, h0, r0q⟩ := trodAll_cons hA
  obtain ⟨rfl, rfl, rfl⟩ := trodAll_nil r0q
  obtain rfl : args = #[v0] := by cases args; simp_all
  obtain ⟨rfl, rfl⟩ := trodVars_none hV
  have k0 := h0
  have lt0 : ∀ x ∈ p0, x.block < W.heap.size := by obtain ⟨m, hm⟩ := k0; exact DataW.trod_lt m _ _ _ hm
  obtain ⟨s0, A01, n01, c01, A02, n02, c02, A03, n03, c03, rfl, r0, l0⟩ := open_vm (hval 0 26 v0 rfl rfl) h0
  clear hA0 hval0
  refine (walk W s0 A01 n01 c01 A02 n02 c02 A03 n03 c03 r0 l0).mono fun e W' ⟨he, bel⟩ => ?_
  subst he
  exact ⟨_, rfl, _, _, _, [], _, [], hW', trodAll_mk1 (shut_bool Try.underlying4 _), (trodAll_cons_mk (Below.trod laidOut (by kernel_rfl) (of_decide_eq_true (by kernel_rfl)) k0 bel lt0) trodAll_mk0), rfl, bel.frame _, fun h => by cases h⟩

theorem over : Rows.fnExactEndOfRow.holds Try.pinned (OpenSpec.ofChange Rows.fnExactEndOfSpec) :=
  OpenClaim.holds_of_wide 3 Try.f3 rfl rfl rfl rfl rfl rfl rfl ⟨rfl, rfl, rfl, rfl, rfl⟩ rfl rfl rfl rfl rfl (by kernel_rfl) Try.func3 (by kernel_rfl)
    (of_decide_eq_true (by kernel_rfl)) (by unfold Func.isWrapper; first | (rw [if_pos (by decide +kernel)]; kernel_rfl) | (rw [if_neg (by decide +kernel)]; exact ⟨rfl, rfl⟩))
    (fun os started H enc _ => lifted os started H enc)

/-- The given statement. -/
theorem proved : Rows.FnExactEndOfSaid := over
#print axioms proved
end Go.Proofs.Ytcpjddkhclaafaa.fnExactEndOf

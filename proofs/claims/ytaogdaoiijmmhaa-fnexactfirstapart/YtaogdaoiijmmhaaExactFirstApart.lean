/-
  Proved: at every two outcomes the program's FirstApart gives the same answer as the reference FirstApart and leaves its arguments as they were; the law FnExactFirstApart returns true at every argument.
  Conditions: none beyond those that the given row itself prints.
-/
import Derived.Test.YtaogdaoiijmmhaaRows
import Derived.Test.YtaogdaoiijmmhaaFaM
import Derived.Test.YtaogdaoiijmmhaaArgsP
import Derived.WalkKit
import Derived.ProofKit
import Derived.OpenShut
import Derived.ShutString
import Derived.ChangeOld
import Derived.Deep.RegionLaw
import Derived.Below
namespace Go.Proofs.Ytaogdaoiijmmhaa.fnExactFirstApart
open Go.ChangeShapes Go.WideShapes Go.ChangeAt Go.RowKit Exs
open Go.ChangeMaps (open_string shut_string)
set_option linter.unusedVariables false

theorem own : ownKnob Try.prog.godebug = none := by kernel_rfl
theorem laidOut : laidOutB Try.prog = true := by kernel_rfl

/-! The walk: both functions by their contracts, whose answers are the same. -/
set_option maxHeartbeats 4000000 in
set_option maxRecDepth 100000 in
theorem walk (w : World) (o0 : Oc) (A0 : Option Addr) (n0 c0 : Nat) (r0 : Reads w w.heap.size .i64 A0 n0 o0.trace) (l0 : n0 ≤ maxLen) (o1 : Oc) (A1 : Option Addr) (n1 c1 : Nat) (r1 : Reads w w.heap.size .i64 A1 n1 o1.trace) (l1 : n1 ≤ maxLen) :
    Calls Try.prog 3 #[ocV o0 A0 n0 c0, ocV o1 A1 n1 c1] w fun e w' => e = .returned (.bool true) ∧ Below w.heap.size w w' := by

  have hb0 : Below w.heap.size w ((w.alloc (.cells #[.int .i64 o0.code, .int .i64 o0.value, .slice A0 n0 c0, .int .i64 o0.used] 24)).alloc (.cells #[.int .i64 o1.code, .int .i64 o1.value, .slice A1 n1 c1, .int .i64 o1.used] 24)) := ((Below.refl _ _).alloc (Nat.le_refl _) _).alloc (by simp) _
  have k0 : Keep ((w.alloc (.cells #[.int .i64 o0.code, .int .i64 o0.value, .slice A0 n0 c0, .int .i64 o0.used] 24)).alloc (.cells #[.int .i64 o1.code, .int .i64 o1.value, .slice A1 n1 c1, .int .i64 o1.used] 24)) w.heap.size #[.int .i64 o0.code, .int .i64 o0.value, .slice A0 n0 c0, .int .i64 o0.used] 24 := (Keep.new _ _ _).alloc _
  have j0 : Keep ((w.alloc (.cells #[.int .i64 o0.code, .int .i64 o0.value, .slice A0 n0 c0, .int .i64 o0.used] 24)).alloc (.cells #[.int .i64 o1.code, .int .i64 o1.value, .slice A1 n1 c1, .int .i64 o1.used] 24)) (w.heap.size + 1) #[.int .i64 o1.code, .int .i64 o1.value, .slice A1 n1 c1, .int .i64 o1.used] 24 := by
    have := Keep.new (w.alloc (.cells #[.int .i64 o0.code, .int .i64 o0.value, .slice A0 n0 c0, .int .i64 o0.used] 24)) #[.int .i64 o1.code, .int .i64 o1.value, .slice A1 n1 c1, .int .i64 o1.used] 24
    rw [World.size_alloc] at this
    exact this
  unfold ocV
  by_cases h0 : (n0 : Int) ≤ 1048576
  · have z0 := szA_fit h0
    have hp0 : (0 : Int) ≤ 1048576 - n0 := by omega
    have hp1 : (1048576 : Int) - n0 ≤ 1048576 := by omega
    have hq0 : ¬ (1048576 : Int) - n0 < 0 := by omega
    have s0 : n0 ≤ 1048576 := by omega
    by_cases h1 : (n1 : Int) ≤ 1048576 - n0
    · have z1 := szA_fit h1
      have s1 : n1 ≤ 1048576 := by omega
      have hq1 : ¬ (1048576 : Int) - n0 - n1 < 0 := by omega
      have hans : ∃ p q, faAns o0 o1 = (p, q) := ⟨_, _, rfl⟩
      obtain ⟨p, q, hpq⟩ := hans
      have HPQ := put hpq
      clear h0 h1 hpq
      go_enter Try.func3, Try.ntmps3
      go_wp2_with fail
      generalize hW : (w.alloc (.cells #[.int .i64 o0.code, .int .i64 o0.value, .slice A0 n0 c0, .int .i64 o0.used] 24)).alloc (.cells #[.int .i64 o1.code, .int .i64 o1.value, .slice A1 n1 c1, .int .i64 o1.used] 24) = W0 at hb0 k0 j0 ⊢
      clear hW
      refine (szOutcome_any o0 A0 n0 c0 1048576 W0 l0 (by decide) (by decide)).mono ?_
      rintro e w1 ⟨rfl, hb1⟩
      rw [z0]
      have b1 : Below w.heap.size w w1 := hb0.trans (hb1.mono hb0.size)
      have k1 := k0.below hb1
      have j1 := j0.below hb1
      clear hb0 k0 j0 hb1 z0
      have y0 := j1.cell 0
      have y1 := j1.cell 1
      have y2 := j1.cell 2
      have y3 := j1.cell 3
      simp at y0 y1 y2 y3
      go_wp2_with fail
      refine (szOutcome_any o1 A1 n1 c1 (1048576 - n0) w1 l1 hp0 hp1).mono ?_
      rintro e w2 ⟨rfl, hb2⟩
      rw [z1]
      have b2 : Below w.heap.size w w2 := b1.trans (hb2.mono b1.size)
      have k2 := k1.below hb2
      have j2 := j1.below hb2
      clear b1 k1 j1 hb2 z1 y0 y1 y2 y3 hp0 hp1
      have x0 := k2.cell 0
      have x1 := k2.cell 1
      have x2 := k2.cell 2
      have x3 := k2.cell 3
      simp at x0 x1 x2 x3
      have y0 := j2.cell 0
      have y1 := j2.cell 1
      have y2 := j2.cell 2
      have y3 := j2.cell 3
      simp at y0 y1 y2 y3
      go_wp2
      go_region_law (first
        | (go_simp; go_at_call 6; refine (specFirstApart_m o0 o1 C1 n0 n0 C2 n1 w4 w3.heap.size m3b.reads m4 s0 s1).mono ?_; rw [HPQ.out]; rintro e w5 ⟨rfl, hb5⟩)
        | (go_simp; go_at_call 7; refine (toOutcome_v o1 A1 n1 c1 w3 (r1.now b3) s1).mono ?_; rintro e w4 ⟨C2, rfl, m4, hb4⟩; have b4 : Below w.heap.size w w4 := b3.trans (hb4.mono b3.size); have m3b := m3.same (SameFrom.of_below hb4))
        | (go_simp; go_at_call 7; refine (toOutcome_v o0 A0 n0 c0 w2.drew (r0.now b2.drew) s0).mono ?_; rintro e w3 ⟨C1, rfl, m3, hb3⟩; have b3 : Below w.heap.size w w3 := b2.drew.trans (hb3.mono b2.size); have j3 := Keep.below (w := w2.drew) j2 hb3; have v0 := j3.cell 0; have v1 := j3.cell 1; have v2 := j3.cell 2; have v3 := j3.cell 3; simp at v0 v1 v2 v3))
      all_goals (
        have b5 : Below w.heap.size w w5 := b4.trans (hb5.mono b4.size)
        have k5 := (Keep.below (w := w3) (Keep.below (w := w2.drew) k2 hb3) hb4).below hb5
        have j5 := (Keep.below (w := w3) (Keep.below (w := w2.drew) j2 hb3) hb4).below hb5
        clear m3 m3b m4 hb3 hb4 hb5 b2 b3 b4 k2 j2 j3 v0 v1 v2 v3 x0 x1 x2 x3 y0 y1 y2 y3
        have x0 := k5.cell 0
        have x1 := k5.cell 1
        have x2 := k5.cell 2
        have x3 := k5.cell 3
        simp at x0 x1 x2 x3
        go_wp2_with fail
        refine (toOutcome_v o0 A0 n0 c0 w5 (r0.now b5) s0).mono ?_
        rintro e w6 ⟨D1, rfl, m6, hb6⟩
        have b6 : Below w.heap.size w w6 := b5.trans (hb6.mono b5.size)
        have k6 := (k5.below hb6).alloc (.cells #[.int .i64 o0.code, .int .i64 o0.value, .slice D1 n0 n0, .int .i64 o0.used] 28)
        have j6 := (j5.below hb6).alloc (.cells #[.int .i64 o0.code, .int .i64 o0.value, .slice D1 n0 n0, .int .i64 o0.used] 28)
        have p6 := Keep.new w6 #[.int .i64 o0.code, .int .i64 o0.value, .slice D1 n0 n0, .int .i64 o0.used] 28
        have m6a := m6.same (SameFrom.of_below ((Below.refl _ w6).alloc (Nat.le_refl _) (.cells #[.int .i64 o0.code, .int .i64 o0.value, .slice D1 n0 n0, .int .i64 o0.used] 28)))
        have b6a := b6.alloc b6.size (.cells #[.int .i64 o0.code, .int .i64 o0.value, .slice D1 n0 n0, .int .i64 o0.used] 28)
        have y0 : (w6.alloc (.cells #[.int .i64 o0.code, .int .i64 o0.value, .slice D1 n0 n0, .int .i64 o0.used] 28)).cell? ⟨w.heap.size + 1, 0, none⟩ = some (.int .i64 o1.code) := j6.cell 0
        have y1 : (w6.alloc (.cells #[.int .i64 o0.code, .int .i64 o0.value, .slice D1 n0 n0, .int .i64 o0.used] 28)).cell? ⟨w.heap.size + 1, 1, none⟩ = some (.int .i64 o1.value) := j6.cell 1
        have y2 : (w6.alloc (.cells #[.int .i64 o0.code, .int .i64 o0.value, .slice D1 n0 n0, .int .i64 o0.used] 28)).cell? ⟨w.heap.size + 1, 2, none⟩ = some (.slice A1 n1 c1) := j6.cell 2
        have y3 : (w6.alloc (.cells #[.int .i64 o0.code, .int .i64 o0.value, .slice D1 n0 n0, .int .i64 o0.used] 28)).cell? ⟨w.heap.size + 1, 3, none⟩ = some (.int .i64 o1.used) := j6.cell 3
        clear x0 x1 x2 x3
        go_wp2_with fail
        clear y0 y1 y2 y3
        generalize hW : w6.alloc (.cells #[.int .i64 o0.code, .int .i64 o0.value, .slice D1 n0 n0, .int .i64 o0.used] 28) = w7 at k6 j6 p6 m6a b6a ⊢
        clear hW m6 b6 k5 j5 hb6
        refine (toOutcome_v o1 A1 n1 c1 w7 (r1.now b6a) s1).mono ?_
        rintro e w8 ⟨D2, rfl, m8, hb8⟩
        have b8 : Below w.heap.size w w8 := b6a.trans (hb8.mono b6a.size)
        have k8 := (k6.below hb8).alloc (.cells #[.int .i64 o1.code, .int .i64 o1.value, .slice D2 n1 n1, .int .i64 o1.used] 28)
        have j8 := (j6.below hb8).alloc (.cells #[.int .i64 o1.code, .int .i64 o1.value, .slice D2 n1 n1, .int .i64 o1.used] 28)
        have p8 := (p6.below hb8).alloc (.cells #[.int .i64 o1.code, .int .i64 o1.value, .slice D2 n1 n1, .int .i64 o1.used] 28)
        have q8 := Keep.new w8 #[.int .i64 o1.code, .int .i64 o1.value, .slice D2 n1 n1, .int .i64 o1.used] 28
        have m6b := (m6a.same (SameFrom.of_below hb8)).same (SameFrom.of_below ((Below.refl _ w8).alloc (Nat.le_refl _) (.cells #[.int .i64 o1.code, .int .i64 o1.value, .slice D2 n1 n1, .int .i64 o1.used] 28)))
        have m8a := m8.same (SameFrom.of_below ((Below.refl _ w8).alloc (Nat.le_refl _) (.cells #[.int .i64 o1.code, .int .i64 o1.value, .slice D2 n1 n1, .int .i64 o1.used] 28)))
        have b8a := b8.alloc b8.size (.cells #[.int .i64 o1.code, .int .i64 o1.value, .slice D2 n1 n1, .int .i64 o1.used] 28)
        have x0 : (w8.alloc (.cells #[.int .i64 o1.code, .int .i64 o1.value, .slice D2 n1 n1, .int .i64 o1.used] 28)).cell? ⟨w6.heap.size, 0, none⟩ = some (.int .i64 o0.code) := p8.cell 0
        have x1 : (w8.alloc (.cells #[.int .i64 o1.code, .int .i64 o1.value, .slice D2 n1 n1, .int .i64 o1.used] 28)).cell? ⟨w6.heap.size, 1, none⟩ = some (.int .i64 o0.value) := p8.cell 1
        have x2 : (w8.alloc (.cells #[.int .i64 o1.code, .int .i64 o1.value, .slice D2 n1 n1, .int .i64 o1.used] 28)).cell? ⟨w6.heap.size, 2, none⟩ = some (.slice D1 n0 n0) := p8.cell 2
        have x3 : (w8.alloc (.cells #[.int .i64 o1.code, .int .i64 o1.value, .slice D2 n1 n1, .int .i64 o1.used] 28)).cell? ⟨w6.heap.size, 3, none⟩ = some (.int .i64 o0.used) := p8.cell 3
        go_wp2_with fail
        clear x0 x1 x2 x3
        generalize hW : w8.alloc (.cells #[.int .i64 o1.code, .int .i64 o1.value, .slice D2 n1 n1, .int .i64 o1.used] 28) = w9 at k8 j8 p8 q8 m6b m8a b8a ⊢
        clear hW m8 b8 k6 j6 hb8 p6 m6a b6a
        refine (firstApart_m o0 o1 D1 n0 n0 D2 n1 w9 _ m6b.reads m8a s0 s1).mono ?_
        rw [HPQ.out]
        rintro e w10 ⟨rfl, hb10⟩
        have b10 : Below w.heap.size w w10 := b8a.trans (hb10.mono b8a.size)
        have k10 := k8.below hb10
        have j10 := j8.below hb10
        have p10 := p8.below hb10
        have q10 := q8.below hb10
        have m6c := m6b.same (SameFrom.of_below hb10)
        have m8c := m8a.same (SameFrom.of_below hb10)
        clear k8 j8 p8 q8 m6b m8a b8a hb10
        clear HPQ
        have x0 := k10.cell 0
        have x1 := k10.cell 1
        have x2 := k10.cell 2
        have x3 := k10.cell 3
        simp at x0 x1 x2 x3
        have y0 := p10.cell 0
        have y1 := p10.cell 1
        have y2 := p10.cell 2
        have y3 := p10.cell 3
        simp at y0 y1 y2 y3
        go_wp2
        go_region_law (first
          | (go_simp; go_at_call 9; refine (eqOutcome_same o0 D1 n0 n0 C3 n0 w11 m6d.reads m11.reads s0).mono ?_; rintro e w12 ⟨rfl, hb12⟩)
          | (go_simp; go_at_call 7; refine (toOutcome_v o0 A0 n0 c0 w10.drew (r0.now b10.drew) s0).mono ?_; rintro e w11 ⟨C3, rfl, m11, hb11⟩; have p11 := Keep.below (w := w10.drew) p10 hb11; have v0 := p11.cell 0; have v1 := p11.cell 1; have v2 := p11.cell 2; have v3 := p11.cell 3; simp at v0 v1 v2 v3; have m6d := m6c.same (SameFrom.of_below ((Below.refl w10.heap.size w10).drew.trans hb11))))
        all_goals (
          have b11 : Below w.heap.size w w11 := b10.drew.trans (hb11.mono b10.size)
          have b12 : Below w.heap.size w w12 := b11.trans (hb12.mono b11.size)
          have j12 := (Keep.below (w := w10.drew) j10 hb11).below hb12
          have q12 := (Keep.below (w := w10.drew) q10 hb11).below hb12
          have m8d := (m8c.same (SameFrom.of_below ((Below.refl w10.heap.size w10).drew.trans hb11))).same (SameFrom.of_below hb12)
          clear k10 j10 p10 q10 m6c m8c m6d m11 hb11 hb12 b10 b11 p11 v0 v1 v2 v3 x0 x1 x2 x3 y0 y1 y2 y3
          have x0 := j12.cell 0
          have x1 := j12.cell 1
          have x2 := j12.cell 2
          have x3 := j12.cell 3
          simp at x0 x1 x2 x3
          have y0 := q12.cell 0
          have y1 := q12.cell 1
          have y2 := q12.cell 2
          have y3 := q12.cell 3
          simp at y0 y1 y2 y3
          go_wp2
          go_region_law (first
            | (go_simp; go_at_call 9; refine (eqOutcome_same o1 D2 n1 n1 C4 n1 w13 m8e.reads m13.reads s1).mono ?_; rintro e w14 ⟨rfl, hb14⟩)
            | (go_simp; go_at_call 7; refine (toOutcome_v o1 A1 n1 c1 w12.drew (r1.now b12.drew) s1).mono ?_; rintro e w13 ⟨C4, rfl, m13, hb13⟩; have q13 := Keep.below (w := w12.drew) q12 hb13; have v0 := q13.cell 0; have v1 := q13.cell 1; have v2 := q13.cell 2; have v3 := q13.cell 3; simp at v0 v1 v2 v3; have m8e := m8d.same (SameFrom.of_below ((Below.refl w12.heap.size w12).drew.trans hb13))))
          all_goals (
            have b13 : Below w.heap.size w w13 := b12.drew.trans (hb13.mono b12.size)
            have b14 : Below w.heap.size w w14 := b13.trans (hb14.mono b13.size)
            go_wp2
            go_ret
            exact ⟨rfl, b14⟩)))
    · have z1 := szA_no (Int.not_le.1 h1)
      go_enter Try.func3, Try.ntmps3
      go_wp2_with fail
      generalize hW : (w.alloc (.cells #[.int .i64 o0.code, .int .i64 o0.value, .slice A0 n0 c0, .int .i64 o0.used] 24)).alloc (.cells #[.int .i64 o1.code, .int .i64 o1.value, .slice A1 n1 c1, .int .i64 o1.used] 24) = W0 at hb0 k0 j0 ⊢
      clear hW
      refine (szOutcome_any o0 A0 n0 c0 1048576 W0 l0 (by decide) (by decide)).mono ?_
      rintro e w1 ⟨rfl, hb1⟩
      rw [z0]
      have b1 : Below w.heap.size w w1 := hb0.trans (hb1.mono hb0.size)
      have j1 := j0.below hb1
      clear hb0 k0 j0 hb1 z0
      have y0 := j1.cell 0
      have y1 := j1.cell 1
      have y2 := j1.cell 2
      have y3 := j1.cell 3
      simp at y0 y1 y2 y3
      go_wp2_with fail
      refine (szOutcome_any o1 A1 n1 c1 (1048576 - n0) w1 l1 hp0 hp1).mono ?_
      rintro e w2 ⟨rfl, hb2⟩
      rw [z1]
      go_wp2
      go_ret
      exact ⟨rfl, b1.trans (hb2.mono b1.size)⟩
  · have z0 := szA_no (Int.not_le.1 h0)
    go_enter Try.func3, Try.ntmps3
    go_wp2_with fail
    generalize hW : (w.alloc (.cells #[.int .i64 o0.code, .int .i64 o0.value, .slice A0 n0 c0, .int .i64 o0.used] 24)).alloc (.cells #[.int .i64 o1.code, .int .i64 o1.value, .slice A1 n1 c1, .int .i64 o1.used] 24) = W0 at hb0 k0 j0 ⊢
    clear hW
    refine (szOutcome_any o0 A0 n0 c0 1048576 W0 l0 (by decide) (by decide)).mono ?_
    rintro e w1 ⟨rfl, hb1⟩
    rw [z0]
    go_wp2
    go_ret
    exact ⟨rfl, hb0.trans (hb1.mono hb0.size)⟩

/-! From the walk to the given row. -/
set_option maxRecDepth 100000 in
theorem lifted (os : Os) (started : os.Started) (H : Type) (enc : TypeId × Value → H) :
    ReturnsInHanded {} Try.checked os 3 .any (Rows.fnExactFirstApartSpec.pre6 enc Try.prog Try.f3 Rows.fnExactFirstApartRow.domain false) (Rows.fnExactFirstApartSpec.post enc Try.prog Try.f3 false true false false) := by
  refine returnsInHanded_of_change (C := Try.checked) own started (by kernel_rfl) Try.func3
    (ChangeSpec.witness6 (enc := enc) (C := Try.checked) false ⟨#[], #[.agg #[.int .i64 0, .int .i64 0, .slice none 0 0, .int .i64 0], .agg #[.int .i64 0, .int .i64 0, .slice none 0 0, .int .i64 0]], []⟩ 8 (by kernel_rfl) (by kernel_rfl) (by kernel_rfl) (by kernel_rfl)) ?_
  intro W base args ds gs before hval0 hW hcnd _
  have hval : ∀ (j : Nat) t v, Try.f3.params[j]? = some t → args[j]? = some v → Value.okWide Try.prog W .any base t v := hval0
  have hW' := hW
  obtain ⟨p, q, hA0, hV, rfl, hfz, hnd⟩ := hW
  have hA : DataW.TrodAll enc Try.prog W 0 (fun _ => true) true Try.f3.params.toList args.toList ds p := hA0
  rw [Try.params3] at hA hval
  obtain ⟨v0, vs0, d0, ds0, p0, q0, hargs, rfl, rfl, h0, r0q⟩ := trodAll_cons hA
  obtain ⟨v1, vs1, d1, ds1, p1, q1, rfl, rfl, rfl, h1, r1q⟩ := trodAll_cons r0q
  obtain ⟨rfl, rfl, rfl⟩ := trodAll_nil r1q
  obtain rfl : args = #[v0, v1] := by cases args; simp_all
  obtain ⟨rfl, rfl⟩ := trodVars_none hV
  have k0 := h0
  have lt0 : ∀ x ∈ p0, x.block < W.heap.size := by obtain ⟨m, hm⟩ := k0; exact DataW.trod_lt m _ _ _ hm
  obtain ⟨o0, A0, n0, c0, rfl, r0, l0⟩ := open_outcome (hval 0 24 v0 rfl rfl) h0
  have k1 := h1
  have lt1 : ∀ x ∈ p1, x.block < W.heap.size := by obtain ⟨m, hm⟩ := k1; exact DataW.trod_lt m _ _ _ hm
  obtain ⟨o1, A1, n1, c1, rfl, r1, l1⟩ := open_outcome (hval 1 24 v1 rfl rfl) h1
  clear hA0 hval0
  refine (walk W o0 A0 n0 c0 r0 l0 o1 A1 n1 c1 r1 l1).mono fun e W' ⟨he, bel⟩ => ?_
  subst he
  exact ⟨_, rfl, _, _, _, [], _, [], hW', trodAll_mk1 (shut_bool Try.underlying4 _), (trodAll_cons_mk (Below.trod laidOut (by kernel_rfl) (of_decide_eq_true (by kernel_rfl)) k0 bel lt0) (trodAll_cons_mk (Below.trod laidOut (by kernel_rfl) (of_decide_eq_true (by kernel_rfl)) k1 bel lt1) trodAll_mk0)), rfl, bel.frame _, fun h => by cases h⟩

theorem over : Rows.fnExactFirstApartRow.holds Try.pinned (OpenSpec.ofChange Rows.fnExactFirstApartSpec) :=
  OpenClaim.holds_of_wide 3 Try.f3 rfl rfl rfl rfl rfl rfl rfl ⟨rfl, rfl, rfl, rfl, rfl⟩ rfl rfl rfl rfl rfl (by kernel_rfl) Try.func3 (by kernel_rfl)
    (of_decide_eq_true (by kernel_rfl)) (by unfold Func.isWrapper; first | (rw [if_pos (by decide +kernel)]; kernel_rfl) | (rw [if_neg (by decide +kernel)]; exact ⟨rfl, rfl⟩))
    (fun os started H enc _ => lifted os started H enc)

/-- The given statement. -/
theorem proved : Rows.FnExactFirstApartSaid := over
#print axioms proved
end Go.Proofs.Ytaogdaoiijmmhaa.fnExactFirstApart

/-
  Proved: at every image and machine the program's SearchUp gives the same answer as the reference SearchUp and leaves its arguments as they were; the law FnExactSearchUp returns true at every argument, where the listed variable is as the program's text lays it.
  Conditions: none beyond those that the given card itself prints.
-/
import Derived.Test.YtpbkkjiikhjanaaGreatDoorRows
import Derived.Test.YtpbkkjiikhjanaaGreatDoorTie
import Derived.Test.YtpbkkjiikhjanaaGreatDoorCards
import Derived.Test.YtpbkkjiikhjanaaGreatDoorJIns1
import Derived.Test.YtpbkkjiikhjanaaGreatDoorJSu
import Derived.Test.YtpbkkjiikhjanaaGreatDoorJCda4
import Derived.Test.YtpbkkjiikhjanaaGreatDoorJGg
import Derived.Test.YtpbkkjiikhjanaaGreatDoorJArgV
import Derived.Test.YtpbkkjiikhjanaaGreatDoorJMcV
import Derived.Deep.RegionLaw
import Derived.WalkKit
import Derived.ProofKit
import Derived.OpenShut
import Derived.OpenVars
import Derived.ShutString
import Derived.ChangeOld
import Derived.Below
import Derived.LaidMore
import Derived.SevenTiedAt
namespace Go.Proofs.YtpbkkjiikhjanaaGreatDoor.fnExactSearchUp
open Go.ChangeShapes Go.WideShapes Go.ChangeAt Go.RowKit Exs
open Go.ChangeMaps (open_string shut_string)
set_option linter.unusedVariables false

theorem own : ownKnob Tryz.prog.godebug = none := by kernel_rfl
theorem laidOut : laidOutB Tryz.prog = true := by kernel_rfl

/-! The walk: both functions by their contracts, whose answers are the same. -/
set_option maxHeartbeats 40000000 in
set_option maxRecDepth 100000 in
theorem walk (w : World) (A0 : Option Addr) (n0 c0 : Nat) (cs0 : List Cd) (r0 : ReadsC w w.heap.size A0 n0 cs0) (l0 : LongI cs0) (s1 : Mc) (A11 : Option Addr) (n11 c11 : Nat) (A12 : Option Addr) (n12 c12 : Nat) (A13 : Option Addr) (n13 c13 : Nat) (r1 : IsMc w w.heap.size s1 A11 n11 A12 n12 A13 n13) (l1 : LongMc s1) (hpos : 0 < w.heap.size) (hk : Kinds w) :
    Calls Tryz.prog 4 #[.agg #[.slice A0 n0 c0], mcV s1 A11 n11 c11 A12 n12 c12 A13 n13 c13] w fun e w' => e = .returned (.bool true) ∧ Below w.heap.size w w' := by

  have hb0 : Below w.heap.size w ((w.alloc (.cells #[.slice A0 n0 c0] 24)).alloc (.cells #[.slice A11 n11 c11, .slice A12 n12 c12, .int .i64 s1.used, .int .i64 s1.code, .int .i64 s1.value, .int .i64 s1.made, .slice A13 n13 c13] 29)) := ((Below.refl _ _).alloc (Nat.le_refl _) _).alloc (by simp) _
  have k0 : Keep ((w.alloc (.cells #[.slice A0 n0 c0] 24)).alloc (.cells #[.slice A11 n11 c11, .slice A12 n12 c12, .int .i64 s1.used, .int .i64 s1.code, .int .i64 s1.value, .int .i64 s1.made, .slice A13 n13 c13] 29)) w.heap.size #[.slice A0 n0 c0] 24 := (Keep.new _ _ _).alloc _
  have j0 : Keep ((w.alloc (.cells #[.slice A0 n0 c0] 24)).alloc (.cells #[.slice A11 n11 c11, .slice A12 n12 c12, .int .i64 s1.used, .int .i64 s1.code, .int .i64 s1.value, .int .i64 s1.made, .slice A13 n13 c13] 29)) (w.heap.size + 1) #[.slice A11 n11 c11, .slice A12 n12 c12, .int .i64 s1.used, .int .i64 s1.code, .int .i64 s1.value, .int .i64 s1.made, .slice A13 n13 c13] 29 := by
    have := Keep.new (w.alloc (.cells #[.slice A0 n0 c0] 24)) #[.slice A11 n11 c11, .slice A12 n12 c12, .int .i64 s1.used, .int .i64 s1.code, .int .i64 s1.value, .int .i64 s1.made, .slice A13 n13 c13] 29
    rw [World.size_alloc] at this
    exact this
  have HK := put hk
  clear hk
  obtain ⟨t0, ht0⟩ : ∃ t : Nat, n0 + manyCs cs0 = t := ⟨_, rfl⟩
  obtain ⟨t1, ht1⟩ : ∃ t : Nat, manyMc s1 = t := ⟨_, rfl⟩
  unfold mcV
  by_cases h0 : (t0 : Int) ≤ 1048576
  · have z0 := szA_fit h0
    have HSM := put (show SmallI cs0 from smallI_of (by have := r0.1; omega))
    have hp0 : (0 : Int) ≤ 1048576 - t0 := by omega
    have hp1 : (1048576 : Int) - t0 ≤ 1048576 := by omega
    have hq0 : ¬ (1048576 : Int) - t0 < 0 := by omega
    by_cases h1 : (t1 : Int) ≤ 1048576 - t0
    · have z1 := szA_fit h1
      have MSM := put (smallMc_of (show manyMc s1 ≤ 1048576 by omega))
      have hq1 : ¬ (1048576 : Int) - t0 - t1 < 0 := by omega
      have hans : ∃ q, suAns cs0 ⟨s1.frames, s1.trace, s1.used, s1.code, s1.value, s1.made, s1.notes⟩ = q := ⟨_, rfl⟩
      obtain ⟨⟨q1, q2⟩, hpq⟩ := hans
      have HPQ := put hpq
      clear hpq
      clear h0 h1
      go_enter Tryz.func4, Tryz.ntmps4
      go_wp2_with fail
      generalize hW : (w.alloc (.cells #[.slice A0 n0 c0] 24)).alloc (.cells #[.slice A11 n11 c11, .slice A12 n12 c12, .int .i64 s1.used, .int .i64 s1.code, .int .i64 s1.value, .int .i64 s1.made, .slice A13 n13 c13] 29) = W0 at hb0 k0 j0 ⊢
      clear hW
      refine (szImage_any A0 n0 c0 cs0 1048576 W0 (r0.now hb0) l0 (by decide) (by decide)).mono ?_
      rintro e w1 ⟨rfl, hb1⟩
      rw [ht0, z0]
      have b1 : Below w.heap.size w w1 := hb0.trans (hb1.mono hb0.size)
      have k1 := k0.below hb1
      have j1 := j0.below hb1
      clear hb0 k0 j0 hb1 z0
      have y0 := j1.cell 0
      have y1 := j1.cell 1
      have y2 := j1.cell 2
      have y3 := j1.cell 3
      have y4 := j1.cell 4
      have y5 := j1.cell 5
      have y6 := j1.cell 6
      simp at y0 y1 y2 y3 y4 y5 y6
      go_wp2_with fail
      refine (szMc_v s1 A11 n11 c11 A12 n12 c12 A13 n13 c13 (1048576 - t0) w1 (r1.now b1) l1 hp0 hp1).mono ?_
      rintro e w2 ⟨rfl, hb2⟩
      rw [ht1, z1]
      have b2 : Below w.heap.size w w2 := b1.trans (hb2.mono b1.size)
      have k2 := k1.below hb2
      have j2 := j1.below hb2
      clear b1 k1 j1 hb2 z1 y0 y1 y2 y3 y4 y5 y6 hp0 hp1 ht0 ht1
      have x0 := k2.cell 0
      simp at x0
      have y0 := j2.cell 0
      have y1 := j2.cell 1
      have y2 := j2.cell 2
      have y3 := j2.cell 3
      have y4 := j2.cell 4
      have y5 := j2.cell 5
      have y6 := j2.cell 6
      simp at y0 y1 y2 y3 y4 y5 y6
      go_wp2
      go_region_law (first
        | (go_simp; go_at_call 14; refine (specSearchUp_any D2 n0 n0 cs0 C11 n11 n11 s1.frames C12 n12 n12 s1.trace C13 n13 n13 s1.notes s1.used s1.code s1.value s1.made w4 m3b.reads m4.reads.frames m4.reads.trace HSM.out MSM.out.2.1 (by rw [← r1.frames.1]; exact MSM.out.1) (by rw [← r1.trace.1]; exact MSM.out.2.2.1)).mono ?_; simp only [HPQ.out]; rintro e w5 ⟨rfl, hb5⟩)
        | (go_simp; go_at_call 10; refine (toMc_v s1 A11 n11 c11 A12 n12 c12 A13 n13 c13 w3 (r1.now b3) MSM.out).mono ?_; rintro e w4 ⟨C11, C12, C13, rfl, m4, hb4⟩; have b4 : Below w.heap.size w w4 := b3.trans (hb4.mono b3.size); have m3b := m3.same (SameFrom.of_below hb4))
        | (go_simp; go_at_call 9; refine (toImage_any A0 n0 c0 cs0 w2.drew (r0.now b2.drew) HSM.out).mono ?_; rintro e w3 ⟨D2, rfl, m3, hb3⟩; have b3 : Below w.heap.size w w3 := b2.drew.trans (hb3.mono b2.size); have j3 := Keep.below (w := w2.drew) j2 hb3; have v0 := j3.cell 0; have v1 := j3.cell 1; have v2 := j3.cell 2; have v3 := j3.cell 3; have v4 := j3.cell 4; have v5 := j3.cell 5; have v6 := j3.cell 6; simp at v0 v1 v2 v3 v4 v5 v6))
      all_goals (
        have b5 : Below w.heap.size w w5 := b4.trans (hb5.mono b4.size)
        have k5 := (Keep.below (w := w3) (Keep.below (w := w2.drew) k2 hb3) hb4).below hb5
        have j5 := (Keep.below (w := w3) (Keep.below (w := w2.drew) j2 hb3) hb4).below hb5
        clear m3 m3b m4 hb3 hb4 hb5 b2 b3 b4 k2 j2 j3 x0 v0 v1 v2 v3 v4 v5 v6 y0 y1 y2 y3 y4 y5 y6
        have x0 := k5.cell 0
        simp at x0
        go_wp2_with fail
        clear x0
        refine (toImage_any A0 n0 c0 cs0 w5 (r0.now b5) HSM.out).mono ?_
        rintro e w6 ⟨B6, rfl, m6, hb6⟩
        have b6 : Below w.heap.size w w6 := b5.trans (hb6.mono b5.size)
        have k6 := (k5.below hb6).alloc (.cells #[.slice B6 n0 n0] 36)
        have j6 := (j5.below hb6).alloc (.cells #[.slice B6 n0 n0] 36)
        have p6 := Keep.new w6 #[.slice B6 n0 n0] 36
        have m6a := m6.same (SameFrom.of_below ((Below.refl _ w6).alloc (Nat.le_refl _) (.cells #[.slice B6 n0 n0] 36)))
        have b6a := b6.alloc b6.size (.cells #[.slice B6 n0 n0] 36)
        have y0 : (w6.alloc (.cells #[.slice B6 n0 n0] 36)).cell? ⟨w.heap.size + 1, 0, none⟩ = some (.slice A11 n11 c11) := j6.cell 0
        have y1 : (w6.alloc (.cells #[.slice B6 n0 n0] 36)).cell? ⟨w.heap.size + 1, 1, none⟩ = some (.slice A12 n12 c12) := j6.cell 1
        have y2 : (w6.alloc (.cells #[.slice B6 n0 n0] 36)).cell? ⟨w.heap.size + 1, 2, none⟩ = some (.int .i64 s1.used) := j6.cell 2
        have y3 : (w6.alloc (.cells #[.slice B6 n0 n0] 36)).cell? ⟨w.heap.size + 1, 3, none⟩ = some (.int .i64 s1.code) := j6.cell 3
        have y4 : (w6.alloc (.cells #[.slice B6 n0 n0] 36)).cell? ⟨w.heap.size + 1, 4, none⟩ = some (.int .i64 s1.value) := j6.cell 4
        have y5 : (w6.alloc (.cells #[.slice B6 n0 n0] 36)).cell? ⟨w.heap.size + 1, 5, none⟩ = some (.int .i64 s1.made) := j6.cell 5
        have y6 : (w6.alloc (.cells #[.slice B6 n0 n0] 36)).cell? ⟨w.heap.size + 1, 6, none⟩ = some (.slice A13 n13 c13) := j6.cell 6
        go_wp2_with fail
        clear y0 y1 y2 y3 y4 y5 y6
        generalize hW : w6.alloc (.cells #[.slice B6 n0 n0] 36) = w7 at k6 j6 p6 m6a b6a ⊢
        clear hW m6 b6 k5 j5 hb6
        refine (toMc_v s1 A11 n11 c11 A12 n12 c12 A13 n13 c13 w7 (r1.now b6a) MSM.out).mono ?_
        rintro e w8 ⟨E11, E12, E13, rfl, m8, hb8⟩
        have b8 : Below w.heap.size w w8 := b6a.trans (hb8.mono b6a.size)
        have k8 := (k6.below hb8).alloc (.cells #[.slice E11 n11 n11, .slice E12 n12 n12, .int .i64 s1.used, .int .i64 s1.code, .int .i64 s1.value, .int .i64 s1.made, .slice E13 n13 n13] 41)
        have j8 := (j6.below hb8).alloc (.cells #[.slice E11 n11 n11, .slice E12 n12 n12, .int .i64 s1.used, .int .i64 s1.code, .int .i64 s1.value, .int .i64 s1.made, .slice E13 n13 n13] 41)
        have p8 := (p6.below hb8).alloc (.cells #[.slice E11 n11 n11, .slice E12 n12 n12, .int .i64 s1.used, .int .i64 s1.code, .int .i64 s1.value, .int .i64 s1.made, .slice E13 n13 n13] 41)
        have q8 := Keep.new w8 #[.slice E11 n11 n11, .slice E12 n12 n12, .int .i64 s1.used, .int .i64 s1.code, .int .i64 s1.value, .int .i64 s1.made, .slice E13 n13 n13] 41
        have m6b := (m6a.same (SameFrom.of_below hb8)).same (SameFrom.of_below ((Below.refl _ w8).alloc (Nat.le_refl _) (.cells #[.slice E11 n11 n11, .slice E12 n12 n12, .int .i64 s1.used, .int .i64 s1.code, .int .i64 s1.value, .int .i64 s1.made, .slice E13 n13 n13] 41)))
        have m8a := m8.same (SameFrom.of_below ((Below.refl _ w8).alloc (Nat.le_refl _) (.cells #[.slice E11 n11 n11, .slice E12 n12 n12, .int .i64 s1.used, .int .i64 s1.code, .int .i64 s1.value, .int .i64 s1.made, .slice E13 n13 n13] 41)))
        have b8a := b8.alloc b8.size (.cells #[.slice E11 n11 n11, .slice E12 n12 n12, .int .i64 s1.used, .int .i64 s1.code, .int .i64 s1.value, .int .i64 s1.made, .slice E13 n13 n13] 41)
        have x0 : (w8.alloc (.cells #[.slice E11 n11 n11, .slice E12 n12 n12, .int .i64 s1.used, .int .i64 s1.code, .int .i64 s1.value, .int .i64 s1.made, .slice E13 n13 n13] 41)).cell? ⟨w6.heap.size, 0, none⟩ = some (.slice B6 n0 n0) := p8.cell 0
        go_wp2_with fail
        clear x0
        generalize hW : w8.alloc (.cells #[.slice E11 n11 n11, .slice E12 n12 n12, .int .i64 s1.used, .int .i64 s1.code, .int .i64 s1.value, .int .i64 s1.made, .slice E13 n13 n13] 41) = w9 at k8 j8 p8 q8 m6b m8a b8a ⊢
        clear hW m8 b8 k6 j6 hb8 p6 m6a b6a
        refine (implSearchUp_any B6 n0 n0 cs0 E11 n11 n11 s1.frames E12 n12 n12 s1.trace E13 n13 n13 s1.notes s1.used s1.code s1.value s1.made w9 (MCds.reads m6b) m8a.reads.frames m8a.reads.trace HSM.out MSM.out.2.1 (by rw [← r1.frames.1]; exact MSM.out.1) (by rw [← r1.trace.1]; exact MSM.out.2.2.1) (Nat.le_refl _) (HK.out.below b8a hpos) (by have := b8a.size; omega)).mono ?_
        simp only [HPQ.out]
        rintro e w10 ⟨rfl, hb10⟩
        have b10 : Below w.heap.size w w10 := b8a.trans (hb10.mono b8a.size)
        have k10 := k8.below hb10
        have j10 := j8.below hb10
        have p10 := p8.below hb10
        have q10 := q8.below hb10
        have m6c := m6b.same (SameFrom.of_below hb10)
        have m8c := m8a.same (SameFrom.of_below hb10)
        clear k8 j8 p8 q8 m6b m8a b8a hb10
        have x0 := k10.cell 0
        have y0 := p10.cell 0
        simp at x0 y0
        go_wp2
        go_region_law (first
          | (go_simp; go_at_call 12; refine (eqImage_same B6 B11 n0 n0 n0 cs0 w11 (MCds.reads m6d) m11.reads HSM.out).mono ?_; rintro e w12 ⟨rfl, hb12⟩)
          | (go_simp; go_at_call 9; refine (toImage_any A0 n0 c0 cs0 w10.drew (r0.now b10.drew) HSM.out).mono ?_; rintro e w11 ⟨B11, rfl, m11, hb11⟩; have p11 := Keep.below (w := w10.drew) p10 hb11; have v0 := p11.cell 0; simp at v0; have m6d := m6c.same (SameFrom.of_below ((Below.refl w10.heap.size w10).drew.trans hb11))))
        all_goals (
          have b11 : Below w.heap.size w w11 := b10.drew.trans (hb11.mono b10.size)
          have b12 : Below w.heap.size w w12 := b11.trans (hb12.mono b11.size)
          have j12 := (Keep.below (w := w10.drew) j10 hb11).below hb12
          have q12 := (Keep.below (w := w10.drew) q10 hb11).below hb12
          have m8d := (m8c.same (SameFrom.of_below ((Below.refl w10.heap.size w10).drew.trans hb11))).same (SameFrom.of_below hb12)
          clear k10 j10 p10 q10 m6c m8c m6d m11 hb11 hb12 b10 b11 p11 x0 y0 v0
          have x0 := j12.cell 0
          have x1 := j12.cell 1
          have x2 := j12.cell 2
          have x3 := j12.cell 3
          have x4 := j12.cell 4
          have x5 := j12.cell 5
          have x6 := j12.cell 6
          simp at x0 x1 x2 x3 x4 x5 x6
          have y0 := q12.cell 0
          have y1 := q12.cell 1
          have y2 := q12.cell 2
          have y3 := q12.cell 3
          have y4 := q12.cell 4
          have y5 := q12.cell 5
          have y6 := q12.cell 6
          simp at y0 y1 y2 y3 y4 y5 y6
          go_wp2
          go_region_law (first
            | (go_simp; go_at_call 13; refine (eqMc_v s1 E11 n11 n11 E12 n12 n12 E13 n13 n13 G11 n11 n11 G12 n12 n12 G13 n13 n13 w13 m8e.reads m13.reads MSM.out).mono ?_; rintro e w14 ⟨rfl, hb14⟩)
            | (go_simp; go_at_call 10; refine (toMc_v s1 A11 n11 c11 A12 n12 c12 A13 n13 c13 w12.drew (r1.now b12.drew) MSM.out).mono ?_; rintro e w13 ⟨G11, G12, G13, rfl, m13, hb13⟩; have q13 := Keep.below (w := w12.drew) q12 hb13; have v0 := q13.cell 0; have v1 := q13.cell 1; have v2 := q13.cell 2; have v3 := q13.cell 3; have v4 := q13.cell 4; have v5 := q13.cell 5; have v6 := q13.cell 6; simp at v0 v1 v2 v3 v4 v5 v6; have m8e := m8d.same (SameFrom.of_below ((Below.refl w12.heap.size w12).drew.trans hb13))))
          all_goals (
            have b13 : Below w.heap.size w w13 := b12.drew.trans (hb13.mono b12.size)
            have b14 : Below w.heap.size w w14 := b13.trans (hb14.mono b13.size)
            go_wp2
            go_ret
            exact ⟨rfl, b14⟩)))
    · have z1 := szA_no (Int.not_le.1 h1)
      go_enter Tryz.func4, Tryz.ntmps4
      go_wp2_with fail
      generalize hW : (w.alloc (.cells #[.slice A0 n0 c0] 24)).alloc (.cells #[.slice A11 n11 c11, .slice A12 n12 c12, .int .i64 s1.used, .int .i64 s1.code, .int .i64 s1.value, .int .i64 s1.made, .slice A13 n13 c13] 29) = W0 at hb0 k0 j0 ⊢
      clear hW
      refine (szImage_any A0 n0 c0 cs0 1048576 W0 (r0.now hb0) l0 (by decide) (by decide)).mono ?_
      rintro e w1 ⟨rfl, hb1⟩
      rw [ht0, z0]
      have b1 : Below w.heap.size w w1 := hb0.trans (hb1.mono hb0.size)
      have j1 := j0.below hb1
      clear hb0 k0 j0 hb1 z0
      have y0 := j1.cell 0
      have y1 := j1.cell 1
      have y2 := j1.cell 2
      have y3 := j1.cell 3
      have y4 := j1.cell 4
      have y5 := j1.cell 5
      have y6 := j1.cell 6
      simp at y0 y1 y2 y3 y4 y5 y6
      go_wp2_with fail
      refine (szMc_v s1 A11 n11 c11 A12 n12 c12 A13 n13 c13 (1048576 - t0) w1 (r1.now b1) l1 hp0 hp1).mono ?_
      rintro e w2 ⟨rfl, hb2⟩
      rw [ht1, z1]
      go_wp2
      go_ret
      exact ⟨rfl, b1.trans (hb2.mono b1.size)⟩
  · have z0 := szA_no (Int.not_le.1 h0)
    go_enter Tryz.func4, Tryz.ntmps4
    go_wp2_with fail
    generalize hW : (w.alloc (.cells #[.slice A0 n0 c0] 24)).alloc (.cells #[.slice A11 n11 c11, .slice A12 n12 c12, .int .i64 s1.used, .int .i64 s1.code, .int .i64 s1.value, .int .i64 s1.made, .slice A13 n13 c13] 29) = W0 at hb0 k0 j0 ⊢
    clear hW
    refine (szImage_any A0 n0 c0 cs0 1048576 W0 (r0.now hb0) l0 (by decide) (by decide)).mono ?_
    rintro e w1 ⟨rfl, hb1⟩
    rw [ht0, z0]
    go_wp2
    go_ret
    exact ⟨rfl, hb0.trans (hb1.mono hb0.size)⟩

/-- The world that the program's own start leaves. -/
noncomputable def startWorld (os : Os) : World := World.doorLaid Tryz.prog 158 os
theorem start_met (os : Os) (args : Array Value) : laidMetH Tryz.prog Rows.fnExactSearchUpRow.laid ((startWorld os).forCall (fun _ _ => 0) ⟨#[], args, []⟩).memory :=
  laidMetH_of_parts3 (fuel := 8) (laidMet_of_run' 8 (by kernel_rfl) (by kernel_rfl)) (by kernel_rfl) (by kernel_rfl)

/-! From the walk to the given row. -/
set_option maxRecDepth 100000 in
theorem lifted (os : Os) (started : os.Started) (H : Type) (enc : TypeId × Value → H) :
    ReturnsInHanded {} Tryz.checked os 4 .any (fun w args => (Rows.fnExactSearchUpSpec.pre enc Tryz.prog Tryz.f4 [] false w args ∧ laidMetH Tryz.prog Rows.fnExactSearchUpRow.laid w) ∧ sizedMet enc Tryz.prog Tryz.f4 (OpenSpec.ofChange Rows.fnExactSearchUpSpec) false w args) (Rows.fnExactSearchUpSpec.post enc Tryz.prog Tryz.f4 false true false false) := by
  refine returnsInHanded_of_change_and (C := Tryz.checked) (X := fun w _ => laidMetH Tryz.prog Rows.fnExactSearchUpRow.laid w) (fun _ _ _ hh h => h.of_heap hh) own started (by kernel_rfl) Tryz.func4
    (ChangeSpec.witness_shaped (enc := enc) (C := Tryz.checked) (os := os) (X := fun w _ => laidMetH Tryz.prog Rows.fnExactSearchUpRow.laid w) false (startWorld os) #[.agg #[.slice none 0 0], .agg #[.slice none 0 0, .slice none 0 0, .int .i64 0, .int .i64 0, .int .i64 0, .int .i64 0, .slice none 0 0]] 8 rfl (World.shaped_of_RefB (by kernel_rfl) (by kernel_rfl)) (by kernel_rfl) (by kernel_rfl) (by kernel_rfl) (start_met os _)) ?_
  intro W base args ds gs before hval0 hW _ _ hL _
  have hval : ∀ (j : Nat) t v, Tryz.f4.params[j]? = some t → args[j]? = some v → Value.okWide Tryz.prog W .any base t v := hval0
  have hW' := hW
  obtain ⟨p, q, hA0, hV, rfl, hfz, hnd⟩ := hW
  have hA : DataW.TrodAll enc Tryz.prog W 0 (fun _ => true) true Tryz.f4.params.toList args.toList ds p := hA0
  rw [Tryz.params4] at hA hval
  obtain ⟨v0, vs0, d0, ds0, p0, q0, hargs, rfl, rfl, h0, r0q⟩ := trodAll_cons hA
  obtain ⟨v1, vs1, d1, ds1, p1, q1, rfl, rfl, rfl, h1, r1q⟩ := trodAll_cons r0q
  obtain ⟨rfl, rfl, rfl⟩ := trodAll_nil r1q
  obtain rfl : args = #[v0, v1] := by cases args; simp_all
  have k0 := h0
  have lt0 : ∀ x ∈ p0, x.block < W.heap.size := by obtain ⟨m, hm⟩ := k0; exact DataW.trod_lt m _ _ _ hm
  obtain ⟨A0, n0, c0, cs0, rfl, r0, l0⟩ := open_image (hval 0 24 v0 rfl rfl) h0
  have k1 := h1
  have lt1 : ∀ x ∈ p1, x.block < W.heap.size := by obtain ⟨m, hm⟩ := k1; exact DataW.trod_lt m _ _ _ hm
  obtain ⟨s1, A11, n11, c11, A12, n12, c12, A13, n13, c13, rfl, r1, l1⟩ := open_vm (hval 1 29 v1 rfl rfl) h1
  obtain ⟨g, t, cs, fuel, dg, pg, rfl, hgn, hgt, hgv, hgd, rfl⟩ := trodVars_one (show DataW.TrodVars enc Tryz.prog W (fun _ => true) [_] gs q from hV)
  rw [MakeChecks.laidMetH_plain _ _ _ (by kernel_rfl)] at hL
  have hk := kinds_of_laid hL
  have hpos : 0 < W.heap.size := World.block_lt_of_cell? W _ (hk 0 (by omega)).1
  clear hA0 hval0
  refine (walk W A0 n0 c0 cs0 r0 l0 s1 A11 n11 c11 A12 n12 c12 A13 n13 c13 r1 l1 hpos hk).mono fun e W' ⟨he, bel⟩ => ?_
  subst he
  exact ⟨_, rfl, _, _, _, [], _, _, hW', trodAll_mk1 (shut_bool Tryz.underlying4 _), (trodAll_cons_mk (Below.trod laidOut (by kernel_rfl) (of_decide_eq_true (by kernel_rfl)) k0 bel lt0) (trodAll_cons_mk (Below.trod laidOut (by kernel_rfl) (of_decide_eq_true (by kernel_rfl)) k1 bel lt1) trodAll_mk0)), Below.trodVars laidOut bel (by kernel_rfl) hV, bel.frame _, fun h => by cases h⟩

theorem over : Rows.FnExactSearchUpSaid :=
  OpenClaim.holds_of_wide 4 Tryz.f4 rfl rfl rfl rfl rfl rfl rfl ⟨rfl, rfl, rfl, rfl, rfl⟩ rfl rfl rfl rfl rfl (by kernel_rfl) Tryz.func4 (by kernel_rfl)
    (of_decide_eq_true (by kernel_rfl)) (by unfold Func.isWrapper; first | (rw [if_pos (by decide +kernel)]; kernel_rfl) | (rw [if_neg (by decide +kernel)]; exact ⟨rfl, rfl⟩))
    (fun os started H enc _ => lifted os started H enc)

/-- The given statement: the row, its listed variables tied to the program's text. -/
theorem proved : Rows.FnExactSearchUpCardSaid :=
  Claim7.holds_tied_plain_at .later [] [.data] true (true, "20dbe0b4356bd1c8e331a898fa459968050318e2f08726ab21ebe93a69f049cd") false
    over (fun _ h => by cases h) (by kernel_rfl) (fun _ h => by cases h) fnExactSearchUp_row_tie rfl ⟨rfl, rfl⟩ (by kernel_rfl) rfl
    (fun f fn hf hfn => by
      obtain rfl : f = 4 := Option.some.inj ((show Tryz.prog.funcNamed "loop.example/g00745/laws.FnExactSearchUp" = some 4 by kernel_rfl).symm.trans hf) |>.symm
      obtain rfl : fn = Tryz.f4 := (Option.some.inj (Tryz.func4.symm.trans hfn)).symm
      exact ⟨by kernel_rfl, fun j t ht => by
        rw [Tryz.params4] at ht
        have hm : t ∈ [24, 29] := by
          have := Array.mem_of_getElem? ht
          simpa using this
        simp only [List.mem_cons, List.mem_nil_iff, or_false] at hm
        rcases hm with rfl | rfl
        · exact (show Tryz.prog.wantsStandIn 24 = false by kernel_rfl)
        · exact (show Tryz.prog.wantsStandIn 29 = false by kernel_rfl)⟩)
    (by kernel_rfl)
#print axioms proved
end Go.Proofs.YtpbkkjiikhjanaaGreatDoor.fnExactSearchUp

/-
  Proved: at every image the program's NewVm gives the same machine and truth as the reference NewVm, leaves its argument as it was, and its answer has memory of its own; the law FnExactNewVm returns true at every argument, where the listed variable is as the program's text lays it.
  Conditions: none beyond those that the given card itself prints.
-/
import Derived.Test.YtcpjddkhclaafaaDoorRows
import Derived.Test.YtcpjddkhclaafaaDoorTie
import Derived.Test.YtcpjddkhclaafaaDoorCards
import Derived.Test.YtcpjddkhclaafaaDoorLaid
import Derived.Test.YtcpjddkhclaafaaDoorNwIGK
import Derived.Test.YtcpjddkhclaafaaDoorCoInk
import Derived.Test.YtcpjddkhclaafaaDoorCoEq
import Derived.Test.YtcpjddkhclaafaaDoorArgsI
import Derived.Test.YtcpjddkhclaafaaDoorArgs
import Derived.Deep.RegionLaw
import Derived.WalkKit
import Derived.ProofKit
import Derived.OpenShut
import Derived.OpenVars
import Derived.ShutString
import Derived.ChangeOld
import Derived.Below
import Derived.LaidMore
import Derived.SevenTiedAt
namespace Go.Proofs.YtcpjddkhclaafaaDoor.fnExactNewVm
open Go.ChangeShapes Go.WideShapes Go.ChangeAt Go.RowKit Exs
open Go.ChangeMaps (open_string shut_string)
set_option linter.unusedVariables false

theorem own : ownKnob Tryd.prog.godebug = none := by kernel_rfl
theorem laidOut : laidOutB Tryd.prog = true := by kernel_rfl

/-! The walk: both functions by their contracts, whose answers are the same; the marks by theirs. -/
set_option maxHeartbeats 40000000 in
set_option maxRecDepth 100000 in
theorem walk (w : World) (A0 : Option Addr) (n0 c0 : Nat) (cs0 : List Cd) (r0 : ReadsC w w.heap.size A0 n0 cs0) (l0 : LongI cs0) (hpos : 0 < w.heap.size) (hk : Kinds w) :
    Calls Tryd.prog 3 #[.agg #[.slice A0 n0 c0]] w fun e w' => e = .returned (.bool true) ∧ Below w.heap.size w w' := by

  have hb0 : Below w.heap.size w (w.alloc (.cells #[.slice A0 n0 c0] 24)) := (Below.refl _ _).alloc (Nat.le_refl _) _
  have hk0 := Keep.new w #[.slice A0 n0 c0] 24
  have HK := put hk
  have HPOS := put hpos
  clear hk
  by_cases hbig : (((n0 + manyCs cs0 : Nat)) : Int) ≤ 1048576
  · have hsz := szA_fit hbig
    have hsm : SmallI cs0 := smallI_of (by have := r0.1; omega)
    have hsz0 : (0 : Int) ≤ 1048576 - ((n0 + manyCs cs0 : Nat) : Int) := by omega
    have HINK := put (show (1 : Int) + ((inkCs cs0 : Nat) : Int) ≤ 1000000000 by have := inkCs_le cs0; have := r0.1; omega)
    have hkk0 : ¬ ((1 : Int) + ((inkCs cs0 : Nat) : Int)) < 0 := by omega
    have hlen := r0.1
    obtain ⟨T, hT⟩ : ∃ T : Nat, n0 + manyCs cs0 = T := ⟨_, rfl⟩
    rw [hT] at hsz hsz0
    have HSM := put hsm
    clear hsm hbig
    by_cases hg : giB cs0 = true
    · obtain ⟨s, nv, hs, hv, h6, h4⟩ := first_of hg
      have hn : 0 < n0 := by have := (List.getElem?_eq_some_iff.1 hs).1; omega
      obtain ⟨nl, hl⟩ : ∃ nl, s.sites.length = nl := ⟨_, rfl⟩
      rw [hl] at h4
      have HG := put hg
      have HS := put hs
      have HV := put hv
      have HL := put hl
      have hp1 : ¬ (4 + (nv : Int) + (nl : Int) + 1 + 1 + 1 + 1 + 1) < 0 := by omega
      clear hg hs hv hl hlen
      go_enter Tryd.func3, Tryd.ntmps3
      go_wp2_with fail
      generalize hW : w.alloc (.cells #[.slice A0 n0 c0] 24) = W0 at hb0 hk0 ⊢
      clear hW
      refine (szImage_any A0 n0 c0 cs0 1048576 W0 (r0.now hb0) l0 (by decide) (by decide)).mono ?_
      rintro e w1 ⟨rfl, hb1⟩
      have b1 : Below w.heap.size w w1 := hb0.trans (hb1.mono hb0.size)
      have k1 := hk0.below hb1
      rw [hT, hsz]
      clear hb0 hk0 hb1 hT hsz
      have y := k1.cell 0
      simp at y
      go_wp2_with fail
      refine (toImage_any A0 n0 c0 cs0 _ (r0.now b1) HSM.out).mono ?_
      rintro e w2 ⟨B2, rfl, m2, hb2⟩
      have b2 : Below w.heap.size w w2 := b1.trans (hb2.mono b1.size)
      have k2 := k1.below hb2
      clear y k1 hb2 b1
      go_wp2_with fail
      refine (specNewVm_g B2 n0 n0 cs0 s nv nl w2 m2.reads HSM.out HG.out hn HS.out HV.out h6 HL.out h4).mono ?_
      rintro e w3 ⟨gw, gwv, gwl, rfl, ow3, hb3⟩
      have b3 : Below w.heap.size w w3 := b2.trans (hb3.mono b2.size)
      have k3 := (k2.below hb3).alloc (.cells #[.slice (some ⟨gw, 0, none⟩) 1 1, .slice none 0 0, .int .i64 0, .int .i64 0, .int .i64 0, .int .i64 1, .slice none 0 0] 30)
      have p3 := Keep.new w3 #[.slice (some ⟨gw, 0, none⟩) 1 1, .slice none 0 0, .int .i64 0, .int .i64 0, .int .i64 0, .int .i64 1, .slice none 0 0] 30
      have b3a := b3.alloc b3.size (.cells #[.slice (some ⟨gw, 0, none⟩) 1 1, .slice none 0 0, .int .i64 0, .int .i64 0, .int .i64 0, .int .i64 1, .slice none 0 0] 30)
      have ow3a := ow3.below ((Below.refl _ w3).alloc (Nat.le_refl _) (.cells #[.slice (some ⟨gw, 0, none⟩) 1 1, .slice none 0 0, .int .i64 0, .int .i64 0, .int .i64 0, .int .i64 1, .slice none 0 0] 30))
      have y : (w3.alloc (.cells #[.slice (some ⟨gw, 0, none⟩) 1 1, .slice none 0 0, .int .i64 0, .int .i64 0, .int .i64 0, .int .i64 1, .slice none 0 0] 30)).cell? ⟨w.heap.size, 0, none⟩ = some (.slice A0 n0 c0) := k3.cell 0
      clear m2 hb3 b2 k2
      go_wp2_with fail
      clear y
      generalize hW : w3.alloc (.cells #[.slice (some ⟨gw, 0, none⟩) 1 1, .slice none 0 0, .int .i64 0, .int .i64 0, .int .i64 0, .int .i64 1, .slice none 0 0] 30) = w3a at k3 p3 b3a ow3a ⊢
      clear hW ow3 b3
      obtain ⟨g4, hg4⟩ : ∃ g, w3.heap.size = g := ⟨_, rfl⟩
      rw [hg4] at p3 ⊢
      clear hg4
      refine (toImage_any A0 n0 c0 cs0 _ (r0.now b3a) HSM.out).mono ?_
      rintro e w4 ⟨B4, rfl, m4, c4⟩
      have M4 := put m4
      have hL4 := c4.size
      have hp4 := p3.lt
      have c4a : Below w3a.heap.size w3a (w4.alloc (.cells #[.slice B4 n0 n0] 35)) := c4.alloc c4.size _
      have b44 : Below w4.heap.size w4 (w4.alloc (.cells #[.slice B4 n0 n0] 35)) := (Below.refl _ _).alloc (Nat.le_refl _) _
      have x4 := Keep.new w4 #[.slice B4 n0 n0] 35
      have m4a := m4.same (SameFrom.of_below b44)
      have hs4 : w4.heap.size < (w4.alloc (.cells #[.slice B4 n0 n0] 35)).heap.size := x4.lt
      clear m4 c4
      go_wp2_with fail
      generalize hW : w4.alloc (.cells #[.slice B4 n0 n0] 35) = w4a at c4a b44 x4 m4a hs4 ⊢
      clear hW
      have HBL := b3a.trans (c4a.mono b3a.size)
      refine (implNewVm_g B4 n0 n0 cs0 s nv nl w4a m4a.reads (HK.out.below HBL HPOS.out) (by have := HBL.size; have := HPOS.out; omega) HG.out hn HS.out HV.out h6 HL.out h4).mono ?_
      clear HBL
      rintro e w5 ⟨gg, ggv, ggl, rfl, og5, hb5⟩
      have c5 : Below w3a.heap.size w3a (w5.alloc (.cells #[.slice (some ⟨gg, 0, none⟩) 1 1, .slice none 0 0, .int .i64 0, .int .i64 0, .int .i64 0, .int .i64 1, .slice none 0 0] 30)) := (c4a.trans (hb5.mono c4a.size)).alloc (Nat.le_trans c4a.size hb5.size) _
      have b45 : Below w4.heap.size w4 (w5.alloc (.cells #[.slice (some ⟨gg, 0, none⟩) 1 1, .slice none 0 0, .int .i64 0, .int .i64 0, .int .i64 0, .int .i64 1, .slice none 0 0] 30)) := (b44.trans (hb5.mono b44.size)).alloc (Nat.le_trans b44.size hb5.size) _
      have p5 := Keep.new w5 #[.slice (some ⟨gg, 0, none⟩) 1 1, .slice none 0 0, .int .i64 0, .int .i64 0, .int .i64 0, .int .i64 1, .slice none 0 0] 30
      have x5 := (x4.below hb5).alloc (.cells #[.slice (some ⟨gg, 0, none⟩) 1 1, .slice none 0 0, .int .i64 0, .int .i64 0, .int .i64 0, .int .i64 1, .slice none 0 0] 30)
      have m5 := (m4a.same (SameFrom.of_below hb5)).same (SameFrom.of_below ((Below.refl _ w5).alloc (Nat.le_refl _) (.cells #[.slice (some ⟨gg, 0, none⟩) 1 1, .slice none 0 0, .int .i64 0, .int .i64 0, .int .i64 0, .int .i64 1, .slice none 0 0] 30)))
      have og5a := og5.below ((Below.refl _ w5).alloc (Nat.le_refl _) (.cells #[.slice (some ⟨gg, 0, none⟩) 1 1, .slice none 0 0, .int .i64 0, .int .i64 0, .int .i64 0, .int .i64 1, .slice none 0 0] 30))
      have lf := og5.fr.lt
      have lv := og5.vr.lt
      have ll := og5.lr.lt
      have hs5 : w4a.heap.size ≤ w5.heap.size := hb5.size
      have k5 := k3.below c5
      have o5 := p3.below c5
      have ow5 := ow3a.below c5
      have y0 : (w5.alloc (.cells #[.slice (some ⟨gg, 0, none⟩) 1 1, .slice none 0 0, .int .i64 0, .int .i64 0, .int .i64 0, .int .i64 1, .slice none 0 0] 30)).cell? ⟨g4, 0, none⟩ = some (.slice (some ⟨gw, 0, none⟩) 1 1) := o5.cell 0
      have y1 : (w5.alloc (.cells #[.slice (some ⟨gg, 0, none⟩) 1 1, .slice none 0 0, .int .i64 0, .int .i64 0, .int .i64 0, .int .i64 1, .slice none 0 0] 30)).cell? ⟨g4, 1, none⟩ = some (.slice none 0 0) := o5.cell 1
      have y2 : (w5.alloc (.cells #[.slice (some ⟨gg, 0, none⟩) 1 1, .slice none 0 0, .int .i64 0, .int .i64 0, .int .i64 0, .int .i64 1, .slice none 0 0] 30)).cell? ⟨g4, 2, none⟩ = some (.int .i64 0) := o5.cell 2
      have y3 : (w5.alloc (.cells #[.slice (some ⟨gg, 0, none⟩) 1 1, .slice none 0 0, .int .i64 0, .int .i64 0, .int .i64 0, .int .i64 1, .slice none 0 0] 30)).cell? ⟨g4, 3, none⟩ = some (.int .i64 0) := o5.cell 3
      have y4 : (w5.alloc (.cells #[.slice (some ⟨gg, 0, none⟩) 1 1, .slice none 0 0, .int .i64 0, .int .i64 0, .int .i64 0, .int .i64 1, .slice none 0 0] 30)).cell? ⟨g4, 4, none⟩ = some (.int .i64 0) := o5.cell 4
      have y5 : (w5.alloc (.cells #[.slice (some ⟨gg, 0, none⟩) 1 1, .slice none 0 0, .int .i64 0, .int .i64 0, .int .i64 0, .int .i64 1, .slice none 0 0] 30)).cell? ⟨g4, 5, none⟩ = some (.int .i64 1) := o5.cell 5
      have y6 : (w5.alloc (.cells #[.slice (some ⟨gg, 0, none⟩) 1 1, .slice none 0 0, .int .i64 0, .int .i64 0, .int .i64 0, .int .i64 1, .slice none 0 0] 30)).cell? ⟨g4, 6, none⟩ = some (.slice none 0 0) := o5.cell 6
      clear hb5 b44 x4 m4a c4a og5
      go_wp2_with fail
      clear y0 y1 y2 y3 y4 y5 y6
      generalize hW : w5.alloc (.cells #[.slice (some ⟨gg, 0, none⟩) 1 1, .slice none 0 0, .int .i64 0, .int .i64 0, .int .i64 0, .int .i64 1, .slice none 0 0] 30) = w5a at c5 b45 p5 x5 m5 og5a ow5 k5 o5 ⊢
      clear hW
      obtain ⟨g7, hg7⟩ : ∃ g, w5.heap.size = g := ⟨_, rfl⟩
      rw [hg7] at p5 hs5 lf lv ll ⊢
      clear hg7
      refine (eqVm_one og5a ow5 (by omega) (by omega)).mono ?_
      rintro e w6 ⟨rfl, hb6⟩
      have c6 := c5.trans (hb6.mono c5.size)
      have b46 := b45.trans (hb6.mono b45.size)
      have p6 := p5.below hb6
      have x6 := x5.below hb6
      have m6 := m5.same (SameFrom.of_below hb6)
      have og6 := og5a.below hb6
      have k6 := k5.below hb6
      have o6 := o5.below hb6
      have b6 : Below w.heap.size w w6 := b3a.trans (c6.mono b3a.size)
      clear c5 b45 p5 x5 m5 og5a ow5 k5 o5 hb6
      have y := k6.cell 0
      have z := x6.cell 0
      simp at y z
      go_wp2
      go_region_law (first
        | (go_simp; go_at_call 6; refine (toImage_any A0 n0 c0 cs0 w6.drew (r0.now b6.drew) HSM.out).mono ?_; rintro e w7 ⟨B7, rfl, m7, hb7⟩; have x7 := Keep.below (w := w6.drew) x6 hb7; have z7 := x7.cell 0; simp at z7)
        | (go_simp; go_at_call 9; refine (eqImage_same B4 B7 n0 n0 n0 cs0 w7 (MCds.reads (m6.same (SameFrom.of_below ((Below.refl w6.heap.size w6).drew.trans hb7)))) m7.reads HSM.out).mono ?_; rintro e w8 ⟨rfl, hb8⟩))
      all_goals (
        have b68 : Below w6.heap.size w6 w8 := (Below.refl _ w6).drew.trans (hb7.trans (hb8.mono hb7.size))
        have c8 := c6.trans (b68.mono c6.size)
        have b48 := b46.trans (b68.mono b46.size)
        have p8 := p6.below b68
        have xk8 := x6.below b68
        have og8 := og6.below b68
        clear c6 b46 p6 x6 m6 og6 k6 o6 b6 m7 hb7 hb8 x7 b68 y z z7
        have z := xk8.cell 0
        simp at z
        go_wp2_with fail
        clear z
        refine (markImage_ink B4 n0 n0 cs0 1 w3a.heap.size w4 w8 M4.out hL4 b48 HSM.out (by omega) HINK.out).mono ?_
        rintro e w9 ⟨rfl, hi9⟩
        have c9 := c8.trans hi9.below
        have og9 := og8.kept (fun k h1 h2 => hi9.above k (by omega) h2)
        have ow9 := ow3a.below c9
        have o9 := p3.below c9
        have p9 : Keep w9 g7 #[.slice (some ⟨gg, 0, none⟩) 1 1, .slice none 0 0, .int .i64 0, .int .i64 0, .int .i64 0, .int .i64 1, .slice none 0 0] 30 := (hi9.above g7 (by omega) p8.lt).trans p8
        clear c8 b48 p8 xk8 hi9 og8
        have x0 := p9.cell 0
        have x1 := p9.cell 1
        have x2 := p9.cell 2
        have x3 := p9.cell 3
        have x4 := p9.cell 4
        have x5 := p9.cell 5
        have x6 := p9.cell 6
        simp at x0 x1 x2 x3 x4 x5 x6
        have y0 := o9.cell 0
        have y1 := o9.cell 1
        have y2 := o9.cell 2
        have y3 := o9.cell 3
        have y4 := o9.cell 4
        have y5 := o9.cell 5
        have y6 := o9.cell 6
        simp at y0 y1 y2 y3 y4 y5 y6
        go_wp2_with fail
        clear x0 x1 x2 x3 x4 x5 x6 y0 y1 y2 y3 y4 y5 y6
        refine (eqVm_one og9 ow9 (by omega) (by omega)).mono ?_
        rintro e w10 ⟨rfl, hb10⟩
        have c10 := c9.trans (hb10.mono c9.size)
        have og10 := og9.below hb10
        have p10 := p9.below hb10
        clear c9 o9 p9 hb10 og9 ow9
        have hB10 : w4a.heap.size ≤ w10.heap.size := by have := p10.lt; omega
        have x0 := p10.cell 0
        have x1 := p10.cell 1
        have x2 := p10.cell 2
        have x3 := p10.cell 3
        have x4 := p10.cell 4
        have x5 := p10.cell 5
        have x6 := p10.cell 6
        simp at x0 x1 x2 x3 x4 x5 x6
        go_wp2_with fail
        clear x0 x1 x2 x3 x4 x5 x6
        refine (markVm_one w10 og10 hB10 (by omega) (by omega)).mono ?_
        rintro e w11 ⟨rfl, og11, hb11, hO⟩
        have c11 := c10.trans (hb11.mono (by omega))
        have p11 : Keep w11 g7 #[.slice (some ⟨gg, 0, none⟩) 1 1, .slice none 0 0, .int .i64 0, .int .i64 0, .int .i64 0, .int .i64 1, .slice none 0 0] 30 := (hO g7 (by omega) (by omega) (by omega) p10.lt).trans p10
        clear hO hb11 c10 og10 p10 hB10
        have x0 := p11.cell 0
        have x1 := p11.cell 1
        have x2 := p11.cell 2
        have x3 := p11.cell 3
        have x4 := p11.cell 4
        have x5 := p11.cell 5
        have x6 := p11.cell 6
        simp at x0 x1 x2 x3 x4 x5 x6
        go_wp2_with fail
        clear x0 x1 x2 x3 x4 x5 x6
        refine (heldVm_one w11 og11 (by omega) (by omega)).mono ?_
        rintro e w12 ⟨rfl, hb12⟩
        have c12 := c11.trans (hb12.mono c11.size)
        have og12 := og11.below hb12
        have p12 := p11.below hb12
        have k12 := k3.below c12
        have b12 : Below w.heap.size w w12 := b3a.trans (c12.mono b3a.size)
        clear c11 p11 hb12 og11
        have y := k12.cell 0
        simp at y
        go_wp2_with fail
        clear y k12
        refine (toImage_any A0 n0 c0 cs0 w12 (r0.now b12) HSM.out).mono ?_
        rintro e w13 ⟨B13, rfl, m13, hb13⟩
        have c13 := c12.trans (hb13.mono c12.size)
        have og13 := og12.below hb13
        have p13 := p12.below hb13
        have HBL := b12.trans (hb13.mono b12.size)
        clear c12 p12 hb13 b12 og12
        go_wp2_with fail
        refine (implNewVm_g B13 n0 n0 cs0 s nv nl w13 m13.reads (HK.out.below HBL HPOS.out) (by have := HBL.size; have := HPOS.out; omega) HG.out hn HS.out HV.out h6 HL.out h4).mono ?_
        clear HBL
        rintro e w14 ⟨gh, ghv, ghl, rfl, oh14, hb14⟩
        have c14 : Below w3a.heap.size w3a (w14.alloc (.cells #[.slice (some ⟨gh, 0, none⟩) 1 1, .slice none 0 0, .int .i64 0, .int .i64 0, .int .i64 0, .int .i64 1, .slice none 0 0] 30)) := (c13.trans (hb14.mono c13.size)).alloc (Nat.le_trans c13.size hb14.size) _
        have og14 := (og13.below hb14).below ((Below.refl _ w14).alloc (Nat.le_refl _) (.cells #[.slice (some ⟨gh, 0, none⟩) 1 1, .slice none 0 0, .int .i64 0, .int .i64 0, .int .i64 0, .int .i64 1, .slice none 0 0] 30))
        have oh14a := oh14.below ((Below.refl _ w14).alloc (Nat.le_refl _) (.cells #[.slice (some ⟨gh, 0, none⟩) 1 1, .slice none 0 0, .int .i64 0, .int .i64 0, .int .i64 0, .int .i64 1, .slice none 0 0] 30))
        have p14 := (p13.below hb14).alloc (.cells #[.slice (some ⟨gh, 0, none⟩) 1 1, .slice none 0 0, .int .i64 0, .int .i64 0, .int .i64 0, .int .i64 1, .slice none 0 0] 30)
        have o14 := p3.below c14
        have ow14 := ow3a.below c14
        have y0 : (w14.alloc (.cells #[.slice (some ⟨gh, 0, none⟩) 1 1, .slice none 0 0, .int .i64 0, .int .i64 0, .int .i64 0, .int .i64 1, .slice none 0 0] 30)).cell? ⟨g4, 0, none⟩ = some (.slice (some ⟨gw, 0, none⟩) 1 1) := o14.cell 0
        have y1 : (w14.alloc (.cells #[.slice (some ⟨gh, 0, none⟩) 1 1, .slice none 0 0, .int .i64 0, .int .i64 0, .int .i64 0, .int .i64 1, .slice none 0 0] 30)).cell? ⟨g4, 1, none⟩ = some (.slice none 0 0) := o14.cell 1
        have y2 : (w14.alloc (.cells #[.slice (some ⟨gh, 0, none⟩) 1 1, .slice none 0 0, .int .i64 0, .int .i64 0, .int .i64 0, .int .i64 1, .slice none 0 0] 30)).cell? ⟨g4, 2, none⟩ = some (.int .i64 0) := o14.cell 2
        have y3 : (w14.alloc (.cells #[.slice (some ⟨gh, 0, none⟩) 1 1, .slice none 0 0, .int .i64 0, .int .i64 0, .int .i64 0, .int .i64 1, .slice none 0 0] 30)).cell? ⟨g4, 3, none⟩ = some (.int .i64 0) := o14.cell 3
        have y4 : (w14.alloc (.cells #[.slice (some ⟨gh, 0, none⟩) 1 1, .slice none 0 0, .int .i64 0, .int .i64 0, .int .i64 0, .int .i64 1, .slice none 0 0] 30)).cell? ⟨g4, 4, none⟩ = some (.int .i64 0) := o14.cell 4
        have y5 : (w14.alloc (.cells #[.slice (some ⟨gh, 0, none⟩) 1 1, .slice none 0 0, .int .i64 0, .int .i64 0, .int .i64 0, .int .i64 1, .slice none 0 0] 30)).cell? ⟨g4, 5, none⟩ = some (.int .i64 1) := o14.cell 5
        have y6 : (w14.alloc (.cells #[.slice (some ⟨gh, 0, none⟩) 1 1, .slice none 0 0, .int .i64 0, .int .i64 0, .int .i64 0, .int .i64 1, .slice none 0 0] 30)).cell? ⟨g4, 6, none⟩ = some (.slice none 0 0) := o14.cell 6
        clear c13 p13 hb14 m13 og13 oh14
        go_wp2_with fail
        clear y0 y1 y2 y3 y4 y5 y6
        generalize w14.alloc (.cells #[.slice (some ⟨gh, 0, none⟩) 1 1, .slice none 0 0, .int .i64 0, .int .i64 0, .int .i64 0, .int .i64 1, .slice none 0 0] 30) = w14a at c14 p14 o14 og14 oh14a ow14 ⊢
        refine (eqVm_one oh14a ow14 (by omega) (by omega)).mono ?_
        rintro e w15 ⟨rfl, hb15⟩
        have c15 := c14.trans (hb15.mono c14.size)
        have og15 := og14.below hb15
        have p15 := p14.below hb15
        clear c14 p14 hb15 o14 og14 oh14a ow14
        have x0 := p15.cell 0
        have x1 := p15.cell 1
        have x2 := p15.cell 2
        have x3 := p15.cell 3
        have x4 := p15.cell 4
        have x5 := p15.cell 5
        have x6 := p15.cell 6
        simp at x0 x1 x2 x3 x4 x5 x6
        go_wp2_with fail
        clear x0 x1 x2 x3 x4 x5 x6
        refine (heldVm_one w15 og15 (by omega) (by omega)).mono ?_
        rintro e w16 ⟨rfl, hb16⟩
        have c16 := c15.trans (hb16.mono c15.size)
        have b16 : Below w.heap.size w w16 := b3a.trans (c16.mono b3a.size)
        go_wp2
        go_ret
        exact ⟨rfl, b16⟩)
    · have HG := put (show giB cs0 = false by simpa using hg)
      clear hg hlen
      go_enter Tryd.func3, Tryd.ntmps3
      go_wp2_with fail
      generalize hW : w.alloc (.cells #[.slice A0 n0 c0] 24) = W0 at hb0 hk0 ⊢
      clear hW
      refine (szImage_any A0 n0 c0 cs0 1048576 W0 (r0.now hb0) l0 (by decide) (by decide)).mono ?_
      rintro e w1 ⟨rfl, hb1⟩
      have b1 : Below w.heap.size w w1 := hb0.trans (hb1.mono hb0.size)
      have k1 := hk0.below hb1
      rw [hT, hsz]
      clear hb0 hk0 hb1 hT hsz
      have y := k1.cell 0
      simp at y
      go_wp2_with fail
      refine (toImage_any A0 n0 c0 cs0 _ (r0.now b1) HSM.out).mono ?_
      rintro e w2 ⟨B2, rfl, m2, hb2⟩
      have b2 : Below w.heap.size w w2 := b1.trans (hb2.mono b1.size)
      have k2 := k1.below hb2
      clear y k1 hb2 b1
      go_wp2_with fail
      refine (specNewVm_bad B2 n0 n0 cs0 w2 m2.reads HSM.out HG.out).mono ?_
      rintro e w3 ⟨rfl, hb3⟩
      have b3 : Below w.heap.size w w3 := b2.trans (hb3.mono b2.size)
      have k3 := (k2.below hb3).alloc (.cells #[.slice none 0 0, .slice none 0 0, .int .i64 0, .int .i64 0, .int .i64 0, .int .i64 0, .slice none 0 0] 30)
      have p3 := Keep.new w3 #[.slice none 0 0, .slice none 0 0, .int .i64 0, .int .i64 0, .int .i64 0, .int .i64 0, .slice none 0 0] 30
      have b3a := b3.alloc b3.size (.cells #[.slice none 0 0, .slice none 0 0, .int .i64 0, .int .i64 0, .int .i64 0, .int .i64 0, .slice none 0 0] 30)
      have y : (w3.alloc (.cells #[.slice none 0 0, .slice none 0 0, .int .i64 0, .int .i64 0, .int .i64 0, .int .i64 0, .slice none 0 0] 30)).cell? ⟨w.heap.size, 0, none⟩ = some (.slice A0 n0 c0) := k3.cell 0
      clear m2 hb3 b2 k2
      go_wp2_with fail
      clear y
      generalize hW : w3.alloc (.cells #[.slice none 0 0, .slice none 0 0, .int .i64 0, .int .i64 0, .int .i64 0, .int .i64 0, .slice none 0 0] 30) = w3a at k3 p3 b3a ⊢
      clear hW b3
      obtain ⟨g4, hg4⟩ : ∃ g, w3.heap.size = g := ⟨_, rfl⟩
      rw [hg4] at p3 ⊢
      clear hg4
      refine (toImage_any A0 n0 c0 cs0 _ (r0.now b3a) HSM.out).mono ?_
      rintro e w4 ⟨B4, rfl, m4, c4⟩
      have M4 := put m4
      have hL4 := c4.size
      have hp4 := p3.lt
      have c4a : Below w3a.heap.size w3a (w4.alloc (.cells #[.slice B4 n0 n0] 35)) := c4.alloc c4.size _
      have b44 : Below w4.heap.size w4 (w4.alloc (.cells #[.slice B4 n0 n0] 35)) := (Below.refl _ _).alloc (Nat.le_refl _) _
      have x4 := Keep.new w4 #[.slice B4 n0 n0] 35
      have m4a := m4.same (SameFrom.of_below b44)
      have hs4 : w4.heap.size < (w4.alloc (.cells #[.slice B4 n0 n0] 35)).heap.size := x4.lt
      clear m4 c4
      go_wp2_with fail
      generalize hW : w4.alloc (.cells #[.slice B4 n0 n0] 35) = w4a at c4a b44 x4 m4a hs4 ⊢
      clear hW
      have HBL := b3a.trans (c4a.mono b3a.size)
      refine (implNewVm_bad B4 n0 n0 cs0 w4a m4a.reads (HK.out.below HBL HPOS.out) (by have := HBL.size; have := HPOS.out; omega) HG.out).mono ?_
      clear HBL
      rintro e w5 ⟨rfl, hb5⟩
      have c5 : Below w3a.heap.size w3a (w5.alloc (.cells #[.slice none 0 0, .slice none 0 0, .int .i64 0, .int .i64 0, .int .i64 0, .int .i64 0, .slice none 0 0] 30)) := (c4a.trans (hb5.mono c4a.size)).alloc (Nat.le_trans c4a.size hb5.size) _
      have b45 : Below w4.heap.size w4 (w5.alloc (.cells #[.slice none 0 0, .slice none 0 0, .int .i64 0, .int .i64 0, .int .i64 0, .int .i64 0, .slice none 0 0] 30)) := (b44.trans (hb5.mono b44.size)).alloc (Nat.le_trans b44.size hb5.size) _
      have p5 := Keep.new w5 #[.slice none 0 0, .slice none 0 0, .int .i64 0, .int .i64 0, .int .i64 0, .int .i64 0, .slice none 0 0] 30
      have x5 := (x4.below hb5).alloc (.cells #[.slice none 0 0, .slice none 0 0, .int .i64 0, .int .i64 0, .int .i64 0, .int .i64 0, .slice none 0 0] 30)
      have m5 := (m4a.same (SameFrom.of_below hb5)).same (SameFrom.of_below ((Below.refl _ w5).alloc (Nat.le_refl _) (.cells #[.slice none 0 0, .slice none 0 0, .int .i64 0, .int .i64 0, .int .i64 0, .int .i64 0, .slice none 0 0] 30)))
      have hs5 : w4a.heap.size ≤ w5.heap.size := hb5.size
      have k5 := k3.below c5
      have o5 := p3.below c5
      have y0 : (w5.alloc (.cells #[.slice none 0 0, .slice none 0 0, .int .i64 0, .int .i64 0, .int .i64 0, .int .i64 0, .slice none 0 0] 30)).cell? ⟨g4, 0, none⟩ = some (.slice none 0 0) := o5.cell 0
      have y1 : (w5.alloc (.cells #[.slice none 0 0, .slice none 0 0, .int .i64 0, .int .i64 0, .int .i64 0, .int .i64 0, .slice none 0 0] 30)).cell? ⟨g4, 1, none⟩ = some (.slice none 0 0) := o5.cell 1
      have y2 : (w5.alloc (.cells #[.slice none 0 0, .slice none 0 0, .int .i64 0, .int .i64 0, .int .i64 0, .int .i64 0, .slice none 0 0] 30)).cell? ⟨g4, 2, none⟩ = some (.int .i64 0) := o5.cell 2
      have y3 : (w5.alloc (.cells #[.slice none 0 0, .slice none 0 0, .int .i64 0, .int .i64 0, .int .i64 0, .int .i64 0, .slice none 0 0] 30)).cell? ⟨g4, 3, none⟩ = some (.int .i64 0) := o5.cell 3
      have y4 : (w5.alloc (.cells #[.slice none 0 0, .slice none 0 0, .int .i64 0, .int .i64 0, .int .i64 0, .int .i64 0, .slice none 0 0] 30)).cell? ⟨g4, 4, none⟩ = some (.int .i64 0) := o5.cell 4
      have y5 : (w5.alloc (.cells #[.slice none 0 0, .slice none 0 0, .int .i64 0, .int .i64 0, .int .i64 0, .int .i64 0, .slice none 0 0] 30)).cell? ⟨g4, 5, none⟩ = some (.int .i64 0) := o5.cell 5
      have y6 : (w5.alloc (.cells #[.slice none 0 0, .slice none 0 0, .int .i64 0, .int .i64 0, .int .i64 0, .int .i64 0, .slice none 0 0] 30)).cell? ⟨g4, 6, none⟩ = some (.slice none 0 0) := o5.cell 6
      clear hb5 b44 x4 m4a c4a
      go_wp2_with fail
      clear y0 y1 y2 y3 y4 y5 y6
      generalize hW : w5.alloc (.cells #[.slice none 0 0, .slice none 0 0, .int .i64 0, .int .i64 0, .int .i64 0, .int .i64 0, .slice none 0 0] 30) = w5a at c5 b45 p5 x5 m5 k5 o5 ⊢
      clear hW
      obtain ⟨g7, hg7⟩ : ∃ g, w5.heap.size = g := ⟨_, rfl⟩
      rw [hg7] at p5 hs5 ⊢
      clear hg7
      refine (eqVm_zero _).mono ?_
      rintro e w6 ⟨rfl, hb6⟩
      have c6 := c5.trans (hb6.mono c5.size)
      have b46 := b45.trans (hb6.mono b45.size)
      have p6 := p5.below hb6
      have x6 := x5.below hb6
      have m6 := m5.same (SameFrom.of_below hb6)
      have k6 := k5.below hb6
      have o6 := o5.below hb6
      have b6 : Below w.heap.size w w6 := b3a.trans (c6.mono b3a.size)
      clear c5 b45 p5 x5 m5 k5 o5 hb6
      have y := k6.cell 0
      have z := x6.cell 0
      simp at y z
      go_wp2
      go_region_law (first
        | (go_simp; go_at_call 6; refine (toImage_any A0 n0 c0 cs0 w6.drew (r0.now b6.drew) HSM.out).mono ?_; rintro e w7 ⟨B7, rfl, m7, hb7⟩; have x7 := Keep.below (w := w6.drew) x6 hb7; have z7 := x7.cell 0; simp at z7)
        | (go_simp; go_at_call 9; refine (eqImage_same B4 B7 n0 n0 n0 cs0 w7 (MCds.reads (m6.same (SameFrom.of_below ((Below.refl w6.heap.size w6).drew.trans hb7)))) m7.reads HSM.out).mono ?_; rintro e w8 ⟨rfl, hb8⟩))
      all_goals (
        have b68 : Below w6.heap.size w6 w8 := (Below.refl _ w6).drew.trans (hb7.trans (hb8.mono hb7.size))
        have c8 := c6.trans (b68.mono c6.size)
        have b48 := b46.trans (b68.mono b46.size)
        have p8 := p6.below b68
        have xk8 := x6.below b68
        clear c6 b46 p6 x6 m6 k6 o6 b6 m7 hb7 hb8 x7 b68 y z z7
        have z := xk8.cell 0
        simp at z
        go_wp2_with fail
        clear z
        refine (markImage_ink B4 n0 n0 cs0 1 w3a.heap.size w4 w8 M4.out hL4 b48 HSM.out (by omega) HINK.out).mono ?_
        rintro e w9 ⟨rfl, hi9⟩
        have c9 := c8.trans hi9.below
        have o9 := p3.below c9
        have p9 : Keep w9 g7 #[.slice none 0 0, .slice none 0 0, .int .i64 0, .int .i64 0, .int .i64 0, .int .i64 0, .slice none 0 0] 30 := (hi9.above g7 (by omega) p8.lt).trans p8
        clear c8 b48 p8 xk8 hi9
        have x0 := p9.cell 0
        have x1 := p9.cell 1
        have x2 := p9.cell 2
        have x3 := p9.cell 3
        have x4 := p9.cell 4
        have x5 := p9.cell 5
        have x6 := p9.cell 6
        simp at x0 x1 x2 x3 x4 x5 x6
        have y0 := o9.cell 0
        have y1 := o9.cell 1
        have y2 := o9.cell 2
        have y3 := o9.cell 3
        have y4 := o9.cell 4
        have y5 := o9.cell 5
        have y6 := o9.cell 6
        simp at y0 y1 y2 y3 y4 y5 y6
        go_wp2_with fail
        clear x0 x1 x2 x3 x4 x5 x6 y0 y1 y2 y3 y4 y5 y6
        refine (eqVm_zero _).mono ?_
        rintro e w10 ⟨rfl, hb10⟩
        have c10 := c9.trans (hb10.mono c9.size)
        have p10 := p9.below hb10
        clear c9 o9 p9 hb10
        have hB10 : w4a.heap.size ≤ w10.heap.size := by have := p10.lt; omega
        have x0 := p10.cell 0
        have x1 := p10.cell 1
        have x2 := p10.cell 2
        have x3 := p10.cell 3
        have x4 := p10.cell 4
        have x5 := p10.cell 5
        have x6 := p10.cell 6
        simp at x0 x1 x2 x3 x4 x5 x6
        go_wp2_with fail
        clear x0 x1 x2 x3 x4 x5 x6
        refine (markVm_zero w10).mono ?_
        rintro e w11 ⟨rfl, hb11⟩
        have c11 := c10.trans (hb11.mono c10.size)
        have p11 := p10.below hb11
        clear hb11 c10 p10 hB10
        have x0 := p11.cell 0
        have x1 := p11.cell 1
        have x2 := p11.cell 2
        have x3 := p11.cell 3
        have x4 := p11.cell 4
        have x5 := p11.cell 5
        have x6 := p11.cell 6
        simp at x0 x1 x2 x3 x4 x5 x6
        go_wp2_with fail
        clear x0 x1 x2 x3 x4 x5 x6
        refine (heldVm_zero w11).mono ?_
        rintro e w12 ⟨rfl, hb12⟩
        have c12 := c11.trans (hb12.mono c11.size)
        have p12 := p11.below hb12
        have k12 := k3.below c12
        have b12 : Below w.heap.size w w12 := b3a.trans (c12.mono b3a.size)
        clear c11 p11 hb12
        have y := k12.cell 0
        simp at y
        go_wp2_with fail
        clear y k12
        refine (toImage_any A0 n0 c0 cs0 w12 (r0.now b12) HSM.out).mono ?_
        rintro e w13 ⟨B13, rfl, m13, hb13⟩
        have c13 := c12.trans (hb13.mono c12.size)
        have p13 := p12.below hb13
        have HBL := b12.trans (hb13.mono b12.size)
        clear c12 p12 hb13 b12
        go_wp2_with fail
        refine (implNewVm_bad B13 n0 n0 cs0 w13 m13.reads (HK.out.below HBL HPOS.out) (by have := HBL.size; have := HPOS.out; omega) HG.out).mono ?_
        clear HBL
        rintro e w14 ⟨rfl, hb14⟩
        have c14 : Below w3a.heap.size w3a (w14.alloc (.cells #[.slice none 0 0, .slice none 0 0, .int .i64 0, .int .i64 0, .int .i64 0, .int .i64 0, .slice none 0 0] 30)) := (c13.trans (hb14.mono c13.size)).alloc (Nat.le_trans c13.size hb14.size) _
        have p14 := (p13.below hb14).alloc (.cells #[.slice none 0 0, .slice none 0 0, .int .i64 0, .int .i64 0, .int .i64 0, .int .i64 0, .slice none 0 0] 30)
        have o14 := p3.below c14
        have y0 : (w14.alloc (.cells #[.slice none 0 0, .slice none 0 0, .int .i64 0, .int .i64 0, .int .i64 0, .int .i64 0, .slice none 0 0] 30)).cell? ⟨g4, 0, none⟩ = some (.slice none 0 0) := o14.cell 0
        have y1 : (w14.alloc (.cells #[.slice none 0 0, .slice none 0 0, .int .i64 0, .int .i64 0, .int .i64 0, .int .i64 0, .slice none 0 0] 30)).cell? ⟨g4, 1, none⟩ = some (.slice none 0 0) := o14.cell 1
        have y2 : (w14.alloc (.cells #[.slice none 0 0, .slice none 0 0, .int .i64 0, .int .i64 0, .int .i64 0, .int .i64 0, .slice none 0 0] 30)).cell? ⟨g4, 2, none⟩ = some (.int .i64 0) := o14.cell 2
        have y3 : (w14.alloc (.cells #[.slice none 0 0, .slice none 0 0, .int .i64 0, .int .i64 0, .int .i64 0, .int .i64 0, .slice none 0 0] 30)).cell? ⟨g4, 3, none⟩ = some (.int .i64 0) := o14.cell 3
        have y4 : (w14.alloc (.cells #[.slice none 0 0, .slice none 0 0, .int .i64 0, .int .i64 0, .int .i64 0, .int .i64 0, .slice none 0 0] 30)).cell? ⟨g4, 4, none⟩ = some (.int .i64 0) := o14.cell 4
        have y5 : (w14.alloc (.cells #[.slice none 0 0, .slice none 0 0, .int .i64 0, .int .i64 0, .int .i64 0, .int .i64 0, .slice none 0 0] 30)).cell? ⟨g4, 5, none⟩ = some (.int .i64 0) := o14.cell 5
        have y6 : (w14.alloc (.cells #[.slice none 0 0, .slice none 0 0, .int .i64 0, .int .i64 0, .int .i64 0, .int .i64 0, .slice none 0 0] 30)).cell? ⟨g4, 6, none⟩ = some (.slice none 0 0) := o14.cell 6
        clear c13 p13 hb14 m13
        go_wp2_with fail
        clear y0 y1 y2 y3 y4 y5 y6
        generalize w14.alloc (.cells #[.slice none 0 0, .slice none 0 0, .int .i64 0, .int .i64 0, .int .i64 0, .int .i64 0, .slice none 0 0] 30) = w14a at c14 p14 o14 ⊢
        refine (eqVm_zero _).mono ?_
        rintro e w15 ⟨rfl, hb15⟩
        have c15 := c14.trans (hb15.mono c14.size)
        have p15 := p14.below hb15
        clear c14 p14 hb15 o14
        have x0 := p15.cell 0
        have x1 := p15.cell 1
        have x2 := p15.cell 2
        have x3 := p15.cell 3
        have x4 := p15.cell 4
        have x5 := p15.cell 5
        have x6 := p15.cell 6
        simp at x0 x1 x2 x3 x4 x5 x6
        go_wp2_with fail
        clear x0 x1 x2 x3 x4 x5 x6
        refine (heldVm_zero w15).mono ?_
        rintro e w16 ⟨rfl, hb16⟩
        have c16 := c15.trans (hb16.mono c15.size)
        have b16 : Below w.heap.size w w16 := b3a.trans (c16.mono b3a.size)
        go_wp2
        go_ret
        exact ⟨rfl, b16⟩)
  · have hsz := szA_no (Int.not_le.1 hbig)
    clear hbig
    obtain ⟨T, hT⟩ : ∃ T : Nat, n0 + manyCs cs0 = T := ⟨_, rfl⟩
    rw [hT] at hsz
    go_enter Tryd.func3, Tryd.ntmps3
    go_wp2_with fail
    generalize hW : w.alloc (.cells #[.slice A0 n0 c0] 24) = W0 at hb0 hk0 ⊢
    clear hW
    refine (szImage_any A0 n0 c0 cs0 1048576 W0 (r0.now hb0) l0 (by decide) (by decide)).mono ?_
    rintro e w1 ⟨rfl, hb1⟩
    rw [hT, hsz]
    clear hT hsz
    go_wp2
    go_ret
    exact ⟨rfl, hb0.trans (hb1.mono hb0.size)⟩

/-- The world that the program's own start leaves. -/
noncomputable def startWorld (os : Os) : World := World.doorLaid Tryd.prog 112 os
theorem start_met (os : Os) (args : Array Value) : laidMetH Tryd.prog Rows.fnExactNewVmRow.laid ((startWorld os).forCall (fun _ _ => 0) ⟨#[], args, []⟩).memory :=
  laidMetH_of_parts3 (fuel := 8) (laidMet_of_run' 8 (by kernel_rfl) (by kernel_rfl)) (by kernel_rfl) (by kernel_rfl)

/-! From the walk to the given row. -/
set_option maxRecDepth 100000 in
theorem lifted (os : Os) (started : os.Started) (H : Type) (enc : TypeId × Value → H) :
    ReturnsInHanded {} Tryd.checked os 3 .any (fun w args => (Rows.fnExactNewVmSpec.pre enc Tryd.prog Tryd.f3 [] false w args ∧ laidMetH Tryd.prog Rows.fnExactNewVmRow.laid w) ∧ sizedMet enc Tryd.prog Tryd.f3 (OpenSpec.ofChange Rows.fnExactNewVmSpec) false w args) (Rows.fnExactNewVmSpec.post enc Tryd.prog Tryd.f3 false true false false) := by
  refine returnsInHanded_of_change_and (C := Tryd.checked) (X := fun w _ => laidMetH Tryd.prog Rows.fnExactNewVmRow.laid w) (fun _ _ _ hh h => h.of_heap hh) own started (by kernel_rfl) Tryd.func3
    (ChangeSpec.witness_shaped (enc := enc) (C := Tryd.checked) (os := os) (X := fun w _ => laidMetH Tryd.prog Rows.fnExactNewVmRow.laid w) false (startWorld os) #[.agg #[.slice none 0 0]] 8 rfl (World.shaped_of_RefB (by kernel_rfl) (by kernel_rfl)) (by kernel_rfl) (by kernel_rfl) (by kernel_rfl) (start_met os _)) ?_
  intro W base args ds gs before hval0 hW _ _ hL _
  have hval : ∀ (j : Nat) t v, Tryd.f3.params[j]? = some t → args[j]? = some v → Value.okWide Tryd.prog W .any base t v := hval0
  have hW' := hW
  obtain ⟨p, q, hA0, hV, rfl, hfz, hnd⟩ := hW
  have hA : DataW.TrodAll enc Tryd.prog W 0 (fun _ => true) true Tryd.f3.params.toList args.toList ds p := hA0
  rw [Tryd.params3] at hA hval
  obtain ⟨v0, vs0, d0, ds0, p0, q0, hargs, rfl, rfl, h0, r0q⟩ := trodAll_cons hA
  obtain ⟨rfl, rfl, rfl⟩ := trodAll_nil r0q
  obtain rfl : args = #[v0] := by cases args; simp_all
  have k0 := h0
  have lt0 : ∀ x ∈ p0, x.block < W.heap.size := by obtain ⟨m, hm⟩ := k0; exact DataW.trod_lt m _ _ _ hm
  obtain ⟨A0, n0, c0, cs0, rfl, r0, l0⟩ := open_image (hval 0 24 v0 rfl rfl) h0
  obtain ⟨g, t, cs, fuel, dg, pg, rfl, hgn, hgt, hgv, hgd, rfl⟩ := trodVars_one (show DataW.TrodVars enc Tryd.prog W (fun _ => true) [_] gs q from hV)
  rw [MakeChecks.laidMetH_plain _ _ _ (by kernel_rfl)] at hL
  have hk := kinds_of_laid hL
  have hpos : 0 < W.heap.size := World.block_lt_of_cell? W _ (hk 0 (by omega)).1
  clear hA0 hval0
  refine (walk W A0 n0 c0 cs0 r0 l0 hpos hk).mono fun e W' ⟨he, bel⟩ => ?_
  subst he
  exact ⟨_, rfl, _, _, _, [], _, _, hW', trodAll_mk1 (shut_bool Tryd.underlying4 _), (trodAll_cons_mk (Below.trod laidOut (by kernel_rfl) (of_decide_eq_true (by kernel_rfl)) k0 bel lt0) trodAll_mk0), Below.trodVars laidOut bel (by kernel_rfl) hV, bel.frame _, fun h => by cases h⟩

theorem over : Rows.FnExactNewVmSaid :=
  OpenClaim.holds_of_wide 3 Tryd.f3 rfl rfl rfl rfl rfl rfl rfl ⟨rfl, rfl, rfl, rfl, rfl⟩ rfl rfl rfl rfl rfl (by kernel_rfl) Tryd.func3 (by kernel_rfl)
    (of_decide_eq_true (by kernel_rfl)) (by unfold Func.isWrapper; first | (rw [if_pos (by decide +kernel)]; kernel_rfl) | (rw [if_neg (by decide +kernel)]; exact ⟨rfl, rfl⟩))
    (fun os started H enc _ => lifted os started H enc)

/-- The given statement: the row, its listed variables tied to the program's text. -/
theorem proved : Rows.FnExactNewVmCardSaid :=
  Claim7.holds_tied_plain_at .later [] [.data] true (true, "d7a9b088410b0fe21168e14512b9e5e9b1d019cdb651ff7a05686b60a74f7cd2") false
    over (fun _ h => by cases h) (by kernel_rfl) (fun _ h => by cases h) fnExactNewVm_row_tie rfl ⟨rfl, rfl⟩ (by kernel_rfl) rfl
    (fun f fn hf hfn => by
      obtain rfl : f = 3 := Option.some.inj ((show Tryd.prog.funcNamed "loop.example/g00745/laws.FnExactNewVm" = some 3 by kernel_rfl).symm.trans hf) |>.symm
      obtain rfl : fn = Tryd.f3 := (Option.some.inj (Tryd.func3.symm.trans hfn)).symm
      exact ⟨by kernel_rfl, fun j t ht => by
        rw [Tryd.params3] at ht
        have hm : t ∈ [24] := by
          have := Array.mem_of_getElem? ht
          simpa using this
        simp only [List.mem_cons, List.mem_nil_iff, or_false] at hm
        rcases hm with rfl
        · exact (show Tryd.prog.wantsStandIn 24 = false by kernel_rfl)⟩)
    (by kernel_rfl)
#print axioms proved
end Go.Proofs.YtcpjddkhclaafaaDoor.fnExactNewVm

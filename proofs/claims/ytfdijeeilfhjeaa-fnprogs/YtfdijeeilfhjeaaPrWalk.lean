/-
  The walk of the law FnProgs.
-/
import Derived.Test.YtfdijeeilfhjeaaPkF
import Derived.Test.YtfdijeeilfhjeaaPrSame
import Derived.Deep.DeepCutAuto
import Derived.Deep.CutBlock
import Derived.Deep.RegionHeld3
namespace Go.Proofs.Ytfdijeeilfhjeaa
open Go.RowKit Exs

theorem run_at {m j : Nat} (hj : j < m) : (run 0 m)[j]? = some (j : Int) := by
  simp [run, hj]

set_option maxHeartbeats 8000000 in
set_option maxRecDepth 100000 in
theorem progs_walk (A A' : Option Addr) (n n' c c' : Nat) (bs bs' : List Int) (w : World) (hr : Reads w w.heap.size .u8 A n bs) (hr' : Reads w w.heap.size .u8 A' n' bs') (hbs : ∀ x ∈ bs, 0 ≤ x ∧ x ≤ 255) (hbs' : ∀ x ∈ bs', 0 ≤ x ∧ x ≤ 255) (hn : n + n' ≤ 1048576) :
    Calls Try.prog 7 #[.slice A n c, .slice A' n' c'] w fun e w' => e = .returned (.bool true) ∧ Below w.heap.size w w' := by
  have HB := put hbs
  have HB' := put hbs'
  have HR' := put hr'
  clear hbs hbs' hr'
  go_enter Try.func7, Try.ntmps7
  go_wp2_with fail
  refine (big_no A A' n n' c c' _ hn).mono ?_
  rintro e w0 ⟨rfl, rfl⟩
  go_wp2_with fail
  refine (drawCalls_any A n c bs _ hr HB.out (by omega)).mono ?_
  rintro e w1 ⟨Af, d, fs, fn, rfl, hR, hSM, hb1⟩
  have hbA : Below w1.heap.size w1 (w1.alloc (.cells #[.slice Af fs.length d] 44)) := (Below.refl _ w1).alloc (Nat.le_refl _) _
  have k2 := Keep.new w1 #[.slice Af fs.length d] 44
  have R2 := hR.now hbA
  have B2 := hb1.trans (hbA.mono hb1.size)
  have y2 := k2.cell 0
  simp only [List.getElem?_toArray, List.getElem?_cons_zero] at y2
  have HSM := put hSM
  clear hr hR hSM hb1 hbA HB
  go_upto_region 4 with fail
  generalize w1.heap.size = gb at k2 y2 ⊢
  generalize w1.alloc (.cells #[.slice Af fs.length d] 44) = w2 at k2 R2 B2 y2 ⊢
  go_wp2_with fail
  refine (callsOf_any Af fs.length d fs fn _ R2 HSM.out).mono ?_
  rintro e w3 ⟨v3, rfl, n3_3, hb3⟩
  have k3 := k2.below hb3
  have R3 := R2.now hb3
  have B3 := B2.trans (hb3.mono B2.size)
  have y3 := k3.cell 0
  simp only [List.getElem?_toArray, List.getElem?_cons_zero] at y3
  clear k2 R2 B2 y2 hb3
  go_wp2_with fail
  refine (specCallsOf_any Af fs.length d fs fn _ R3 HSM.out).mono ?_
  rintro e w4 ⟨v4, rfl, n4_4, hb4⟩
  have k4 := k3.below hb4
  have R4 := R3.now hb4
  have B4 := B3.trans (hb4.mono B3.size)
  have y4 := k4.cell 0
  simp only [List.getElem?_toArray, List.getElem?_cons_zero] at y4
  have n3_4 := n3_3.belowNew hb4
  clear k3 R3 B3 y3 hb4 n3_3
  go_wp2_with fail
  refine (mayRecover_any Af fs.length d fs fn _ R4 HSM.out).mono ?_
  rintro e w5 ⟨rfl, hb5⟩
  have k5 := k4.below hb5
  have R5 := R4.now hb5
  have B5 := B4.trans (hb5.mono B4.size)
  have y5 := k5.cell 0
  simp only [List.getElem?_toArray, List.getElem?_cons_zero] at y5
  have n3_5 := n3_4.belowNew hb5
  have n4_5 := n4_4.belowNew hb5
  clear k4 R4 B4 y4 hb5 n3_4 n4_4
  go_wp2_with fail
  refine (specMayRecover_any Af fs.length d fs fn _ R5 HSM.out).mono ?_
  rintro e w6 ⟨rfl, hb6⟩
  have k6 := k5.below hb6
  have R6 := R5.now hb6
  have B6 := B5.trans (hb6.mono B5.size)
  have y6 := k6.cell 0
  simp only [List.getElem?_toArray, List.getElem?_cons_zero] at y6
  have n3_6 := n3_5.belowNew hb6
  have n4_6 := n4_5.belowNew hb6
  clear k5 R5 B5 y5 hb6 n3_5 n4_5
  go_wp2_with fail
  refine (paramsOf_any Af fs.length d fs _ R6 HSM.out).mono ?_
  rintro e w7 ⟨v7, rfl, n7_7, hb7⟩
  have k7 := k6.below hb7
  have R7 := R6.now hb7
  have B7 := B6.trans (hb7.mono B6.size)
  have y7 := k7.cell 0
  simp only [List.getElem?_toArray, List.getElem?_cons_zero] at y7
  have n3_7 := n3_6.belowNew hb7
  have n4_7 := n4_6.belowNew hb7
  clear k6 R6 B6 y6 hb7 n3_6 n4_6
  go_wp2_with fail
  refine (specParamsOf_any Af fs.length d fs _ R7 HSM.out).mono ?_
  rintro e w8 ⟨v8, rfl, n8_8, hb8⟩
  have k8 := k7.below hb8
  have R8 := R7.now hb8
  have B8 := B7.trans (hb8.mono B7.size)
  have y8 := k8.cell 0
  simp only [List.getElem?_toArray, List.getElem?_cons_zero] at y8
  have n3_8 := n3_7.belowNew hb8
  have n4_8 := n4_7.belowNew hb8
  have n7_8 := n7_7.belowNew hb8
  clear k7 R7 B7 y7 hb8 n3_7 n4_7 n7_7
  have HT := put (call_told (fs := fs) (fn := fn))
  have HL1 := put (callAns_len fs fn)
  have HL2 := put (parAns_len fs)
  have HPB := put (show progS fs = progB fs from progS_eq fs)
  rw [par_told fs]
  generalize (callAns fs fn).1 = cl at n3_8 n4_8 HL1 ⊢
  generalize (callAns fs fn).2 = ok at HT ⊢
  generalize (recAns fs fn).1 = rm
  generalize (recAns fs fn).2 = rok
  generalize (parAns fs).1 = pl at n7_8 n8_8 HL2 ⊢
  go_upto_region 10 with fail
  have kD := k8.below ((Below.refl _ w8).drew)
  have RD := R8.now ((Below.refl _ w8).drew)
  have nD3 := n3_8.belowNew ((Below.refl _ w8).drew)
  have nD4 := n4_8.belowNew ((Below.refl _ w8).drew)
  have nD7 := n7_8.belowNew ((Below.refl _ w8).drew)
  have nD8 := n8_8.belowNew ((Below.refl _ w8).drew)
  go_cut [118] (fun s118 wx => s118 = .bool false ∧ Below w8.heap.size w8 wx)
  case first =>
    go_region_held3 (fun w' => w'.cell? ⟨gb, 0, none⟩ = some (.slice Af fs.length d)) (first | (with_reducible exact y8) | (with_reducible exact yA) | (with_reducible exact yB) | (with_reducible exact yC) | (with_reducible exact yE) | (with_reducible exact yF) | exact y8) (first
        | (go_at_call 38; refine (goodProg_any Af fs.length d fs wE RE HSM.out).mono ?_; rintro e wF ⟨rfl, hbF⟩; have kF := kE.below hbF; have RF := RE.now hbF; have yF := kF.cell 0; simp only [List.getElem?_toArray, List.getElem?_cons_zero] at yF)
        | (go_at_call 39; refine (specGoodProg_any Af fs.length d fs wC RC HSM.out).mono ?_; rintro e wE ⟨rfl, hbE⟩; rw [HPB.out]; have kE := kC.below hbE; have RE := RC.now hbE; have yE := kE.cell 0; simp only [List.getElem?_toArray, List.getElem?_cons_zero] at yE)
        | (go_at_call 38; refine (goodProg_any Af fs.length d fs wB RB HSM.out).mono ?_; rintro e wC ⟨rfl, hbC⟩; have kC := kB.below hbC; have RC := RB.now hbC; have yC := kC.cell 0; simp only [List.getElem?_toArray, List.getElem?_cons_zero] at yC)
        | (go_at_call 37; refine (sameNums_any v7 v8 pl _ _ wA nA7 nA8 HL2.out).mono ?_; rintro e wB ⟨rfl, hbB⟩; have kB := kA.below hbB; have RB := RA.now hbB; have yB := kB.cell 0; simp only [List.getElem?_toArray, List.getElem?_cons_zero] at yB)
        | (go_at_call 37; refine (sameNums_any v3 v4 cl _ _ w8.drew nD3 nD4 HL1.out).mono ?_; rintro e wA ⟨rfl, hbA⟩; have kA := kD.below hbA; have RA := RD.now hbA; have yA := kA.cell 0; simp only [List.getElem?_toArray, List.getElem?_cons_zero] at yA; have nA7 := nD7.belowNew hbA; have nA8 := nD8.belowNew hbA))
    all_goals (
      have HBF := put (show Below w8.heap.size w8 wF from ((((((Below.refl _ w8).drew).trans hbA).trans (hbB.mono hbA.size)).trans (hbC.mono (Nat.le_trans hbA.size hbB.size))).trans (hbE.mono (Nat.le_trans hbA.size (Nat.le_trans hbB.size hbC.size)))).trans (hbF.mono (Nat.le_trans hbA.size (Nat.le_trans hbB.size (Nat.le_trans hbC.size hbE.size)))))
      clear hbA hbB hbC hbE hbF kA kB kC kE kF RA RB RC RE RF yA yB yC yE yF kD RD nD3 nD4 nD7 nD8 nA7 nA8
      go_wp2
      go_meet
      exact ⟨rfl, HBF.out⟩)
  case rest =>
    obtain ⟨rfl, hb9⟩ := hcut
    have k9 := k8.below hb9
    have R9 := R8.now hb9
    have B9 := B8.trans (hb9.mono B8.size)
    have y9 := k9.cell 0
    simp only [List.getElem?_toArray, List.getElem?_cons_zero] at y9
    clear k8 R8 B8 y8 hb9 n3_8 n4_8 n7_8 n8_8 HL1 HL2 HPB kD RD nD3 nD4 nD7 nD8
    go_upto_if 119 with fail
    go_cut [] (fun wx => Below w.heap.size w wx)
    case first =>
      cases ok with
      | false =>
        go_wp2
        go_meet
        exact B9
      | true =>
        obtain ⟨k, f, rfl, hfk, ho, hs, hsl⟩ := HT.out rfl
        have hk : k < fs.length := (List.getElem?_eq_some_iff.1 hfk).1
        obtain ⟨b, off, f', A1, n1, c1, A2, n2, c2, rfl, hb, q0, q1, q2, q3, r1, r2, hx⟩ := R9.at_ hk
        obtain rfl : f = f' := by have := hx.out; rw [hfk] at this; injection this
        have hsmf := HSM.out.2 f (List.mem_of_getElem? hfk)
        have HF := put (show IsFc wc wc.heap.size f A1 n1 A2 n2 from ⟨r1, r2⟩)
        have HSF := put hsmf
        have HO := put ho
        have HS := put hs
        have HN2 := put r2.1
        have HSL := put hsl
        clear hx r1 r2 R9 ho hs HT hsmf hfk hsl
        go_wp2_with fail
        refine (orderOf_any f A1 n1 c1 A2 n2 c2 _ HF.out HSF.out).mono ?_
        rintro e w10 ⟨v10, rfl, n10, hb10⟩
        rw [HO.out] at n10 ⊢
        have p0 := (hb10.cell (p := ⟨b, off + k * 4, none⟩) hb).trans q0
        have p1 := (hb10.cell (p := ⟨b, off + k * 4 + 1, none⟩) hb).trans q1
        have p2 := (hb10.cell (p := ⟨b, off + k * 4 + 2, none⟩) hb).trans q2
        have p3 := (hb10.cell (p := ⟨b, off + k * 4 + 3, none⟩) hb).trans q3
        have y10 := (k9.below hb10).cell 0
        simp only [List.getElem?_toArray, List.getElem?_cons_zero] at y10
        have k10 := k9.below hb10
        have B10 := B9.trans (hb10.mono B9.size)
        have HF10 := put (HF.out.now hb10)
        have hbs10 : b < w10.heap.size := Nat.lt_of_lt_of_le hb hb10.size
        obtain ⟨Ao, co, rfl, ro⟩ := n10.reads
        have hlo : (run 0 f.stmts.length).length = n2 := by rw [run_length]; exact HN2.out
        simp only [hlo] at n10 ro ⊢
        clear q0 q1 q2 q3 y9 k9 B9 hb HF hb10
        go_wp2_with fail
        refine (sitesOf_any f A1 n1 c1 A2 n2 c2 _ HF10.out HSF.out).mono ?_
        rintro e w11 ⟨v11, rfl, n11, hb11⟩
        rw [HS.out] at n11 ⊢
        have o3 := (hb11.cell (p := ⟨b, off + k * 4 + 3, none⟩) hbs10).trans p3
        have y11 := (k10.below hb11).cell 0
        simp only [List.getElem?_toArray, List.getElem?_cons_zero] at y11
        have B11 := B10.trans (hb11.mono B10.size)
        have ro11 := ro.now hb11
        obtain ⟨As, cs, rfl, _⟩ := n11.reads
        have hms : ((sitesL f).length : Int) ≤ 4 := by have := HSL.out; omega
        generalize (sitesL f).length = ms at hms ⊢
        have HRUN := put (show ∀ (j : Nat) (x : Int), (run 0 f.stmts.length)[j]? = some x → x = j from fun j x hx => by
          have hj := (List.getElem?_eq_some_iff.1 hx).1
          rw [run_length] at hj
          rw [run_at hj] at hx
          injection hx with hx
          exact hx.symm)
        clear p0 p1 p2 p3 y10 k10 B10 hbs10 HF10 n10 n11 hb11 ro hlo
        go_wp2
        have hn2 : n2 ≤ 1048576 := by rw [← HN2.out]; exact HSF.out.2.1
        go_loopw [163] (fun i wr => ∃ j : Nat, j ≤ n2 ∧ i = .int .i64 j ∧ wr = w11) (fun i _ => n2 - (intOf i).toNat)
        case atStart => exact ⟨0, Nat.zero_le _, rfl, rfl⟩
        case round =>
          obtain ⟨j, hj, rfl, rfl⟩ := hrel
          by_cases hlt : j < n2
          · obtain ⟨b', off', x, rfl, hb', hc', hx'⟩ := ro11.at_ hlt
            obtain rfl := HRUN.out j x hx'.out
            go_wp2
            go_roundw
            case rel => exact ⟨j + 1, by omega, by go_num, by first | rfl | trivial⟩
            case measure => simp [intOf]; omega
          · go_wp2
            go_meet
            exact B11
    case rest =>
      have B12 := hcut
      clear HT k9 R9 B9 y9 HSM
      go_wp2_with fail
      refine (drawSites_any A' n' c' bs' _ ((HR'.out.below B12).more B12.size) HB'.out (by omega)).mono ?_
      rintro e w13 ⟨f, A1, n1, c1, A2, n2, c2, rfl, hf, hsm, hb13⟩
      have hbA : Below w13.heap.size w13 (w13.alloc (.cells #[.int .i64 f.params, .int .i64 f.vars, .slice A1 n1 c1, .slice A2 n2 c2] 58)) := (Below.refl _ w13).alloc (Nat.le_refl _) _
      have kk := Keep.new w13 #[.int .i64 f.params, .int .i64 f.vars, .slice A1 n1 c1, .slice A2 n2 c2] 58
      have ff := hf.now hbA
      have BB := (B12.trans (hb13.mono B12.size)).trans (hbA.mono (Nat.le_trans B12.size hb13.size))
      have HSF := put hsm
      clear hf hsm hb13 hbA B12 HB' HR'
      go_upto_region 24 with fail
      generalize w13.heap.size = gb2 at kk ⊢
      generalize w13.alloc (.cells #[.int .i64 f.params, .int .i64 f.vars, .slice A1 n1 c1, .slice A2 n2 c2] 58) = w14 at kk ff BB ⊢
      have y0 := kk.cell 0
      have y1 := kk.cell 1
      have y2 := kk.cell 2
      have y3 := kk.cell 3
      simp only [List.getElem?_toArray, List.getElem?_cons_zero, List.getElem?_cons_succ] at y0 y1 y2 y3
      go_wp2_with fail
      refine (sitesOf_any f A1 n1 c1 A2 n2 c2 _ ff HSF.out).mono ?_
      rintro e w15 ⟨v15, rfl, n15_15, hb15⟩
      have kk := kk.below hb15
      have ff := ff.now hb15
      have BB := BB.trans (hb15.mono BB.size)
      clear y0 y1 y2 y3 hb15
      have y0 := kk.cell 0
      have y1 := kk.cell 1
      have y2 := kk.cell 2
      have y3 := kk.cell 3
      simp only [List.getElem?_toArray, List.getElem?_cons_zero, List.getElem?_cons_succ] at y0 y1 y2 y3
      go_wp2_with fail
      refine (specSitesOf_any f A1 n1 c1 A2 n2 c2 _ ff HSF.out).mono ?_
      rintro e w16 ⟨v16, rfl, n16_16, hb16⟩
      have kk := kk.below hb16
      have ff := ff.now hb16
      have BB := BB.trans (hb16.mono BB.size)
      have n15_16 := n15_15.belowNew hb16
      clear y0 y1 y2 y3 hb16 n15_15
      have y0 := kk.cell 0
      have y1 := kk.cell 1
      have y2 := kk.cell 2
      have y3 := kk.cell 3
      simp only [List.getElem?_toArray, List.getElem?_cons_zero, List.getElem?_cons_succ] at y0 y1 y2 y3
      go_wp2_with fail
      refine (orderOf_any f A1 n1 c1 A2 n2 c2 _ ff HSF.out).mono ?_
      rintro e w17 ⟨v17, rfl, n17_17, hb17⟩
      have kk := kk.below hb17
      have ff := ff.now hb17
      have BB := BB.trans (hb17.mono BB.size)
      have n15_17 := n15_16.belowNew hb17
      have n16_17 := n16_16.belowNew hb17
      clear y0 y1 y2 y3 hb17 n15_16 n16_16
      have y0 := kk.cell 0
      have y1 := kk.cell 1
      have y2 := kk.cell 2
      have y3 := kk.cell 3
      simp only [List.getElem?_toArray, List.getElem?_cons_zero, List.getElem?_cons_succ] at y0 y1 y2 y3
      go_wp2_with fail
      refine (specOrderOf_any f A1 n1 c1 A2 n2 c2 _ ff HSF.out).mono ?_
      rintro e w18 ⟨v18, rfl, n18_18, hb18⟩
      have kk := kk.below hb18
      have ff := ff.now hb18
      have BB := BB.trans (hb18.mono BB.size)
      have n15_18 := n15_17.belowNew hb18
      have n16_18 := n16_17.belowNew hb18
      have n17_18 := n17_17.belowNew hb18
      clear y0 y1 y2 y3 hb18 n15_17 n16_17 n17_17
      have HL1 := put (siteAns_len f)
      have HL2 := put (ordAns_len f)
      generalize (siteAns f).1 = sl at n15_18 n16_18 HL1 ⊢
      generalize (siteAns f).2 = sb
      generalize (ordAns f).1 = ol at n17_18 n18_18 HL2 ⊢
      generalize (ordAns f).2 = ob
      go_wp2_with (first
        | (go_at_call 37; refine (sameNums_any v17 v18 ol _ _ w19 n17_19 n18_19 HL2.out).mono ?_; rintro e w20 ⟨rfl, hb20⟩)
        | (go_at_call 37; refine (sameNums_any v15 v16 sl _ _ w18 n15_18 n16_18 HL1.out).mono ?_; rintro e w19 ⟨rfl, hb19⟩; have n17_19 := n17_18.belowNew hb19; have n18_19 := n18_18.belowNew hb19))
      go_ret
      exact ⟨rfl, (BB.trans (hb19.mono BB.size)).trans (hb20.mono (Nat.le_trans BB.size hb19.size))⟩

end Go.Proofs.Ytfdijeeilfhjeaa

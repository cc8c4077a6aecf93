/-
  Whether a frame may stop a panic, as the reference has it: l9May.
-/
import Derived.Test.YtpbkkjiikhjanaaGreatDoorJGv
import Derived.Deep.QuietTactic
import Derived.BigQuiet
namespace Go.Proofs.YtpbkkjiikhjanaaGreatDoor
open Go.RowKit Go.Deep Exs Ht

set_option maxHeartbeats 8000000 in
set_option maxRecDepth 100000 in
theorem l9May_any (A : Option Addr) (n c : Nat) (cs : List Cd) (C : Option Addr) (m d : Nat) (fs : List Fr) (T2 : Option Addr) (m2 d2 : Nat) (T3 : Option Addr) (m3 d3 : Nat) (used code value made : Int) (k : Nat) (w : World) (hr : ReadsC w w.heap.size A n cs) (hf : ReadsFr w w.heap.size C m fs) (hs : ∀ f ∈ fs, SmallFr f) (hm : m ≤ 1048576) (hg : ∀ f ∈ fs, GdF cs f) (hk : k < m) (hsm : ∀ c ∈ cs, c.ins.length ≤ 1048576) :
    Calls Tryz.prog 29 #[.agg #[.slice A n c], .agg #[.slice C m d, .slice T2 m2 d2, .int .i64 used, .int .i64 code, .int .i64 value, .int .i64 made, .slice T3 m3 d3], .int .i64 (k : Int)] w fun e w' => e = .returned (.bool (mayK cs fs k)) ∧ Below w.heap.size w w' := by
  have hlen := hr.1
  have HSM := put hsm
  clear hsm
  have hfl := hf.1
  have b0 : Below w.heap.size w ((w.alloc (.cells #[.slice A n c] 36)).alloc (.cells #[.slice C m d, .slice T2 m2 d2, .int .i64 used, .int .i64 code, .int .i64 value, .int .i64 made, .slice T3 m3 d3] 41)) := ((Below.refl _ _).alloc (Nat.le_refl _) _).alloc (by simp) _
  obtain ⟨bC, oC, f, A1, n1, c1, A2, n2, c2, A3, n3, c3, rfl, hbC, g0, g1, g2, g3, g4, g5, g6, g7, g8, g9, g10, r0, hx⟩ := hf.at_ hk
  have hfm := mem_of_at hx.out
  have s3 : n3 ≤ 1048576 := by have := (hs f hfm).2.2; rw [r0.flags.1] at this; exact this
  obtain ⟨j, s, hfn, hsj, hfls, hsite⟩ := (hg f hfm).code
  have HANS := put (show mayK cs fs k = (ownB cs f || aboveB cs fs[k + 1]?) from mayK_at hx.out)
  rw [ownB_go hfn hsj] at HANS
  obtain ⟨ide, fn, pla, pile, vars, flags, result, mode, value', base, off⟩ := f
  dsimp only at hfn hfls hsite HANS
  subst hfn
  have RF := put r0.flags
  have HG := put hg
  have HRR := put hr
  have HFF := put hf
  have hjn : j < n := by rw [← hlen]; exact (List.getElem?_eq_some_iff.1 hsj).1
  have HS := put hsj
  have HST := put hsite
  clear hs hg hfm hfls r0 hx hsite hsj hf hr
  dsimp only at g0 g1 g2 g3 g4 g5 g6 g7 g8 g9 g10
  have z0 := (b0.cell (p := ⟨bC, oC + k * 11, none⟩) hbC).trans g0
  have z1 := (b0.cell (p := ⟨bC, oC + k * 11 + 1, none⟩) hbC).trans g1
  have z2 := (b0.cell (p := ⟨bC, oC + k * 11 + 2, none⟩) hbC).trans g2
  have z3 := (b0.cell (p := ⟨bC, oC + k * 11 + 3, none⟩) hbC).trans g3
  have z4 := (b0.cell (p := ⟨bC, oC + k * 11 + 4, none⟩) hbC).trans g4
  have z5 := (b0.cell (p := ⟨bC, oC + k * 11 + 5, none⟩) hbC).trans g5
  have z6 := (b0.cell (p := ⟨bC, oC + k * 11 + 6, none⟩) hbC).trans g6
  have z7 := (b0.cell (p := ⟨bC, oC + k * 11 + 7, none⟩) hbC).trans g7
  have z8 := (b0.cell (p := ⟨bC, oC + k * 11 + 8, none⟩) hbC).trans g8
  have z9 := (b0.cell (p := ⟨bC, oC + k * 11 + 9, none⟩) hbC).trans g9
  have z10 := (b0.cell (p := ⟨bC, oC + k * 11 + 10, none⟩) hbC).trans g10
  clear g0 g1 g2 g3 g4 g5 g6 g7 g8 g9 g10
  have b1 : Below w.heap.size w (((w.alloc (.cells #[.slice A n c] 36)).alloc (.cells #[.slice (some ⟨bC, oC, none⟩) m d, .slice T2 m2 d2, .int .i64 used, .int .i64 code, .int .i64 value, .int .i64 made, .slice T3 m3 d3] 41)).alloc (.cells #[.int .i64 ide, .int .i64 (j : Int), .int .i64 pla, .slice A1 n1 c1, .slice A2 n2 c2, .slice A3 n3 c3, .int .i64 result, .int .i64 mode, .int .i64 value', .int .i64 base, .bool off] 78)) := b0.alloc b0.size _
  have kx : Keep (((w.alloc (.cells #[.slice A n c] 36)).alloc (.cells #[.slice (some ⟨bC, oC, none⟩) m d, .slice T2 m2 d2, .int .i64 used, .int .i64 code, .int .i64 value, .int .i64 made, .slice T3 m3 d3] 41)).alloc (.cells #[.int .i64 ide, .int .i64 (j : Int), .int .i64 pla, .slice A1 n1 c1, .slice A2 n2 c2, .slice A3 n3 c3, .int .i64 result, .int .i64 mode, .int .i64 value', .int .i64 base, .bool off] 78)) w.heap.size #[.slice A n c] 36 := ((Keep.new _ _ _).alloc _).alloc _
  have kv : Keep (((w.alloc (.cells #[.slice A n c] 36)).alloc (.cells #[.slice (some ⟨bC, oC, none⟩) m d, .slice T2 m2 d2, .int .i64 used, .int .i64 code, .int .i64 value, .int .i64 made, .slice T3 m3 d3] 41)).alloc (.cells #[.int .i64 ide, .int .i64 (j : Int), .int .i64 pla, .slice A1 n1 c1, .slice A2 n2 c2, .slice A3 n3 c3, .int .i64 result, .int .i64 mode, .int .i64 value', .int .i64 base, .bool off] 78)) (w.heap.size + 1) #[.slice (some ⟨bC, oC, none⟩) m d, .slice T2 m2 d2, .int .i64 used, .int .i64 code, .int .i64 value, .int .i64 made, .slice T3 m3 d3] 41 := by
    have := (Keep.new (w.alloc (.cells #[.slice A n c] 36)) #[.slice (some ⟨bC, oC, none⟩) m d, .slice T2 m2 d2, .int .i64 used, .int .i64 code, .int .i64 value, .int .i64 made, .slice T3 m3 d3] 41).alloc (.cells #[.int .i64 ide, .int .i64 (j : Int), .int .i64 pla, .slice A1 n1 c1, .slice A2 n2 c2, .slice A3 n3 c3, .int .i64 result, .int .i64 mode, .int .i64 value', .int .i64 base, .bool off] 78)
    rw [World.size_alloc] at this
    exact this
  have kz : Keep (((w.alloc (.cells #[.slice A n c] 36)).alloc (.cells #[.slice (some ⟨bC, oC, none⟩) m d, .slice T2 m2 d2, .int .i64 used, .int .i64 code, .int .i64 value, .int .i64 made, .slice T3 m3 d3] 41)).alloc (.cells #[.int .i64 ide, .int .i64 (j : Int), .int .i64 pla, .slice A1 n1 c1, .slice A2 n2 c2, .slice A3 n3 c3, .int .i64 result, .int .i64 mode, .int .i64 value', .int .i64 base, .bool off] 78)) (w.heap.size + 1 + 1) #[.int .i64 ide, .int .i64 (j : Int), .int .i64 pla, .slice A1 n1 c1, .slice A2 n2 c2, .slice A3 n3 c3, .int .i64 result, .int .i64 mode, .int .i64 value', .int .i64 base, .bool off] 78 := by
    have := Keep.new ((w.alloc (.cells #[.slice A n c] 36)).alloc (.cells #[.slice (some ⟨bC, oC, none⟩) m d, .slice T2 m2 d2, .int .i64 used, .int .i64 code, .int .i64 value, .int .i64 made, .slice T3 m3 d3] 41)) #[.int .i64 ide, .int .i64 (j : Int), .int .i64 pla, .slice A1 n1 c1, .slice A2 n2 c2, .slice A3 n3 c3, .int .i64 result, .int .i64 mode, .int .i64 value', .int .i64 base, .bool off] 78
    rw [World.size_alloc, World.size_alloc] at this
    exact this
  have hkI : (k : Int) < (m : Int) := by omega
  have hk0 : (0 : Int) ≤ (k : Int) := by omega
  go_enter Tryz.func29, Tryz.ntmps29
  go_wp2_with fail
  generalize hW : (((w.alloc (.cells #[.slice A n c] 36)).alloc (.cells #[.slice (some ⟨bC, oC, none⟩) m d, .slice T2 m2 d2, .int .i64 used, .int .i64 code, .int .i64 value, .int .i64 made, .slice T3 m3 d3] 41)).alloc (.cells #[.int .i64 ide, .int .i64 (j : Int), .int .i64 pla, .slice A1 n1 c1, .slice A2 n2 c2, .slice A3 n3 c3, .int .i64 result, .int .i64 mode, .int .i64 value', .int .i64 base, .bool off] 78)) = W1 at b1 kx kv kz ⊢
  clear hW z0 z1 z2 z3 z4 z5 z6 z7 z8 z9 z10 b0
  have y0 := kz.cell 0
  have y1 := kz.cell 1
  have y2 := kz.cell 2
  have y3 := kz.cell 3
  have y4 := kz.cell 4
  have y5 := kz.cell 5
  have y6 := kz.cell 6
  have y7 := kz.cell 7
  have y8 := kz.cell 8
  have y9 := kz.cell 9
  have y10 := kz.cell 10
  simp at y0 y1 y2 y3 y4 y5 y6 y7 y8 y9 y10
  go_wp2_with fail
  refine (l9Waiting_any ide (j : Int) pla result mode value' base off A1 n1 c1 A2 n2 c2 A3 n3 c3 flags W1 (RF.out.now b1) s3).mono ?_
  rintro e w2 ⟨v, rfl, nu, hb2⟩
  obtain ⟨L, hL⟩ : ∃ L, (wtL flags).length = L := ⟨_, rfl⟩
  obtain ⟨A', c', hv, hR⟩ := nu.reads
  rw [hL] at hv hR
  subst hv
  have b2 := b1.trans (hb2.mono b1.size)
  have kx2 := kx.below hb2
  have kv2 := kv.below hb2
  have kz2 := kz.below hb2
  have HL := put hL
  have hLb : L ≤ 1048576 := by have h1 := wtF_length flags 0; have h2 := RF.out.1; have h3 : (wtF flags 0).length = L := hL; omega
  clear kx kv kz b1 y0 y1 y2 y3 y4 y5 y6 y7 y8 y9 y10 nu hb2 hL
  go_wp2
  go_loopw [18] (fun i wr => ∃ q : Nat, q ≤ L ∧ i = .int .i64 q ∧ Hid (∀ x ∈ (wtL flags).take q, siteRec cs s x = false) ∧ Below w2.heap.size w2 wr) (fun i _ => L - (intOf i).toNat)
  case atStart => exact ⟨0, Nat.zero_le _, rfl, put (fun t h => by simp at h), Below.refl _ _⟩
  case round =>
    obtain ⟨q, hq, rfl, hall, bw⟩ := hrel
    have b3 : Below w.heap.size w wr := b2.trans (bw.mono b2.size)
    have kx3 := kx2.below bw
    have kv3 := kv2.below bw
    have kz3 := kz2.below bw
    have x0 := kx3.cell 0
    have y0 := kv3.cell 0
    have z1 := kz3.cell 1
    simp at x0 y0 z1
    by_cases hlt : q < L
    · obtain ⟨b, o, x, rfl, hb', hc, hxt⟩ := (hR.below bw).at_ hlt
      obtain ⟨p, rfl, hpl, hpf⟩ := wtF_mem (mem_of_at hxt.out)
      obtain ⟨gn, s', hsp, hs'⟩ := HST.out p true hpf
      have HSR := put (siteRec_go hsp hs')
      obtain ⟨b5, o5, s5, A4, n4, c4, A5, n5, c5, A6, n6, c6, rfl, hb5, _, _, i2, _, _, r1, _, _, hx5⟩ := ((HRR.out.now b3)).at_ hjn
      obtain rfl : s = s5 := by have := hx5.out; rw [HS.out] at this; injection this
      have hpn : p < n4 := by rw [← r1.1]; exact (List.getElem?_eq_some_iff.1 hsp).1
      obtain ⟨b6, o6, y, hA4, hb6, i6, hy6⟩ := r1.at_ hpn
      subst hA4
      obtain rfl : y = (gn : Int) := by have := hy6.out; rw [hsp] at this; injection this with this; exact this.symm
      have CON := put (fun W (hW : Below wr.heap.size wr W) => l9Recovers_any (some ⟨b5, o5, none⟩) n c cs gn s' W ((HRR.out.now b3).now hW) hs' (HSM.out s' (mem_of_at hs')))
      have hjI : (j : Int) < (n : Int) := by omega
      have hj0 : (0 : Int) ≤ (j : Int) := by omega
      have hpI : (p : Int) < (n4 : Int) := by omega
      have hp0 : (0 : Int) ≤ (p : Int) := by omega
      obtain ⟨rb, hrb⟩ : ∃ rb, recB s' = rb := ⟨_, rfl⟩
      rw [hrb] at CON HSR
      clear hrb hs' hsp hpf hpl r1 hy6 hx5 hlen hfl
      cases rb
      · have hall2 := put (no_more hall.out hxt.out HSR.out)
        clear hxt HSR
        go_wp2
        go_region_law (first
          | (go_simp; go_at_call 54; refine (CON.out wr.drew (Below.refl wr.heap.size wr).drew).mono ?_; rintro e w5 ⟨rfl, hb5'⟩))
        all_goals (
          go_wp2
          go_roundw
          case rel => exact ⟨q + 1, by omega, by go_num, hall2, bw.trans (((Below.refl wr.heap.size wr).drew.trans hb5').mono bw.size)⟩
          case measure => simp [intOf]; omega)
      · have HY := put (show mayK cs fs k = true by rw [HANS.out, Bool.or_eq_true]; exact .inl (List.any_eq_true.2 ⟨_, mem_of_at hxt.out, HSR.out⟩))
        clear hxt HSR
        go_wp2
        go_region_law (first
          | (go_simp; go_at_call 54; refine (CON.out wr.drew (Below.refl wr.heap.size wr).drew).mono ?_; rintro e w5 ⟨rfl, hb5'⟩))
        all_goals (
          go_wp2
          go_ret
          exact ⟨ret_bool HY.out.symm, b3.trans (((Below.refl wr.heap.size wr).drew.trans hb5').mono b3.size)⟩)
    · have hfin : (wtL flags).take q = wtL flags := List.take_of_length_le (by have := HL.out; omega)
      have HAB := put (show mayK cs fs k = aboveB cs fs[k + 1]? by rw [HANS.out, any_no (by have := hall.out; rwa [hfin] at this), Bool.false_or])
      have hwk : IntKind.i64.wrap ((k : Int) + 1) = (k : Int) + 1 := IntWalk.i64_in _ ⟨by omega, by omega⟩
      clear hfin hR
      by_cases hk1 : k + 1 < m
      · obtain ⟨b7, o7, f7, B1, e1, d1, B2, e2, d2, B3, e3, d3', hC7, hb7, i0, i1, i2, i3, i4, i5, i6, i7, i8, i9, i10, r7, hx7⟩ := (HFF.out.now b3).at_ hk1
        injection hC7 with hC7
        injection hC7 with q1 q2
        subst q1 q2
        obtain ⟨j7, s7, hfn7, hs7, _, _⟩ := (HG.out f7 (mem_of_at hx7.out)).code
        have HAN := put (show mayK cs fs k = (f7.off && recB s7) by rw [HAB.out, hx7.out, aboveB_go hfn7 hs7])
        have CON := put (fun W (hW : Below wr.heap.size wr W) => l9Recovers_any A n c cs j7 s7 W ((HRR.out.now b3).now hW) hs7 (HSM.out s7 (mem_of_at hs7)))
        rw [hfn7] at i1
        have hk1I : (k : Int) + 1 < (m : Int) := by omega
        have hk10 : (0 : Int) ≤ (k : Int) + 1 := by omega
        have hd1 : decide ((k : Int) + 1 < (m : Int)) = true := decide_eq_true hk1I
        have hkt : ((k : Int) + 1).toNat = k + 1 := by omega
        clear i0 i2 i3 i4 i5 i6 i7 i8 i9 r7 hx7 hs7 hfn7 HG HAB HST HS
        cases ho : f7.off
        · rw [ho] at i10 HAN
          rw [Bool.false_and] at HAN
          clear ho
          go_wp2_with fail
          go_quiet (fail)
          all_goals (
            go_wp2
            go_ret
            exact ⟨ret_bool HAN.out.symm, by first | exact b3 | exact b3.drew | exact below_drewN b3 _⟩)
        · rw [ho] at i10 HAN
          rw [Bool.true_and] at HAN
          obtain ⟨ans, hans⟩ : ∃ ans, recB s7 = ans := ⟨_, rfl⟩
          rw [hans] at CON HAN
          clear ho hans
          have ux := cell_regrown x0
          have uv := cell_regrown y0
          have ui10 := cell_regrown i10
          have ui1 := cell_regrown i1
          clear x0 y0 z1 i10 i1
          go_wp2_with fail
          refine wp_region_quiet_below (by kernel_rfl) (by kernel_rfl) ?_
          repeat (first | go_big_quiet_step ((go_at_call 54; exact Calls.regrown_of (CON.out _ (below_regrown wr _ _)))) | quiet_step (fail))
          refine wpQuiet_nil ?_
          intro _ hw'
          obtain ⟨⟨dq, osq⟩, hw''⟩ := hw'
          subst hw''
          go_wp2
          go_ret
          exact ⟨ret_bool HAN.out.symm, b3.trans ((below_regrown wr dq osq).mono b3.size)⟩
      · have HN := put (show mayK cs fs k = false by rw [HAB.out, List.getElem?_eq_none (by omega)]; rfl)
        have hd1 : decide ((k : Int) + 1 < (m : Int)) = false := decide_eq_false (by omega)
        clear HAB HG HST HS
        go_wp2_with fail
        go_quiet (fail)
        all_goals (
          go_wp2
          go_ret
          exact ⟨ret_bool HN.out.symm, by first | exact b3 | exact b3.drew | exact below_drewN b3 _⟩)

end Go.Proofs.YtpbkkjiikhjanaaGreatDoor

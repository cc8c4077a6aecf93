/-
  Whether the first of some frames may stop a panic, as the program has it: mayStop.
-/
import Derived.Test.YtpbkkjiikhjanaaGreatDoorJHr
import Derived.BigRegion
import Derived.BigQuiet
namespace Go.Proofs.YtpbkkjiikhjanaaGreatDoor
open Go.RowKit Go.Deep Exs Ht

theorem mayK_drop (cs : List Cd) (fs : List Fr) (k : Nat) : mayK cs (fs.drop k) 0 = mayK cs fs k := by
  unfold mayK
  simp [List.getElem?_drop]

set_option maxHeartbeats 16000000 in
set_option maxRecDepth 100000 in
theorem mayStop_any (A : Option Addr) (n c : Nat) (cs : List Cd) (C : Option Addr) (m d : Nat) (fs : List Fr) (w : World) (hr : ReadsC w w.heap.size A n cs) (hf : ReadsFr w w.heap.size C m fs) (hs : ∀ f ∈ fs, SmallFr f) (hm : m ≤ 1048576) (hg : ∀ f ∈ fs, GdF cs f) (hk : 0 < m) (hsm : ∀ c ∈ cs, c.ins.length ≤ 1048576) :
    Calls Tryz.prog 36 #[.agg #[.slice A n c], .slice C m d] w fun e w' => e = .returned (.bool (mayK cs fs 0)) ∧ Below w.heap.size w w' := by
  have hlen := hr.1
  have HSM := put hsm
  clear hsm
  have hfl := hf.1
  obtain ⟨bC, oC, f, A1, n1, c1, A2, n2, c2, A3, n3, c3, rfl, hbC, g0, g1, g2, g3, g4, g5, g6, g7, g8, g9, g10, r0, hx⟩ := hf.at_ hk
  have hfm := mem_of_at hx.out
  have s3 : n3 ≤ 1048576 := by have := (hs f hfm).2.2; rw [r0.flags.1] at this; exact this
  obtain ⟨j, s, hfn, hsj, hfls, hsite⟩ := (hg f hfm).code
  have HANS := put (show mayK cs fs 0 = (ownB cs f || aboveB cs fs[1]?) from mayK_at hx.out)
  rw [ownB_go hfn hsj] at HANS
  obtain ⟨ide, fn, pla, pile, vars, flags, result, mode, value', base, off⟩ := f
  dsimp only at hfn hfls hsite HANS
  subst hfn
  have RF := put r0.flags
  have hjn : j < n := by rw [← hlen]; exact (List.getElem?_eq_some_iff.1 hsj).1
  obtain ⟨b, o, s', A4, n4, c4, A5, n5, c5, A6, n6, c6, rfl, hb', e0, e1, e2, e3, e4, r1, r2, r3, hxc⟩ := hr.at_ hjn
  obtain rfl : s = s' := by have := hxc.out; rw [hsj] at this; injection this
  obtain ⟨sp, hsp⟩ : ∃ q, s.params = q := ⟨_, rfl⟩
  obtain ⟨sv, hsv⟩ : ∃ q, s.vars = q := ⟨_, rfl⟩
  rw [hsp] at e0
  rw [hsv] at e1
  have RS := put r1
  have HG := put hg
  have HRR := put hr
  have HFF := put hf
  have HS := put hsj
  have HST := put hsite
  have HBC := put hbC
  have HB := put hb'
  clear hs hg hfm hfls r0 hx hsite hsj hf hr r1 r2 r3 hxc hbC hb' hsp hsv
  simp only [Nat.zero_mul, Nat.add_zero] at g0 g1 g2 g3 g4 g5 g6 g7 g8 g9 g10
  clear g0 g2 g3 g4 g6 g7 g8 g9 g10
  have hb0 : Below w.heap.size w (w.alloc (.cells #[.slice (some ⟨b, o, none⟩) n c] 36)) := (Below.refl _ _).alloc (Nat.le_refl _) _
  have hjI : (j : Int) < (n : Int) := by omega
  have hj0 : (0 : Int) ≤ (j : Int) := by omega
  have hmI : (0 : Int) < (m : Int) := by omega
  have kx : Keep (w.alloc (.cells #[.slice (some ⟨b, o, none⟩) n c] 36)) w.heap.size #[.slice (some ⟨b, o, none⟩) n c] 36 := Keep.new _ _ _
  have q1 := (hb0.cell (p := ⟨bC, oC + 1, none⟩) HBC.out).trans g1
  have q5 := (hb0.cell (p := ⟨bC, oC + 5, none⟩) HBC.out).trans g5
  have p0 := (hb0.cell (p := ⟨b, o + j * 5, none⟩) HB.out).trans e0
  have p1 := (hb0.cell (p := ⟨b, o + j * 5 + 1, none⟩) HB.out).trans e1
  have p2 := (hb0.cell (p := ⟨b, o + j * 5 + 2, none⟩) HB.out).trans e2
  have p3 := (hb0.cell (p := ⟨b, o + j * 5 + 3, none⟩) HB.out).trans e3
  have p4 := (hb0.cell (p := ⟨b, o + j * 5 + 4, none⟩) HB.out).trans e4
  clear g1 g5 e0 e1 e2 e3 e4
  go_enter Tryz.func36, Tryz.ntmps36
  go_wp2_with fail
  generalize hW : (w.alloc (.cells #[.slice (some ⟨b, o, none⟩) n c] 36)) = W0 at hb0 kx q1 q5 p0 p1 p2 p3 p4 ⊢
  clear hW
  have xx := kx.cell 0
  simp at xx
  have hbA : Below W0.heap.size W0 (W0.alloc (.cells #[.slice none 0 0, .int .i64 0, .int .i64 0, .slice none 0 0, .slice none 0 0, .slice none 0 0] 109)) := (Below.refl _ _).alloc (Nat.le_refl _) _
  have hbL := hb0.size
  have xxa := (hbA.cell (p := ⟨w.heap.size, 0, none⟩) kx.lt).trans xx
  have q1a := (hbA.cell (p := ⟨bC, oC + 1, none⟩) (Nat.lt_of_lt_of_le HBC.out hbL)).trans q1
  have q5a := (hbA.cell (p := ⟨bC, oC + 5, none⟩) (Nat.lt_of_lt_of_le HBC.out hbL)).trans q5
  have p0a := (hbA.cell (p := ⟨b, o + j * 5, none⟩) (Nat.lt_of_lt_of_le HB.out hbL)).trans p0
  have p1a := (hbA.cell (p := ⟨b, o + j * 5 + 1, none⟩) (Nat.lt_of_lt_of_le HB.out hbL)).trans p1
  have p2a := (hbA.cell (p := ⟨b, o + j * 5 + 2, none⟩) (Nat.lt_of_lt_of_le HB.out hbL)).trans p2
  have p3a := (hbA.cell (p := ⟨b, o + j * 5 + 3, none⟩) (Nat.lt_of_lt_of_le HB.out hbL)).trans p3
  have p4a := (hbA.cell (p := ⟨b, o + j * 5 + 4, none⟩) (Nat.lt_of_lt_of_le HB.out hbL)).trans p4
  go_wp2
  go_big_region
  have k2 : Keep (W0.alloc (.cells #[.slice A3 n3 c3, .int .i64 sp, .int .i64 sv, .slice A4 n4 c4, .slice A5 n5 c5, .slice A6 n6 c6] 109)).drew W0.heap.size #[.slice A3 n3 c3, .int .i64 sp, .int .i64 sv, .slice A4 n4 c4, .slice A5 n5 c5, .slice A6 n6 c6] 109 := Keep.new W0 _ _
  have bw : Below w.heap.size w (W0.alloc (.cells #[.slice A3 n3 c3, .int .i64 sp, .int .i64 sv, .slice A4 n4 c4, .slice A5 n5 c5, .slice A6 n6 c6] 109)).drew := (hb0.alloc hb0.size _).drew
  have kx2 : Keep (W0.alloc (.cells #[.slice A3 n3 c3, .int .i64 sp, .int .i64 sv, .slice A4 n4 c4, .slice A5 n5 c5, .slice A6 n6 c6] 109)).drew w.heap.size #[.slice (some ⟨b, o, none⟩) n c] 36 := kx.alloc _
  have hbS := put hb0.size
  generalize (W0.alloc (.cells #[.slice A3 n3 c3, .int .i64 sp, .int .i64 sv, .slice A4 n4 c4, .slice A5 n5 c5, .slice A6 n6 c6] 109)).drew = W1 at k2 bw kx2 ⊢
  generalize W0.heap.size = b2 at k2 ⊢
  clear xx xxa q1 q1a q5 q5a p0 p1 p2 p3 p4 p0a p1a p2a p3a p4a hbA hbL hb0 kx
  have y0 := k2.cell 0
  simp at y0
  go_wp2_with fail
  refine (sites_any A3 n3 c3 flags W1 (RF.out.now bw) s3).mono ?_
  rintro e w2 ⟨v, rfl, nu, hb2⟩
  obtain ⟨L, hL⟩ : ∃ L, (wtL flags).length = L := ⟨_, rfl⟩
  obtain ⟨A', c', hv, hR⟩ := nu.reads
  rw [hL] at hv hR
  subst hv
  have b2' := bw.trans (hb2.mono bw.size)
  have kx3 := kx2.below hb2
  have ku3 := k2.below hb2
  have HL := put hL
  have hLb : L ≤ 1048576 := by have h1 := wtF_length flags 0; have h2 := RF.out.1; have h3 : (wtF flags 0).length = L := hL; omega
  clear kx2 k2 bw y0 nu hb2 hL
  go_wp2
  go_loopw [7, 25] (fun _ i wr => ∃ q : Nat, q ≤ L ∧ i = .int .i64 q ∧ Hid (∀ x ∈ (wtL flags).take q, siteRec cs s x = false) ∧ Below w2.heap.size w2 wr) (fun _ i _ => L - (intOf i).toNat)
  case atStart => exact ⟨0, Nat.zero_le _, rfl, put (fun t h => by simp at h), Below.refl _ _⟩
  case round =>
    obtain ⟨q, hq, rfl, hall, bw⟩ := hrel
    have b3 : Below w.heap.size w wr := b2'.trans (bw.mono b2'.size)
    have kx4 := kx3.below bw
    have ku4 := ku3.below bw
    have x0 := kx4.cell 0
    have z3 := ku4.cell 3
    simp at x0 z3
    by_cases hlt : q < L
    · obtain ⟨bq, oq, x, rfl, hbq, hc, hxt⟩ := (hR.below bw).at_ hlt
      obtain ⟨p, rfl, hpl, hpf⟩ := wtF_mem (mem_of_at hxt.out)
      obtain ⟨gn, s', hsp, hs'⟩ := HST.out p true hpf
      have HSR := put (siteRec_go hsp hs')
      have hpn : p < n4 := by rw [← RS.out.1]; exact (List.getElem?_eq_some_iff.1 hsp).1
      obtain ⟨b6, o6, y, hA4, hb6, i6, hy6⟩ := (RS.out.now b3).at_ hpn
      subst hA4
      obtain rfl : y = (gn : Int) := by have := hy6.out; rw [hsp] at this; injection this with this; exact this.symm
      have hgn : gn < n := by rw [← hlen]; exact (List.getElem?_eq_some_iff.1 hs').1
      obtain ⟨b7, o7, s7, A7, n7, c7, A8, n8, c8, A9, n9, c9, hA7, hb7, e0, e1, e2, e3, e4, r1, r2, r3, hx7⟩ := (HRR.out.now b3).at_ hgn
      injection hA7 with hA7
      injection hA7 with q1 q2
      subst q1 q2
      obtain rfl : s' = s7 := by have := hx7.out; rw [hs'] at this; injection this
      obtain ⟨tp, htp⟩ : ∃ q, s'.params = q := ⟨_, rfl⟩
      obtain ⟨tv, htv⟩ : ∃ q, s'.vars = q := ⟨_, rfl⟩
      rw [htp] at e0
      rw [htv] at e1
      have hn8 : n8 ≤ 1048576 := by rw [← r2.1]; exact HSM.out s' (mem_of_at hs')
      have CON := put (fun W (hW : Below wr.heap.size wr W) => hasRecover_any s' tp tv A7 n7 c7 A8 n8 c8 A9 n9 c9 W (r2.now hW) hn8)
      have hgI : (gn : Int) < (n : Int) := by omega
      have hg0 : (0 : Int) ≤ (gn : Int) := by omega
      have hpI : (p : Int) < (n4 : Int) := by omega
      have hp0 : (0 : Int) ≤ (p : Int) := by omega
      obtain ⟨rb, hrb⟩ : ∃ rb, recB s' = rb := ⟨_, rfl⟩
      rw [hrb] at CON HSR
      clear hrb hs' hsp hpf hpl r1 r2 r3 hy6 hx7 hlen hfl htp htv
      cases rb
      · have hall2 := put (no_more hall.out hxt.out HSR.out)
        clear hxt HSR
        go_wp2
        go_region_law (first
          | (go_simp; go_at_call 63; refine (CON.out wr.drew (Below.refl wr.heap.size wr).drew).mono ?_; rintro e w5 ⟨rfl, hb5'⟩))
        all_goals (
          go_wp2
          go_roundw
          case rel => exact ⟨q + 1, by omega, by go_num, hall2, bw.trans (((Below.refl wr.heap.size wr).drew.trans hb5').mono bw.size)⟩
          case measure => simp [intOf]; omega)
      · have HY := put (show mayK cs fs 0 = true by rw [HANS.out, Bool.or_eq_true]; exact .inl (List.any_eq_true.2 ⟨_, mem_of_at hxt.out, HSR.out⟩))
        clear hxt HSR
        go_wp2
        go_region_law (first
          | (go_simp; go_at_call 63; refine (CON.out wr.drew (Below.refl wr.heap.size wr).drew).mono ?_; rintro e w5 ⟨rfl, hb5'⟩))
        all_goals (
          go_wp2
          go_ret
          exact ⟨ret_bool HY.out.symm, b3.trans (((Below.refl wr.heap.size wr).drew.trans hb5').mono b3.size)⟩)
    · have hfin : (wtL flags).take q = wtL flags := List.take_of_length_le (by have := HL.out; omega)
      have HAB := put (show mayK cs fs 0 = aboveB cs fs[1]? by rw [HANS.out, any_no (by have := hall.out; rwa [hfin] at this), Bool.false_or])
      clear hfin hR z3
      by_cases hk1 : 1 < m
      · obtain ⟨b7, o7, f7, B1, u1, d1, B2, u2, d2, B3, u3, d3', hC7, hb7, i0, i1, i2, i3, i4, i5, i6, i7, i8, i9, i10, r7, hx7⟩ := (HFF.out.now b3).at_ hk1
        injection hC7 with hC7
        injection hC7 with q1 q2
        subst q1 q2
        obtain ⟨j7, s7, hfn7, hs7, _, _⟩ := (HG.out f7 (mem_of_at hx7.out)).code
        have HAN := put (show mayK cs fs 0 = (f7.off && recB s7) by rw [HAB.out, hx7.out, aboveB_go hfn7 hs7])
        have hjn7 : j7 < n := by rw [← hlen]; exact (List.getElem?_eq_some_iff.1 hs7).1
        obtain ⟨b8, o8, s8, A7, n7, c7, A8, n8, c8, A9, n9, c9, hA7, hb8, e0, e1, e2, e3, e4, t1, t2, t3, hx8⟩ := (HRR.out.now b3).at_ hjn7
        injection hA7 with hA7
        injection hA7 with q1 q2
        subst q1 q2
        obtain rfl : s7 = s8 := by have := hx8.out; rw [hs7] at this; injection this
        obtain ⟨tp, htp⟩ : ∃ q, s7.params = q := ⟨_, rfl⟩
        obtain ⟨tv, htv⟩ : ∃ q, s7.vars = q := ⟨_, rfl⟩
        rw [htp] at e0
        rw [htv] at e1
        have hn8 : n8 ≤ 1048576 := by rw [← t2.1]; exact HSM.out s7 (mem_of_at hs7)
        have CON := put (fun W (hW : Below wr.heap.size wr W) => hasRecover_any s7 tp tv A7 n7 c7 A8 n8 c8 A9 n9 c9 W (t2.now hW) hn8)
        rw [hfn7] at i1
        simp only [Nat.one_mul] at i1 i10
        have h1I : (1 : Int) < (m : Int) := by omega
        have hj7I : (j7 : Int) < (n : Int) := by omega
        have hj70 : (0 : Int) ≤ (j7 : Int) := by omega
        have hd1 : decide ((m : Int) > 1) = true := decide_eq_true h1I
        clear i0 i2 i3 i4 i5 i6 i7 i8 i9 r7 hx7 hs7 hfn7 HG HAB HST HS t1 t2 t3 hx8 htp htv
        cases ho : f7.off
        · rw [ho] at i10 HAN
          rw [Bool.false_and] at HAN
          clear ho
          go_wp2_with fail
          go_quiet (fail)
          all_goals (
            go_wp2
            go_ret
            exact ⟨ret_bool HAN.out.symm, by first | exact b3 | exact b3.drew | exact below_drewN b3 _⟩)
        · rw [ho] at i10 HAN
          rw [Bool.true_and] at HAN
          obtain ⟨ans, hans⟩ : ∃ ans, recB s7 = ans := ⟨_, rfl⟩
          rw [hans] at CON HAN
          clear ho hans
          have ux := cell_regrown x0
          have ui10 := cell_regrown i10
          have ui1 := cell_regrown i1
          have v0 := cell_regrown e0
          have v1 := cell_regrown e1
          have v2 := cell_regrown e2
          have v3 := cell_regrown e3
          have v4 := cell_regrown e4
          clear x0 i10 i1 e0 e1 e2 e3 e4
          go_wp2_with fail
          refine wp_region_quiet_below (by kernel_rfl) (by kernel_rfl) ?_
          repeat (first | go_big_quiet_step ((go_at_call 63; exact Calls.regrown_of (CON.out _ (below_regrown wr _ _)))) | quiet_step (fail))
          refine wpQuiet_nil ?_
          intro _ hw'
          obtain ⟨⟨dq, osq⟩, hw''⟩ := hw'
          subst hw''
          go_wp2
          go_ret
          exact ⟨ret_bool HAN.out.symm, b3.trans ((below_regrown wr dq osq).mono b3.size)⟩
      · have HN := put (show mayK cs fs 0 = false by rw [HAB.out, List.getElem?_eq_none (by omega)]; rfl)
        have hd1 : decide ((m : Int) > 1) = false := decide_eq_false (by omega)
        clear HAB HG HST HS
        go_wp2_with fail
        go_quiet (fail)
        all_goals (
          go_wp2
          go_ret
          exact ⟨ret_bool HN.out.symm, by first | exact b3 | exact b3.drew | exact below_drewN b3 _⟩)

end Go.Proofs.YtpbkkjiikhjanaaGreatDoor

/-
  The reference's drawing of statements: its contract.
-/
import Derived.Test.YtfdijeeilfhjeaaSeg7
import Derived.Test.YtfdijeeilfhjeaaPkE
import Derived.Deep.DeepCutAuto
import Derived.Deep.CutBlock
import Derived.Deep.LoopGhost
import Derived.Deep.RegionLaw
import Derived.Deep.RegionHeld3
import Derived.StillTailTactics
namespace Go.Proofs.Ytfdijeeilfhjeaa
open Go.RowKit Exs

set_option maxHeartbeats 8000000 in
set_option maxRecDepth 100000 in
theorem stmts_more (d : Nat) (hd : d ≤ 2) (y : Int) (hy : y = d)  (F : Fix) (T : Nat) (cs : List C5) (b : Bool) (ok : F.Ok) (hout : Out F F.w0 T F.sv0 cs (.slice none 0 0) []) (hcs : cs.length ≤ 12) (hT : T + cost d ≤ 700000) (hv0 : 0 ≤ F.vs) (hv6 : F.vs ≤ 6) (hp0 : F.ps.getD 0 0 = 0)
    (ih : ∀ (z : Int) (G : Fix) (S : Nat) (es : List C5) (lp : Bool), 1 ≤ d → z = (d : Int) - 1 → G.Ok → Out G G.w0 S G.sv0 es (.slice none 0 0) [] → es.length ≤ 12 → S + cost (d - 1) ≤ 700000 → 0 ≤ G.vs → G.vs ≤ 6 → G.ps.getD 0 0 = 0 →
      Calls Try.prog 127 #[.pointer (some ⟨G.gc, 0, none⟩), .pointer (some ⟨G.gf, 0, none⟩), .slice (some ⟨G.p, 0, none⟩) G.np G.cp, .int .i64 z, .bool lp] G.w0 (GivesS G (S + cost (d - 1)) es.length)) :
    Calls Try.prog 127 #[.pointer (some ⟨F.gc, 0, none⟩), .pointer (some ⟨F.gf, 0, none⟩), .slice (some ⟨F.p, 0, none⟩) F.np F.cp, .int .i64 y, .bool b] F.w0 (GivesS F (T + cost d) cs.length) := by
  have HN := put (show d ≤ 2 ∧ 300 ≤ stp d ∧ stp d ≤ 13040 ∧ T + cost d ≤ 700000 ∧ cost d = 10 + 3 * stp d ∧ cs.length ≤ 12 ∧ y = d ∧ 0 ≤ F.vs ∧ F.vs ≤ 6 from ⟨hd, (stp_le hd).1, (stp_le hd).2, hT, rfl, hcs, hy, hv0, hv6⟩)
  have HI := put ih
  have HP0 := put hp0
  have OK := put ok
  clear hd hT hcs hy hv0 hv6 ih hp0 ok
  go_enter Try.func127, Try.ntmps127
  go_wp2_with fail
  refine (pick_any F.gc F.A F.n F.c T 3 _ hout.cur (by have := HN.out; omega) (by omega) (by omega)).mono ?_
  rintro e w1 ⟨q, hq0, hq1, rfl, hc1, hg1⟩
  have ho1 := hout.cursor OK.out hg1 hc1
  obtain ⟨m0, hm0⟩ : ∃ m0 : Nat, 1 + q = m0 := ⟨(1 + q).toNat, by omega⟩
  have hm1 : 1 ≤ m0 ∧ m0 ≤ 3 := by omega
  have HM := put hm1
  have hw : IntKind.i64.wrap (1 + q) = (m0 : Int) := by rw [hm0]; exact IntWalk.i64_in _ ⟨by omega, by omega⟩
  clear hout hc1 hg1 hm1
  go_wp2
  go_loopg [11, 12] m0 (fun g v i wr => ∃ (sv : Value) (ds : List C5) (xs : List Int), g ≤ m0 ∧ i = .int .i64 g ∧ Out F wr (T + 2 + (m0 - g) * stp d) sv ds v xs ∧ Hid (xs.length + g ≤ m0 ∧ cs.length ≤ ds.length ∧ ds.length ≤ 12 ∧ (xs.length = 0 → g = m0 ∧ ds = cs)))
  case atStart => exact ⟨F.sv0, cs, [], Nat.le_refl _, rfl, by simpa using ho1, put ⟨by simp, Nat.le_refl _, HN.out.2.2.2.2.2.1, fun _ => ⟨rfl, rfl⟩⟩⟩
  case round =>
    clear ho1 hm0 hw hq0 hq1
    obtain ⟨gn, hgn⟩ : ∃ gn, gn = gk := ⟨gk, rfl⟩
    subst hgn
    obtain ⟨sv, ds, xs, hgk, rfl, ho, hfacts⟩ := hrel
    obtain ⟨Asv, csv, hsv⟩ := ho.sts.slice
    subst hsv
    have y0 := ho.box.cell 0
    have y1 := ho.box.cell 1
    have y2 := ho.box.cell 2
    have y3 := ho.box.cell 3
    simp at y0 y1 y2 y3
    have hsz0 : F.w0.heap.size ≤ wr.heap.size := ho.kept.size
    rcases (show gn = 0 ∨ (0 < gn ∧ 12 ≤ ds.length) ∨ (0 < gn ∧ ds.length < 12) by omega) with h0 | ⟨h0, h12⟩ | ⟨h0, h12⟩
    · subst h0
      go_wp2
      go_ret
      exact ⟨_, xs, _, ds, rfl, ho.more (by have := HN.out; have := HM.out; have : (m0 - 0) * stp d ≤ 3 * stp d := Nat.mul_le_mul_right _ (by omega); omega), by have := hfacts.out; have := HM.out; omega, hfacts.out.2.1, hfacts.out.2.2.1, fun hc0 => by
        have h := hfacts.out.2.2.2; have := HM.out
        rcases Nat.eq_zero_or_pos xs.length with hx | hx
        · have := h hx; omega
        · exact hx⟩
    · go_wp2
      go_ret
      exact ⟨_, xs, _, ds, rfl, ho.more (by have := HN.out; have := HM.out; have : (m0 - gn) * stp d ≤ 3 * stp d := Nat.mul_le_mul_right _ (by omega); omega), by have := hfacts.out; have := HM.out; omega, hfacts.out.2.1, hfacts.out.2.2.1, fun hc0 => by
        have h := hfacts.out.2.2.2
        rcases Nat.eq_zero_or_pos xs.length with hx | hx
        · obtain ⟨_, rfl⟩ := h hx; omega
        · exact hx⟩
    · have HT1 := put (show T + 2 + (m0 - gn) * stp d + stp d ≤ T + 2 + (m0 - (gn - 1)) * stp d ∧ T + 2 + (m0 - gn) * stp d + stp d ≤ T + cost d by
        have e : m0 - (gn - 1) = (m0 - gn) + 1 := by omega
        have := HN.out; have := HM.out
        refine ⟨by rw [e, Nat.add_mul]; omega, ?_⟩
        have : (m0 - gn + 1) * stp d ≤ 3 * stp d := Nat.mul_le_mul_right _ (by omega)
        rw [Nat.add_mul] at this; omega)
      generalize hTr : T + 2 + (m0 - gn) * stp d = Tr at ho HT1
      clear hTr
      go_wp2_with fail
      refine (among_any F.gc F.A F.n F.c Tr _ ((ho.alloc _).cur) (by have := HN.out; have := HT1.out; omega) wr.heap.size 11 [1, 2, 2, 3, 3, 4, 5, 6, 7, 8, 9] 1 9 (by refine Room.lit ?_ ?_ <;> rfl) rfl ho.cur.lt (by decide) (by decide) (by show ∀ x ∈ _, _; decide)).mono ?_
      rintro e w2 ⟨kd, hk1, hk9, rfl, hc2, hg2⟩
      have ho2 := (ho.alloc _).cursor OK.out hg2 hc2
      have hmid := ho2.open ho2.kept.size kd
      clear ho hc2 hg2 ho2 y0 y1 y2 y3
      go_upto_region 7 with fail
      generalize hgs : w2.heap.size = gs at hmid ⊢
      generalize w2.alloc (.cells #[.int .i64 kd, .int .i64 0, .slice none 0 0, .slice none 0 0, .slice none 0 0] 106) = W3 at hmid ⊢
      clear hgs
      go_cut [90] (fun s90 wx => ∃ bb : Bool, s90 = .bool bb ∧ Hid (bb = false → y = 0 → kd ≠ 7 ∧ kd ≠ 8) ∧ Below W3.heap.size W3 wx)
      case first =>
        as_aux_lemma =>
          refine seg7 hmid h12 (put ?_)
          intro _ _ _ _ _ _ _ _ _ _ _ _ _ _ _ _ _ _ _ _ _ _ _ _ _ _ _ _ _ _ _ _ _ _ _ _ _ _ _ _ _ _ _ _ _ _ _ _ bb wx hbb hbx
          go_wp2
          go_meet
          exact ⟨_, rfl, hbb, hbx⟩
      case rest => as_aux_lemma =>
        obtain ⟨bb, rfl, hbb, hb⟩ := hcut
        have hmid1 := hmid.below hb
        clear hmid hb
        have z0 := hmid1.s.cell 0
        have f0 := hmid1.s.frozen 0
        simp at z0
        go_upto_if 90 with fail
        go_cut [] (fun wx => ∃ k2 : Int, Hid (1 ≤ k2 ∧ k2 ≤ 9 ∧ (y = 0 → k2 ≠ 7 ∧ k2 ≠ 8)) ∧ Mid F wx (Tr + 2) (.slice Asv ds.length csv) ds u11 xs gs ⟨k2, 0, .slice none 0 0, .slice none 0 0, .slice none 0 0⟩)
        case first =>
          as_aux_lemma =>
            cases bb with
            | true =>
              go_wp2
              go_meet
              exact ⟨2, put ⟨by omega, by omega, fun _ => ⟨by omega, by omega⟩⟩, hmid1.set OK.out ⟨2, 0, .slice none 0 0, .slice none 0 0, .slice none 0 0⟩ 0 _ rfl (leads_new _ _ _ _) (fun k h => absurd h (noInt _ _ _ _)) (fun k _ => noInt _ _ _ _)⟩
            | false =>
              go_wp2
              go_meet
              exact ⟨kd, put ⟨hk1, hk9, fun h => hbb.out trivial h⟩, hmid1⟩
        case rest => as_aux_lemma =>
          obtain ⟨k2, hk2, hmid2⟩ := hcut
          clear hmid1 z0 f0 hbb hk1 hk9
          have z0 := hmid2.s.cell 0
          simp at z0
          go_upto_region 9 with fail
          go_cut [99] (fun s99 wx => ∃ b99 : Bool, s99 = .bool b99 ∧ Mid F wx (Tr + 4) (.slice Asv ds.length csv) ds u11 xs gs ⟨k2, 0, .slice none 0 0, .slice none 0 0, .slice none 0 0⟩)
          case first =>
            as_aux_lemma =>
              by_cases h6 : k2 = 6
              · subst h6
                go_wp2_with fail
                refine (one_any F.gc F.A F.n F.c _ 3 _ hmid2.out.cur (by have := HN.out; have := HT1.out; omega) (by omega) (by omega)).mono ?_
                rintro e w3 ⟨b3, rfl, hc3, hg3⟩
                have hm3 := hmid2.cursor OK.out hg3 hc3
                cases b3 with
                | true =>
                  go_wp2
                  go_meet
                  exact ⟨_, rfl, hm3⟩
                | false =>
                  go_wp2
                  go_meet
                  exact ⟨_, rfl, hm3⟩
              · have h6' := beq_of h6
                go_wp2
                go_meet
                exact ⟨_, rfl, hmid2.more (by omega)⟩
          case rest => as_aux_lemma =>
            obtain ⟨b99, rfl, hmid3⟩ := hcut
            clear hmid2 z0
            have z0 := hmid3.s.cell 0
            have f0 := hmid3.s.frozen 0
            simp at z0
            go_upto_if 99 with fail
            go_cut [] (fun wx => ∃ k3 : Int, Hid (1 ≤ k3 ∧ k3 ≤ 9 ∧ (y = 0 → k3 ≠ 7 ∧ k3 ≠ 8)) ∧ Mid F wx (Tr + 4) (.slice Asv ds.length csv) ds u11 xs gs ⟨k3, 0, .slice none 0 0, .slice none 0 0, .slice none 0 0⟩)
            case first =>
              as_aux_lemma =>
                cases b99 with
                | true =>
                  go_wp2
                  go_meet
                  exact ⟨9, put ⟨by omega, by omega, fun _ => ⟨by omega, by omega⟩⟩, hmid3.set OK.out ⟨9, 0, .slice none 0 0, .slice none 0 0, .slice none 0 0⟩ 0 _ rfl (leads_new _ _ _ _) (fun k h => absurd h (noInt _ _ _ _)) (fun k _ => noInt _ _ _ _)⟩
                | false =>
                  go_wp2
                  go_meet
                  exact ⟨k2, hk2, hmid3⟩
            case rest => as_aux_lemma =>
              obtain ⟨k3, hk3, hmid4⟩ := hcut
              clear hmid3 z0 f0 hk2
              have hnp : F.np ≤ 5 := hmid4.out.pars.five
              have hnp1 : 1 ≤ F.np := hmid4.out.pars.one
              have hbase : F.w0.heap.size ≤ wc.heap.size := hmid4.out.kept.size
              go_wp2
              go_loopg [15, 103] F.np (fun g v i wz => ∃ (j : Nat) (fs : List Int), j ≤ F.np ∧ g = F.np - j ∧ i = .int .i64 j ∧ Nums wz wc.heap.size 3 .i64 v fs ∧ Below wc.heap.size wc wz ∧ Hid (fs.length ≤ j ∧ (1 ≤ j → 1 ≤ fs.length)))
              case atStart => exact ⟨0, [], Nat.zero_le _, rfl, rfl, Nums.nil _ _ _ _, Below.refl _ _, put ⟨by simp, fun h => absurd h (by omega)⟩⟩
              case round =>
                obtain ⟨j, fs, hj, hgj, rfl, hfs, hbz, hfl⟩ := hrel
                have HGJ := put hgj
                clear hgj
                have hmz := hmid4.below hbz
                by_cases hlt : j < F.np
                · as_aux_lemma =>
                    have hcell := hmz.out.pars.row.cell j (by rw [hmz.out.pars.len]; exact hlt)
                    have hsz4 := hbz.size
                    by_cases hz : F.ps.getD j 0 = 0
                    · rw [hz] at hcell
                      clear hz
                      go_wp2_with (at_builtin; refine wpList_append_one rfl _ _ 22 rfl wc.heap.size 3 .i64 8 Try.info3 Try.underlying22 (by decide) _ fs rfl wc (hbz.alloc hsz4 _) (by simp; omega) (hfs.alloc _) wr.heap.size (j : Int) rfl (by simp) (by have := hfl.out; omega) ?_; intro v5 w5 hn5 hb5 _)
                      go_roundg (F.np - (j + 1))
                      case measure => have := HGJ.out; omega
                      case rel => exact ⟨j + 1, fs ++ [(j : Int)], by omega, rfl, by go_num, hn5, hb5, put ⟨by have := hfl.out; simp; omega, fun _ => by simp⟩⟩
                    · have hz' := beq_of hz
                      have hj1 : 1 ≤ j := by
                        rcases Nat.eq_zero_or_pos j with h | h
                        · subst h; exact absurd HP0.out hz
                        · exact h
                      clear hz
                      generalize F.ps.getD j 0 = pj at hcell hz'
                      go_wp2
                      go_roundg (F.np - (j + 1))
                      case measure => have := HGJ.out; omega
                      case rel => exact ⟨j + 1, fs, by omega, rfl, by go_num, hfs, hbz, put ⟨by have := hfl.out; omega, fun _ => hfl.out.2 hj1⟩⟩
                · have hfl2 : 1 ≤ fs.length ∧ fs.length ≤ 5 := by have := hfl.out; have := hfl.out.2 (by omega); omega
                  clear hfl hmid4 HGJ
                  have hbz4 := hbz.size
                  generalize wc.heap.size = Bf at hfs hbz hbase hbz4
                  have hmid4 := hmz
                  clear hmz hbz
                  have z0 := hmid4.s.cell 0
                  simp at z0
                  obtain ⟨Af, cf, hfv, hfr⟩ := hfs.reads
                  subst hfv
                  go_upto_region 18 with fail
                  go_cut [122] (fun s122 wx => ∃ b122 : Bool, s122 = .bool b122 ∧ wx = wr)
                  case first =>
                    as_aux_lemma =>
                      by_cases h3 : k3 = 3
                      · subst h3
                        go_wp2
                        go_meet
                        exact ⟨_, rfl, rfl⟩
                      · have h3' := bne_of h3
                        by_cases h6 : k3 = 6
                        · subst h6
                          go_wp2
                          go_meet
                          exact ⟨_, rfl, rfl⟩
                        · have h6' := bne_of h6
                          go_wp2
                          go_meet
                          exact ⟨_, rfl, rfl⟩
                  case rest => as_aux_lemma =>
                    obtain ⟨b122, rfl, rfl⟩ := hcut
                    go_upto_if 122 with fail
                    go_cut [] (fun wx => ∃ v1 : Value, Mid F wx (Tr + 210) (.slice Asv ds.length csv) ds u11 xs gs ⟨k3, 0, v1, .slice none 0 0, .slice none 0 0⟩ ∧ Nums wx Bf 3 .i64 (.slice Af fs.length cf) fs ∧ Bf ≤ wx.heap.size)
                    case first =>
                      as_aux_lemma =>
                        refine seg122 HN OK HT1 hmid4 hfs hbz4 (put ?_)
                        intro _ _ _ _ _ _ _ _ _ _ _ _ _ v1 wx h1 h2 h3
                        go_wp2
                        go_meet
                        exact ⟨_, h1, h2, h3⟩
                    case rest => as_aux_lemma =>
                      obtain ⟨v1, hmid5, hfs5, hbf5⟩ := hcut
                      clear hmid4 hfs hfr hbz4 z0
                      have z0 := hmid5.s.cell 0
                      have f1 := hmid5.s.frozen 1
                      have z1 := hmid5.s.cell 1
                      have y1 := hmid5.out.box.cell 1
                      simp at z0 z1 y1
                      go_upto_block 4 with fail
                      go_cut [] (fun wx => ∃ n2 : Int, Mid F wx (Tr + 212) (.slice Asv ds.length csv) ds u11 xs gs ⟨k3, n2, v1, .slice none 0 0, .slice none 0 0⟩)
                      case first =>
                        as_aux_lemma =>
                          refine segB4 HN OK HT1 hmid5 hfs5 hfl2 (put ?_)
                          intro _ _ _ _ _ _ _ _ _ _ _ _ _ _ _ _ _ _ _ n2 wx h1
                          go_wp2
                          go_meet
                          exact ⟨_, h1⟩
                      case rest => as_aux_lemma =>
                        obtain ⟨n2, hmid6⟩ := hcut
                        clear hmid5 z0 z1 f1 y1 hfs5 hbf5
                        obtain ⟨A1, n1, c1, _, _, _, _, _, _, e1, _, _⟩ := hmid6.leads.shape
                        have e1' : v1 = .slice A1 n1 c1 := e1
                        subst e1'
                        clear e1
                        have hbase6 : F.w0.heap.size ≤ wc.heap.size := hmid6.out.kept.size
                        have hxl : xs.length ≤ 3 := by have := hfacts.out; have := HM.out; omega
                        obtain ⟨i0, hi, hz0, hz1, hz2⟩ := info_parts Try.info3
                        go_wp2_with (at_builtin; refine wpList_append_own_at _ rfl _ _ 22 rfl F.w0.heap.size 3 i0 (.int .i64 0) 1 8 Try.underlying22 hi hz0 hz1 hz2 rfl (by decide) u11 xs.length _ rfl (Nums.alloc hmid6.out.blk _) ⟨wc.heap.size, 0, none⟩ 1 1 [.int .i64 (ds.length : Int)] rfl rfl (cell_one_new _ _ _) (by simp [Value.oneCell']) (by unfold maxLen; omega) (by omega) (by simp; omega) ?_; intro bv7 w7 hn7 hg7 _ hat7)
                        have hm7 : Mid F w7 (Tr + 212) (.slice Asv ds.length csv) ds bv7 (xs ++ [(ds.length : Int)]) gs ⟨k3, n2, .slice A1 n1 c1, .slice none 0 0, .slice none 0 0⟩ := (hmid6.alloc _).pushed OK.out (by unfold Nums; simpa using hn7) hg7 (by
                          rcases hat7 with e | e
                          · exact .inl e
                          · exact .inr fun k hk => by rw [e] at hk; injection hk with hk; omega)
                        clear hmid6 hn7 hg7 hat7 hi hz0 hz1 hz2 hxl
                        go_cut [] (fun wx => ∃ sv8 : Value, Mid F wx (Tr + 212) sv8 (ds ++ [⟨k3, n2, .slice A1 n1 c1, .slice none 0 0, .slice none 0 0⟩]) bv7 (xs ++ [(ds.length : Int)]) gs ⟨k3, n2, .slice A1 n1 c1, .slice none 0 0, .slice none 0 0⟩)
                        case first =>
                          as_aux_lemma =>
                            refine seg26 OK hm7 (by omega) (put ?_)
                            intro _ _ _ _ _ _ _ _ _ _ sv8 wx h1
                            go_wp2
                            go_meet
                            exact ⟨_, h1⟩
                        case rest => as_aux_lemma =>
                          obtain ⟨sv8, hmid8⟩ := hcut
                          clear hm7
                          have hlen8 : (ds ++ [(⟨k3, n2, .slice A1 n1 c1, .slice none 0 0, .slice none 0 0⟩ : C5)]).length = ds.length + 1 := by simp
                          have HL8 := put (show ds.length < (ds ++ [(⟨k3, n2, .slice A1 n1 c1, .slice none 0 0, .slice none 0 0⟩ : C5)]).length ∧ (ds ++ [(⟨k3, n2, .slice A1 n1 c1, .slice none 0 0, .slice none 0 0⟩ : C5)]).length ≤ 12 by rw [hlen8]; omega)
                          clear hlen8
                          generalize ds ++ [(⟨k3, n2, .slice A1 n1 c1, .slice none 0 0, .slice none 0 0⟩ : C5)] = es at hmid8 HL8
                          have z0 := hmid8.s.cell 0
                          simp at z0
                          go_upto_block 5 with fail
                          go_cut [] (fun wx => ∃ (sv9 : Value) (fs9 : List C5) (v2 v3 : Value), Mid F wx (Tr + stp d) sv9 fs9 bv7 (xs ++ [(ds.length : Int)]) gs ⟨k3, n2, .slice A1 n1 c1, v2, v3⟩ ∧ Hid (ds.length < fs9.length ∧ fs9.length ≤ 12))
                          case first =>
                            as_aux_lemma =>
                              refine segB5 HN HI HP0 OK HT1 hk3 hmid8 HL8 (put ?_)
                              intro _ _ _ _ _ _ _ _ _ _ _ _ _ _ _ _ _ _ _ _ _ _ _ _ _ _ _ _ _ sv9 fs9 v2 v3 wx h1 h2
                              go_wp2
                              go_meet
                              exact ⟨_, _, _, _, h1, h2⟩
                          case rest => as_aux_lemma =>
                            obtain ⟨sv9, fs9, v2, v3, hmid9, HL9⟩ := hcut
                            clear hmid8 z0 HL8
                            as_aux_lemma =>
                              have hcd : cs.length ≤ ds.length := hfacts.out.2.1
                              go_wp2
                              refine seg34 OK hcd hmid9 HL9 (put ?_)
                              intro _ _ _ _ _ _ _ sv' fs' wx ho hl
                              have hxl : xs.length + gn ≤ m0 := hfacts.out.1
                              have hgn3 : gn ≤ 3 := by have := HM.out; omega
                              go_wp2
                              go_roundg (gn - 1)
                              case measure => omega
                              case rel => exact ⟨_, _, _, by omega, by congr 1; omega, ho.more HT1.out.1, put ⟨by simp; omega, hl.out.1, hl.out.2, fun h => by simp at h⟩⟩

end Go.Proofs.Ytfdijeeilfhjeaa

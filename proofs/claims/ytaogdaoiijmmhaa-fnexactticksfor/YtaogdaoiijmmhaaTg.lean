/-
  The program's TicksFor: the function with the most sites, and the answer.
-/
import Derived.Test.YtaogdaoiijmmhaaTf
namespace Go.Proofs.Ytaogdaoiijmmhaa
open Go.RowKit Exs

theorem cmpI_pos {a b : Nat} (h : b < a) : cmpI a b = 1 := by unfold cmpI; rw [if_neg (by omega), if_pos (by omega)]
theorem cmpI_not {a b : Nat} (h : ¬ b < a) : ¬ 0 < cmpI a b := by
  unfold cmpI
  split
  · omega
  · rw [if_neg (by omega)]; omega

set_option maxHeartbeats 2000000 in
set_option maxRecDepth 100000 in
theorem maxFunc_any (A : Option Addr) (n c : Nat) (fs : List Fc) (w : World) (hr : ReadsF w w.heap.size A n fs) (hs : SmallP fs) (hg : progB fs = true) :
    Calls Try.prog 25 #[.slice A n c, .func (.func 26) #[] #[]] w fun e w' => ∃ (g : Fc) (B1 : Option Addr) (m1 d1 : Nat) (B2 : Option Addr) (m2 d2 : Nat), e = .returned (.agg #[.int .i64 g.params, .int .i64 g.vars, .slice B1 m1 d1, .slice B2 m2 d2]) ∧ Hid (g ∈ fs ∧ (sitesL g).length = mostS fs) ∧ IsFc w' w.heap.size g B1 m1 B2 m2 ∧ Below w.heap.size w w' := by
  have hn1 := put (show 1 ≤ n by rw [← hr.1]; exact (prog_some hg).1)
  have hl2 : n ≤ 1048576 := by rw [← hr.1]; exact hs.1
  have HL := put hr.1
  have HG := put hg
  have HS := put hs
  obtain ⟨b0, off0, f0, E1, p1, o1, E2, p2, o2, hA0, hbb0, c0, c1, c2, c3, q1, q2, hx0⟩ := hr.at_ (j := 0) (by have := hn1.out; omega)
  subst hA0
  simp only [Nat.zero_mul, Nat.add_zero] at c0 c1 c2 c3
  have hn0 : ¬ (n : Int) < 1 := by have := hn1.out; omega
  have hn0' : 0 < n := hn1.out
  have HM1 := put (show (sitesL f0).length = mostS (fs.take 1) by rw [mostS_take hx0.out]; simp [mostS])
  have HIN := put (mem_of_at hx0.out)
  have hb0 : Below w.heap.size w ((w.alloc (.cells #[.int .i64 0, .int .i64 0, .slice none 0 0, .slice none 0 0] 51)).alloc (.cells #[.int .i64 f0.params, .int .i64 f0.vars, .slice E1 p1 o1, .slice E2 p2 o2] 51)) := ((Below.refl _ _).alloc (Nat.le_refl _) _).alloc (by simp) _
  have hx : Keep ((w.alloc (.cells #[.int .i64 0, .int .i64 0, .slice none 0 0, .slice none 0 0] 51)).alloc (.cells #[.int .i64 f0.params, .int .i64 f0.vars, .slice E1 p1 o1, .slice E2 p2 o2] 51)) w.heap.size #[.int .i64 0, .int .i64 0, .slice none 0 0, .slice none 0 0] 51 := (Keep.new _ _ _).alloc _
  have hy : Keep ((w.alloc (.cells #[.int .i64 0, .int .i64 0, .slice none 0 0, .slice none 0 0] 51)).alloc (.cells #[.int .i64 f0.params, .int .i64 f0.vars, .slice E1 p1 o1, .slice E2 p2 o2] 51)) (w.heap.size + 1) #[.int .i64 f0.params, .int .i64 f0.vars, .slice E1 p1 o1, .slice E2 p2 o2] 51 := by
    have := Keep.new (w.alloc (.cells #[.int .i64 0, .int .i64 0, .slice none 0 0, .slice none 0 0] 51)) #[.int .i64 f0.params, .int .i64 f0.vars, .slice E1 p1 o1, .slice E2 p2 o2] 51
    rw [World.size_alloc] at this
    exact this
  have hf0 : IsFc w w.heap.size f0 E1 p1 E2 p2 := IsFc.mk q1 q2
  have hfA := put (hf0.below hb0)
  clear q1 q2 hf0 hx0 hs hg
  go_enter Try.func25, Try.ntmps25
  go_wp2
  clear c0 c1 c2 c3
  generalize hW : (w.alloc (.cells #[.int .i64 0, .int .i64 0, .slice none 0 0, .slice none 0 0] 51)).alloc (.cells #[.int .i64 f0.params, .int .i64 f0.vars, .slice E1 p1 o1, .slice E2 p2 o2] 51) = W0 at hb0 hx hy hfA ⊢
  clear hW
  go_loopw [6] (fun i wr => ∃ (k : Nat) (g : Fc) (B1 : Option Addr) (m1 d1 : Nat) (B2 : Option Addr) (m2 d2 : Nat), Hid (1 ≤ k) ∧ k ≤ n ∧ i = .int .i64 k ∧ Hid (g ∈ fs ∧ (sitesL g).length = mostS (fs.take k)) ∧ Keep wr w.heap.size #[.int .i64 0, .int .i64 0, .slice none 0 0, .slice none 0 0] 51 ∧ Keep wr (w.heap.size + 1) #[.int .i64 g.params, .int .i64 g.vars, .slice B1 m1 d1, .slice B2 m2 d2] 51 ∧ Hid (IsFc wr w.heap.size g B1 m1 B2 m2) ∧ Below w.heap.size w wr) (fun i _ => n - (intOf i).toNat)
  case atStart => exact ⟨1, f0, E1, p1, o1, E2, p2, o2, put (Nat.le_refl _), hn1.out, rfl, put ⟨HIN.out, HM1.out⟩, hx, hy, hfA, hb0⟩
  case round =>
    clear hx hy hfA hb0 HM1 HIN
    obtain ⟨k, g, B1, m1, d1, B2, m2, d2, hk1, hk, rfl, hgm, hkx, hky, hgf, hbel⟩ := hrel
    have y0 := hky.cell 0
    have y1 := hky.cell 1
    have y2 := hky.cell 2
    have y3 := hky.cell 3
    simp at y0 y1 y2 y3
    by_cases hlt : k < n
    · obtain ⟨b, off, f, D1, v1, e1, D2, v2, e2, hA, hb, g0, g1, g2, g3, r1, r2, hfx⟩ := (hr.below hbel).at_ hlt
      injection hA with hA
      injection hA with hA1 hA2 _
      subst hA1 hA2
      have hbw : b0 < wr.heap.size := by have := hbel.size; omega
      have HT := put (mostS_take hfx.out)
      have HFI := put (mem_of_at hfx.out)
      have hfw : IsFc wr w.heap.size f D1 v1 D2 v2 := IsFc.mk r1 r2
      have hsize := hbel.size
      have H1 := put (compareSites_any f D1 v1 e1 D2 v2 e2 g B1 m1 d1 B2 m2 d2 wr.drew ((hfw.more hsize).now ((Below.refl _ wr).drew)) (HS.out.2 _ HFI.out) (prog_go HG.out HFI.out) ((hgf.out.more hsize).now ((Below.refl _ wr).drew)) (HS.out.2 _ hgm.out.1) (prog_go HG.out hgm.out.1))
      unfold fcV at H1
      have HFW := put hfw
      clear r1 r2 hfx hfw
      go_wp2
      go_region_law (first
        | (go_simp; go_at_call 26; refine H1.out.mono ?_; rintro e w2 ⟨rfl, hb2⟩)
        | fail)
      all_goals (
        have hb2' : Below wr.heap.size wr w2 := (Below.refl _ wr).drew.trans hb2
        have b2 := hbel.trans (hb2'.mono hbel.size)
        have kx2 := hkx.below hb2'
        have ky2 := hky.below hb2'
        replace g0 := (hb2'.cell (p := ⟨b0, off0 + k * 4, none⟩) hbw).trans g0
        replace g1 := (hb2'.cell (p := ⟨b0, off0 + k * 4 + 1, none⟩) hbw).trans g1
        replace g2 := (hb2'.cell (p := ⟨b0, off0 + k * 4 + 2, none⟩) hbw).trans g2
        replace g3 := (hb2'.cell (p := ⟨b0, off0 + k * 4 + 3, none⟩) hbw).trans g3
        have HF2 := put (HFW.out.below (hb2'.mono hsize))
        have HG2 := put (hgf.out.below (hb2'.mono hsize))
        clear H1 hb2 hb2' hkx hky hbel y0 y1 y2 y3 HFW hgf
        have y0 := ky2.cell 0
        have y1 := ky2.cell 1
        have y2 := ky2.cell 2
        have y3 := ky2.cell 3
        simp at y0 y1 y2 y3
        have f0' := ky2.frozen 0
        have f1' := ky2.frozen 1
        have f2' := ky2.frozen 2
        have f3' := ky2.frozen 3
        by_cases hgt : (sitesL g).length < (sitesL f).length
        · have hc := cmpI_pos hgt
          rw [hc]
          have HM := put (show (sitesL f).length = mostS (fs.take (k + 1)) by rw [HT.out, ← hgm.out.2]; omega)
          clear hgt hc
          go_wp2
          go_roundw
          case rel =>
            refine ⟨k + 1, f, D1, v1, e1, D2, v2, e2, put (by omega), by omega, by go_num, put ⟨HFI.out, HM.out⟩, (((kx2.other (by omega) _ _).other (by omega) _ _).other (by omega) _ _).other (by omega) _ _, (((ky2.set 0 _).set 1 _).set 2 _).set 3 _, ?_, ?_⟩
            · exact put (HF2.out.below (((((Below.refl _ w2).setCell (by simp) _).setCell (by simp) _).setCell (by simp) _).setCell (by simp) _))
            · exact b2.trans (((((Below.refl _ w2).setCell (by simp) _).setCell (by simp) _).setCell (by simp) _).setCell (by simp) _)
          case measure => simp [intOf]; omega
        · have hc := cmpI_not hgt
          have HM := put (show (sitesL g).length = mostS (fs.take (k + 1)) by rw [HT.out, ← hgm.out.2]; omega)
          generalize cmpI ((sitesL f).length : Int) ((sitesL g).length : Int) = cv at hc ⊢
          clear hgt
          go_wp2
          go_roundw
          case rel => exact ⟨k + 1, g, B1, m1, d1, B2, m2, d2, put (by omega), by omega, by go_num, put ⟨hgm.out.1, HM.out⟩, kx2, ky2, HG2, b2⟩
          case measure => simp [intOf]; omega)
    · have hfin := put (show fs.take k = fs from List.take_of_length_le (by have := HL.out; omega))
      have x0 := hkx.cell 0
      have x1 := hkx.cell 1
      have x2 := hkx.cell 2
      have x3 := hkx.cell 3
      simp at x0 x1 x2 x3
      have f0' := hkx.frozen 0
      have f1' := hkx.frozen 1
      have f2' := hkx.frozen 2
      have f3' := hkx.frozen 3
      go_wp2
      refine bodyPost_ret (results_cell_row rfl _ _ w.heap.size 51 #[.int .i64 g.params, .int .i64 g.vars, .slice B1 m1 d1, .slice B2 m2 d2] (0, 0) _ rfl ((((hkx.set 0 _).set 1 _).set 2 _).set 3 _) Try.underlying51 rfl rfl) rfl ?_
      refine ⟨g, B1, m1, d1, B2, m2, d2, rfl, put ⟨hgm.out.1, by rw [hgm.out.2, hfin.out]⟩, ?_, ?_⟩
      · exact hgf.out.below (((((Below.refl _ wr).setCell (by simp) _).setCell (by simp) _).setCell (by simp) _).setCell (by simp) _)
      · exact hbel.trans (((((Below.refl _ wr).setCell (by simp) _).setCell (by simp) _).setCell (by simp) _).setCell (by simp) _)

set_option maxHeartbeats 1000000 in
set_option maxRecDepth 100000 in
theorem ticksFor_any (A : Option Addr) (n c : Nat) (fs : List Fc) (fuel : Int) (w : World) (hr : ReadsF w w.heap.size A n fs) (hs : SmallP fs) :
    Calls Try.prog 13 #[.agg #[.slice A n c], .int .i64 fuel] w fun e w' => e = .returned (.tuple #[.int .i64 (tfAns fs fuel).1, .bool (tfAns fs fuel).2]) ∧ Below w.heap.size w w' := by
  have hb0 : Below w.heap.size w (w.alloc (.cells #[.slice A n c] 39)) := (Below.refl _ _).alloc (Nat.le_refl _) _
  have hk0 := Keep.new w #[.slice A n c] 39
  have hl2 : n ≤ 1048576 := by rw [← hr.1]; exact hs.1
  have HS := put hs
  by_cases h0 : fuel < 0
  · have hf := put (tf_no (fs := fs) (fuel := fuel) (by omega))
    clear hr hs
    go_enter Try.func13, Try.ntmps13
    go_wp2
    go_ret2
    exact ⟨by rw [hf.out]; rfl, hb0⟩
  by_cases h1 : fuel > 600
  · have hf := put (tf_no (fs := fs) (fuel := fuel) (by omega))
    have h2 : 600 < fuel := h1
    clear hr hs h1
    go_enter Try.func13, Try.ntmps13
    go_wp2
    go_ret2
    exact ⟨by rw [hf.out]; rfl, hb0⟩
  have h2 : ¬ 600 < fuel := h1
  clear hs h1
  go_enter Try.func13, Try.ntmps13
  go_wp2_with fail
  refine (goodProg_any A n c fs _ (hr.now hb0) HS.out).mono ?_
  rintro e w1 ⟨rfl, hb1⟩
  have b1 : Below w.heap.size w w1 := hb0.trans (hb1.mono hb0.size)
  have k1 := hk0.below hb1
  have y := k1.cell 0
  simp at y
  clear hb0 hk0 hb1
  cases hg : progB fs with
  | false =>
    have hf := put (tf_no (fs := fs) (fuel := fuel) (by rw [hg]; simp))
    clear hg
    go_wp2
    go_ret2
    exact ⟨by rw [hf.out]; rfl, b1⟩
  | true =>
    have HY := put (tf_yes (fs := fs) (fuel := fuel) ⟨hg, by omega, by omega⟩)
    have HG := put hg
    clear hg
    have HMF := put (maxFunc_any A n c fs w1 (hr.now b1) HS.out HG.out)
    go_wp2_with (go_at_call 25; refine HMF.out.mono ?_; rintro e w2 ⟨g, B1, m1, d1, B2, m2, d2, rfl, hgm, hgf, hb2⟩)
    have b2 := b1.trans (hb2.mono b1.size)
    have hkg := Keep.new w2 #[.int .i64 g.params, .int .i64 g.vars, .slice B1 m1 d1, .slice B2 m2 d2] 51
    have b3 := b2.alloc b2.size (.cells #[.int .i64 g.params, .int .i64 g.vars, .slice B1 m1 d1, .slice B2 m2 d2] 51)
    have HSI := put (sitesIn_any g B1 m1 d1 B2 m2 d2 _ ((hgf.more hb2.size).now ((Below.refl _ w2).alloc (Nat.le_refl _) (.cells #[.int .i64 g.params, .int .i64 g.vars, .slice B1 m1 d1, .slice B2 m2 d2] 51))) (HS.out.2 _ hgm.out.1) (prog_go HG.out hgm.out.1))
    have hm16 := prog_sites HG.out hgm.out.1
    rw [hgm.out.2] at hm16
    have HGM := put hgm.out.2
    unfold fcV at HSI
    have z0 := hkg.cell 0
    have z1 := hkg.cell 1
    have z2 := hkg.cell 2
    have z3 := hkg.cell 3
    simp at z0 z1 z2 z3
    clear HMF hgf hb2 y k1 hkg hgm
    go_wp2_with fail
    refine HSI.out.mono ?_
    rintro e w4 ⟨v, rfl, nu, hb4⟩
    have b4 := b3.trans (hb4.mono b3.size)
    obtain ⟨Av, cv, rfl, _⟩ := nu.reads
    rw [HGM.out]
    obtain ⟨M, hM⟩ : ∃ M : Nat, mostS fs = M := ⟨_, rfl⟩
    rw [hM] at HY hm16 ⊢
    have hroom := tf_room (fuel := fuel) hm16 (by omega) (by omega)
    obtain ⟨T, hT⟩ : ∃ T : Int, (fuel + 1) * (30 + (M : Int)) = T := ⟨_, rfl⟩
    have hw1 : IntKind.i64.wrap (fuel + 1) = fuel + 1 := IntWalk.i64_in _ ⟨by omega, by omega⟩
    have hw2 : IntKind.i64.wrap (30 + (M : Int)) = 30 + (M : Int) := IntWalk.i64_in _ ⟨by omega, by omega⟩
    have hw3 : IntKind.i64.wrap ((fuel + 1) * (30 + (M : Int))) = T := by rw [IntWalk.i64_in _ ⟨by omega, by omega⟩, hT]
    rw [hT] at HY hroom
    clear HSI z0 z1 z2 z3 nu hb4 b3 HGM hM hT
    by_cases hbig : T > 60000
    · rw [if_pos hbig] at HY
      have hbig2 : 60000 < T := hbig
      go_wp2
      go_ret2
      exact ⟨by rw [HY.out]; rfl, b4⟩
    · rw [if_neg hbig] at HY
      have hbig2 : ¬ 60000 < T := hbig
      go_wp2
      go_ret2
      exact ⟨by rw [HY.out]; rfl, b4⟩

end Go.Proofs.Ytaogdaoiijmmhaa

/-
  The program's GoodProg: its contract.
-/
import Derived.Test.YtaogdaoiijmmhaaShape
namespace Go.Proofs.Ytaogdaoiijmmhaa
open Go.RowKit Exs

def funcB (ps : List Int) (f : Fc) : Bool := shapeB f && (exprsB f ps && putsB f ps)
def progB (fs : List Fc) : Bool := decide (1 ≤ fs.length ∧ fs.length ≤ 5) && decide ((paramsL fs).getD 0 0 = 0) && fs.all (funcB (paramsL fs))
theorem shape_pos {f : Fc} (h : shapeB f = true) : ∀ s ∈ f.stmts, s.kind = 3 → 0 ≤ s.n := by
  intro s hs _
  simp only [shapeB, Bool.and_eq_true, List.all_eq_true] at h
  have := (fieldsB_iff s f.vars).1 (h.1.1.2 s hs)
  omega

set_option maxHeartbeats 2000000 in
set_option maxRecDepth 100000 in
theorem goodProg_any (A : Option Addr) (n c : Nat) (fs : List Fc) (w : World) (hr : ReadsF w w.heap.size A n fs) (hs : SmallP fs) :
    Calls Try.prog 24 #[.agg #[.slice A n c]] w fun e w' => e = .returned (.bool (progB fs)) ∧ Below w.heap.size w w' := by
  have hl := hr.1
  have hl2 : n ≤ 1048576 := by rw [← hl]; exact hs.1
  have hb0 : Below w.heap.size w (w.alloc (.cells #[.slice A n c] 39)) := (Below.refl _ _).alloc (Nat.le_refl _) _
  have hk0 := Keep.new w #[.slice A n c] 39
  by_cases hn : 1 ≤ n ∧ n ≤ 5
  · obtain ⟨hn1, hn5⟩ := hn
    obtain ⟨b0, off0, f0, E1, p1, o1, E2, p2, o2, hA0, hbb0, c0, c1, c2, c3, _, _, hx0⟩ := hr.at_ (j := 0) (by omega)
    subst hA0
    simp only [Nat.zero_mul, Nat.add_zero] at c0 c1 c2 c3
    have hc0 := (hb0.cell (p := ⟨b0, off0, none⟩) hbb0).trans c0
    have hp0 : (paramsL fs).getD 0 0 = f0.params := by simp [paramsL, List.getD, hx0.out]
    by_cases hz : f0.params = 0
    · have HH := put (show progB fs = fs.all (funcB (paramsL fs)) by unfold progB; rw [hl, hp0, hz]; simp [hn1, hn5])
      have HL := put hl
      rw [hz] at hc0
      clear hl hp0 hx0 c0 c1 c2 c3
      go_enter Try.func24, Try.ntmps24
      go_wp2_with fail
      refine (paramsIn_any _ n c fs _ (hr.now hb0) hl2).mono ?_
      rintro e W1 ⟨gp, rfl, hgp, hroom, hb1⟩
      have hbW1 : Below w.heap.size w W1 := hb0.trans (hb1.mono hb0.size)
      have hkW1 := hk0.below hb1
      have hps := hroom.reads (by simp [paramsL, HL.out])
      have y0 := hkW1.cell 0
      simp at y0
      clear hk0 hb0 hc0 hb1
      go_wp2
      go_loopw [29] (fun i wr => ∃ k : Nat, k ≤ n ∧ i = .int .i64 k ∧ Hid ((fs.take k).all (funcB (paramsL fs)) = true) ∧ Below W1.heap.size W1 wr) (fun i _ => n - (intOf i).toNat)
      case atStart => exact ⟨0, Nat.zero_le _, rfl, put (by simp), Below.refl _ _⟩
      case round =>
        obtain ⟨k, hk, rfl, hall, hbel⟩ := hrel
        have hbw : Below w.heap.size w wr := hbW1.trans (hbel.mono hbW1.size)
        by_cases hlt : k < n
        · obtain ⟨b, off, f, B1, m1, d1, B2, m2, d2, hA, hb, g0, g1, g2, g3, r1, r2, hx⟩ := (hr.below hbw).at_ hlt
          injection hA with hA
          injection hA with hA1 hA2 _
          subst hA1 hA2
          have hsf := hs.2 _ (mem_of_at hx.out)
          have hbA := hbel.alloc hbel.size (.cells #[.int .i64 f.params, .int .i64 f.vars, .slice B1 m1 d1, .slice B2 m2 d2] 51)
          have hkA := Keep.new wr #[.int .i64 f.params, .int .i64 f.vars, .slice B1 m1 d1, .slice B2 m2 d2] 51
          have hfA : IsFc _ _ f B1 m1 B2 m2 := (IsFc.more ⟨r1, r2⟩ hbw.size).now ((Below.refl _ wr).alloc (Nat.le_refl _) (.cells #[.int .i64 f.params, .int .i64 f.vars, .slice B1 m1 d1, .slice B2 m2 d2] 51))
          have hpA := hps.now hbA
          go_wp2_with fail
          refine (goodShape_any f B1 m1 d1 B2 m2 d2 _ hfA hsf).mono ?_
          rintro e W2 ⟨rfl, hb2⟩
          have hbA2 : Below W1.heap.size W1 W2 := hbA.trans (hb2.mono hbA.size)
          have hfA2 := hfA.now hb2
          have hpA2 := hpA.now hb2
          have hkA2 := hkA.below hb2
          have z0 := hkA2.cell 0
          have z1 := hkA2.cell 1
          have z2 := hkA2.cell 2
          have z3 := hkA2.cell 3
          simp at z0 z1 z2 z3
          have HX := put (fun h => all_no hx.out (p := funcB (paramsL fs)) h)
          have HY := put (fun h => all_more hx.out hall.out (p := funcB (paramsL fs)) h)
          have HFB := put (show funcB (paramsL fs) f = (shapeB f && (exprsB f (paramsL fs) && putsB f (paramsL fs))) from rfl)
          clear g0 g1 g2 g3 r1 r2 hfA hpA hkA hb2 hx hall
          cases hsh : shapeB f with
          | false =>
            have hn := put (HX.out (by rw [HFB.out, hsh]; rfl))
            clear hsh HX HY HFB
            go_wp2
            go_ret
            exact ⟨ret_bool (HH.out.trans hn.out).symm, hbW1.trans (hbA2.mono hbW1.size)⟩
          | true =>
            have hpos := shape_pos hsh
            go_wp2_with fail
            refine (goodExprs_any f B1 m1 d1 B2 m2 d2 _ n n (paramsL fs) _ hfA2 hsf hpA2 hl2).mono ?_
            rintro e W3 ⟨rfl, hb3⟩
            have hbA3 : Below W1.heap.size W1 W3 := hbA2.trans (hb3.mono hbA2.size)
            have hfA3 := hfA2.now hb3
            have hpA3 := hpA2.now hb3
            have hkA3 := hkA2.below hb3
            clear z0 z1 z2 z3
            have z0 := hkA3.cell 0
            have z1 := hkA3.cell 1
            have z2 := hkA3.cell 2
            have z3 := hkA3.cell 3
            simp at z0 z1 z2 z3
            cases hex : exprsB f (paramsL fs) with
            | false =>
              have hn := put (HX.out (by rw [HFB.out, hsh, hex]; rfl))
              clear hsh hex HX HY HFB hpos
              go_wp2
              go_ret
              exact ⟨ret_bool (HH.out.trans hn.out).symm, hbW1.trans (hbA3.mono hbW1.size)⟩
            | true =>
              go_wp2_with fail
              refine (goodPutsOff_any f B1 m1 d1 B2 m2 d2 _ n n (paramsL fs) _ hfA3 hsf hpA3 hpos).mono ?_
              rintro e W4 ⟨rfl, hb4⟩
              have hbA4 : Below W1.heap.size W1 W4 := hbA3.trans (hb4.mono hbA3.size)
              cases hpu : putsB f (paramsL fs) with
              | false =>
                have hn := put (HX.out (by rw [HFB.out, hsh, hex, hpu]; rfl))
                clear hsh hex hpu HX HY HFB hpos z0 z1 z2 z3
                go_wp2
                go_ret
                exact ⟨ret_bool (HH.out.trans hn.out).symm, hbW1.trans (hbA4.mono hbW1.size)⟩
              | true =>
                have hy := put (HY.out (by rw [HFB.out, hsh, hex, hpu]; rfl))
                clear hsh hex hpu HX HY HFB hpos z0 z1 z2 z3
                go_wp2
                go_roundw
                case rel => exact ⟨k + 1, by omega, by go_num, hy, hbA4⟩
                case measure => simp [intOf]; omega
        · have hfin := put (show fs.all (funcB (paramsL fs)) = true by have := hall.out; rwa [List.take_of_length_le (by rw [HL.out]; omega)] at this)
          go_wp2
          go_ret
          exact ⟨ret_bool (HH.out.trans hfin.out).symm, hbw⟩
    · have HH := put (show progB fs = false by unfold progB; rw [hp0]; simp [hz])
      have hz' := bne_of hz
      clear hl hp0 hx0 c0 c1 c2 c3
      go_enter Try.func24, Try.ntmps24
      go_wp2
      go_ret
      exact ⟨ret_bool HH.out.symm, hb0⟩
  · have HH := put (show progB fs = false by simp only [progB, hl]; simp [hn])
    clear hl
    rcases (show n < 1 ∨ (1 ≤ n ∧ 5 < n) by omega) with h | ⟨h, h5⟩
    · go_enter Try.func24, Try.ntmps24
      go_wp2
      go_ret
      exact ⟨ret_bool HH.out.symm, hb0⟩
    · go_enter Try.func24, Try.ntmps24
      go_wp2
      go_ret
      exact ⟨ret_bool HH.out.symm, hb0⟩

end Go.Proofs.Ytaogdaoiijmmhaa

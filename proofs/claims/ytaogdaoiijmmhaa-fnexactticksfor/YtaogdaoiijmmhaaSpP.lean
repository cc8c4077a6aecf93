/-
  The reference's GoodProg: its contract.
-/
import Derived.Test.YtaogdaoiijmmhaaSpF
import Derived.Deep.RegionLaw
namespace Go.Proofs.Ytaogdaoiijmmhaa
open Go.RowKit Exs

def freeOk (ps : List Int) (s : St) : Prop := s.kind = 3 → ps.getD s.n.toNat 0 = 0
def progP (fs : List Fc) : Prop := (1 ≤ fs.length ∧ fs.length ≤ 5) ∧ parB (paramsL fs) = true ∧ (paramsL fs).getD 0 0 = 0 ∧ ∀ f ∈ fs, funcP f (paramsL fs) ∧ ∀ s ∈ f.stmts, freeOk (paramsL fs) s
open Classical in
noncomputable def progS (fs : List Fc) : Bool := decide (progP fs)
theorem progS_iff (fs : List Fc) : progS fs = true ↔ progP fs := by unfold progS; exact @decide_eq_true_iff _ (Classical.propDecidable _)
theorem progS_no {fs : List Fc} (h : ¬ progP fs) : progS fs = false := by
  cases hB : progS fs with
  | false => rfl
  | true => exact absurd ((progS_iff fs).1 hB) h
theorem mem_sitesFrom {x : Int} : ∀ {ss : List St} {i : Nat}, x ∈ sitesFrom i ss ↔ ∃ (j : Nat) (s : St), ss[j]? = some s ∧ s.kind = 3 ∧ x = ((i + j : Nat) : Int)
  | [], i => by simp [sitesFrom]
  | s :: r, i => by
    have ih := mem_sitesFrom (x := x) (ss := r) (i := i + 1)
    have key : (∃ (j : Nat) (s' : St), (s :: r)[j]? = some s' ∧ s'.kind = 3 ∧ x = ((i + j : Nat) : Int)) ↔ (s.kind = 3 ∧ x = (i : Int)) ∨ ∃ (j : Nat) (s' : St), r[j]? = some s' ∧ s'.kind = 3 ∧ x = ((i + 1 + j : Nat) : Int) := by
      constructor
      · rintro ⟨j, s', h1, h2, h3⟩
        cases j with
        | zero => simp at h1; subst h1; exact .inl ⟨h2, by simpa using h3⟩
        | succ j => exact .inr ⟨j, s', by simpa using h1, h2, by rw [h3]; congr 1; omega⟩
      · rintro (⟨h1, h2⟩ | ⟨j, s', h1, h2, h3⟩)
        · exact ⟨0, s, rfl, h1, by simpa using h2⟩
        · exact ⟨j + 1, s', by simpa using h1, h2, by rw [h3]; congr 1; omega⟩
    rw [key, ← ih]
    simp only [sitesFrom]
    by_cases h : s.kind = 3 <;> simp [h]

set_option maxHeartbeats 2000000 in
set_option maxRecDepth 100000 in
theorem specGoodProg_any (A : Option Addr) (n c : Nat) (fs : List Fc) (w : World) (hr : ReadsF w w.heap.size A n fs) (hs : SmallP fs) :
    Calls Try.prog 19 #[.agg #[.slice A n c]] w fun e w' => e = .returned (.bool (progS fs)) ∧ Below w.heap.size w w' := by
  have hl := hr.1
  have hl2 : n ≤ 1048576 := by rw [← hl]; exact hs.1
  have hb0 : Below w.heap.size w (w.alloc (.cells #[.slice A n c] 39)) := (Below.refl _ _).alloc (Nat.le_refl _) _
  have hk0 := Keep.new w #[.slice A n c] 39
  cases hin : within (n : Int) 1 5 with
  | false =>
    have hf := put (progS_no (fs := fs) (fun h => by have := (within_iff (n : Int) 1 5).2 (by have := h.1; omega); rw [hin] at this; cases this))
    clear hl
    go_enter Try.func19, Try.ntmps19
    go_wp2_with (go_at_call 20; refine (l1In_any _ _ _ _).mono ?_; rintro e w' ⟨rfl, rfl⟩)
    go_ret
    exact ⟨ret_bool hf.out.symm, hb0⟩
  | true =>
    have hn := (within_iff _ _ _).1 hin
    have HL := put hl
    have hplen : (paramsL fs).length = n := by simp [paramsL, hl]
    obtain ⟨b0, off0, f0, E1, p1, o1, E2, p2, o2, hA0, hbb0, c0, c1, c2, c3, _, _, hx0⟩ := hr.at_ (j := 0) (by omega)
    subst hA0
    simp only [Nat.zero_mul, Nat.add_zero] at c0 c1 c2 c3
    have hp0 := put (show (paramsL fs).getD 0 0 = f0.params by simp [paramsL, List.getD, hx0.out])
    clear hl hx0 c1 c2 c3
    go_enter Try.func19, Try.ntmps19
    go_wp2_with (first | (go_at_call 20; refine (l1In_any _ _ _ _).mono ?_; rintro e w' ⟨rfl, rfl⟩) | fail)
    refine (l3Params_any _ n c fs _ (hr.now hb0) (by omega)).mono ?_
    rintro e W1 ⟨v, rfl, hnum, hb1⟩
    obtain ⟨Ap, cp, rfl, hrp⟩ := hnum.reads
    rw [hplen] at hrp ⊢
    have hbW1 : Below w.heap.size w W1 := hb0.trans (hb1.mono hb0.size)
    have hk1 := hk0.below hb1
    go_wp2_with fail
    refine (l2Params_any _ _ _ (paramsL fs) _ hrp hl2).mono ?_
    rintro e W2 ⟨rfl, rfl⟩
    have y0 := hk1.cell 0
    have q0 := (hbW1.cell (p := ⟨b0, off0, none⟩) hbb0).trans c0
    simp at y0
    clear hnum hrp hb1 hk0 hb0 c0
    cases hpb : parB (paramsL fs) with
    | false =>
      have hf := put (progS_no (fs := fs) (fun h => by rw [h.2.1] at hpb; cases hpb))
      clear hpb
      go_wp2
      go_ret
      exact ⟨ret_bool hf.out.symm, hbW1⟩
    | true =>
      by_cases hz : f0.params = 0
      · rw [hz] at q0
        have HP0 := put (hp0.out.trans hz)
        have HPB := put hpb
        clear hpb hp0
        go_wp2
        go_loopw [29] (fun i wr => ∃ k : Nat, k ≤ n ∧ i = .int .i64 k ∧ Hid (∀ f ∈ fs.take k, funcP f (paramsL fs) ∧ ∀ s ∈ f.stmts, freeOk (paramsL fs) s) ∧ Keep wr w.heap.size #[.slice (some ⟨b0, off0, none⟩) n c] 39 ∧ Below w.heap.size w wr) (fun i _ => n - (intOf i).toNat)
        case atStart => exact ⟨0, Nat.zero_le _, rfl, put (by simp), hk1, hbW1⟩
        case round =>
          clear hk1 hbW1 y0 q0
          obtain ⟨k, hk, rfl, hall, hkeep, hbel⟩ := hrel
          by_cases hlt : k < n
          · obtain ⟨b, off, f, B1, m1, d1, B2, m2, d2, hA, hb, g0, g1, g2, g3, r1, r2, hx⟩ := (hr.below hbel).at_ hlt
            injection hA with hA
            injection hA with hA1 hA2 _
            subst hA1 hA2
            have hsf := hs.2 _ (mem_of_at hx.out)
            have hbA := hbel.alloc hbel.size (.cells #[.int .i64 f.params, .int .i64 f.vars, .slice B1 m1 d1, .slice B2 m2 d2] 51)
            have hkA := Keep.new wr #[.int .i64 f.params, .int .i64 f.vars, .slice B1 m1 d1, .slice B2 m2 d2] 51
            have hkB := hkeep.alloc (.cells #[.int .i64 f.params, .int .i64 f.vars, .slice B1 m1 d1, .slice B2 m2 d2] 51)
            have hfA : IsFc _ _ f B1 m1 B2 m2 := (IsFc.more ⟨r1, r2⟩ hbel.size).now ((Below.refl _ wr).alloc (Nat.le_refl _) (.cells #[.int .i64 f.params, .int .i64 f.vars, .slice B1 m1 d1, .slice B2 m2 d2] 51))
            have HX := put (fun (h : ¬ (funcP f (paramsL fs) ∧ ∀ s ∈ f.stmts, freeOk (paramsL fs) s)) => progS_no (fs := fs) (fun hf => h (hf.2.2.2 f (mem_of_at hx.out))))
            have HY := put (show (funcP f (paramsL fs) ∧ ∀ s ∈ f.stmts, freeOk (paramsL fs) s) → ∀ f ∈ fs.take (k + 1), funcP f (paramsL fs) ∧ ∀ s ∈ f.stmts, freeOk (paramsL fs) s from fun h => by
              rw [takeA_more hx.out]; intro f' hf'; rcases List.mem_append.1 hf' with h' | h'; exact hall.out f' h'; simp at h'; subst h'; exact h)
            go_wp2
            have hrA := hr.now hbA
            generalize wr.alloc (.cells #[.int .i64 f.params, .int .i64 f.vars, .slice B1 m1 d1, .slice B2 m2 d2] 51) = WA at hbA hkA hkB hfA hrA ⊢
            have z0 := hkA.cell 0
            have z1 := hkA.cell 1
            have z2 := hkA.cell 2
            have z3 := hkA.cell 3
            have zp := hkB.cell 0
            simp at z0 z1 z2 z3 zp
            clear g0 g1 g2 g3 r1 r2 hall hkeep
            go_region_law (first
              | (go_simp; go_at_call 31; refine (l3Params_any _ n c fs WA.drew hrA (by omega)).mono ?_; rintro e W3 ⟨v3, rfl, hnum3, hb3⟩; obtain ⟨Aq, cq, rfl, hrq⟩ := hnum3.reads; rw [hplen] at hrq ⊢; have hkA3 := Keep.below (w := WA.drew) hkA hb3; have y0 := hkA3.cell 0; have y1 := hkA3.cell 1; have y2 := hkA3.cell 2; have y3 := hkA3.cell 3; simp at y0 y1 y2 y3)
              | (go_simp; go_at_call 32; refine (l3Func_any f B1 m1 d1 B2 m2 d2 Aq n cq (paramsL fs) W3 ((hfA.now ((Below.refl _ WA).drew)).now hb3) hsf hrq hl2).mono ?_; rintro e W4 ⟨rfl, hb4⟩))
            all_goals (
              have hbW3 : Below w.heap.size w W3 := hbA.drew.trans (hb3.mono hbA.size)
              have hbW4 : Below w.heap.size w W4 := hbW3.trans (hb4.mono hbW3.size)
              have hkA4 := hkA3.below hb4
              have hfA4 := ((hfA.now ((Below.refl _ WA).drew)).now hb3).now hb4
              have hkB4 := Keep.below (Keep.below (w := WA.drew) hkB hb3) hb4
              clear z0 z1 z2 z3 zp y0 y1 y2 y3 hkA3 hb3 hb4 hrq hnum3 hkA hkB hfA hrA
              have y0 := hkA4.cell 0
              have y1 := hkA4.cell 1
              have y2 := hkA4.cell 2
              have y3 := hkA4.cell 3
              simp at y0 y1 y2 y3
              cases hfn : funcS f (paramsL fs) with
              | false =>
                have hf := put (HX.out (fun h => by rw [(funcS_iff f (paramsL fs)).2 h.1] at hfn; cases hfn))
                clear hfn HX HY
                go_wp2
                go_ret
                exact ⟨ret_bool hf.out.symm, hbW4⟩
              | true =>
                have HFP := put ((funcS_iff f (paramsL fs)).1 hfn)
                clear hfn
                have hm16 : m2 ≤ 16 := by have := HFP.out.1; simp only [headB, decide_eq_true_eq] at this; rw [← hfA4.stmts.1]; omega
                go_wp2_with fail
                refine (l3Sites_any f B1 m1 d1 B2 m2 d2 W4 hfA4 (by omega)).mono ?_
                rintro e W5 ⟨vs, rfl, hnumS, hb5⟩
                obtain ⟨As, cs, rfl, hrs⟩ := hnumS.reads
                have hbW5 : Below w.heap.size w W5 := hbW4.trans (hb5.mono hbW4.size)
                have hkA5 := hkA4.below hb5
                have hkB5 := hkB4.below hb5
                have hfA5 := hfA4.now hb5
                have hsl : (sitesL f).length ≤ 16 := by have := sitesFrom_length f.stmts 0; rw [hfA4.stmts.1] at this; exact Nat.le_trans this hm16
                have HMEM := put (fun x (h : x ∈ sitesL f) => (mem_sitesFrom (i := 0)).1 h)
                have HMEM2 := put (fun j s (h1 : f.stmts[j]? = some s) (h2 : s.kind = 3) => (mem_sitesFrom (x := ((0 + j : Nat) : Int)) (ss := f.stmts) (i := 0)).2 ⟨j, s, h1, h2, rfl⟩)
                rw [show sitesFrom 0 f.stmts = sitesL f from rfl] at HMEM2
                generalize sitesL f = SL at hrs hsl HMEM HMEM2
                clear y0 y1 y2 y3 hkA4 hkB4 hfA4 hb5 hnumS
                go_wp2
                go_loopw [41] (fun i wz => ∃ j : Nat, j ≤ SL.length ∧ i = .int .i64 j ∧ Hid (∀ (i : Nat) (x : Int) (s : St), i < j → SL[i]? = some x → f.stmts[x.toNat]? = some s → (paramsL fs).getD s.n.toNat 0 = 0) ∧ Below W5.heap.size W5 wz) (fun i _ => SL.length - (intOf i).toNat)
                case atStart => exact ⟨0, Nat.zero_le _, rfl, put (fun i x s h => by omega), Below.refl _ _⟩
                case round =>
                  obtain ⟨j, hj, rfl, hfree, hbz⟩ := hrel
                  have hbz' : Below w.heap.size w wr := hbW5.trans (hbz.mono hbW5.size)
                  by_cases hltj : j < SL.length
                  · obtain ⟨b9, off9, x, hA9, hb9, hcx, hxx⟩ := (hrs.now hbz).at_ hltj
                    subst hA9
                    obtain ⟨y, s, hys, hk3, hxy⟩ := HMEM.out x (mem_of_at hxx.out)
                    rw [Nat.zero_add] at hxy
                    subst hxy
                    have hyl := (List.getElem?_eq_some_iff.1 hys).1
                    obtain ⟨b8, off8, t, D1, v1, e1, D2, v2, e2, D3, v3, e3, hA8, hb8, j0, j1, j2, j3, j4, k1, k2, k3, hx8⟩ := ((hfA5.now hbz).stmts).at_ (j := y) (by rw [← hfA5.stmts.1]; exact hyl)
                    subst hA8
                    obtain rfl : s = t := by have := hx8.out; rw [hys] at this; injection this
                    have hst := (HFP.out.2.2.2.2 s (mem_of_at hys)).1
                    simp only [stmtB, decide_eq_true_eq, stmtP, hk3, hplen] at hst
                    have hnr : 0 ≤ s.n ∧ s.n < (n : Int) := by omega
                    obtain ⟨z, hz9⟩ : ∃ z : Nat, s.n = z := ⟨s.n.toNat, by omega⟩
                    obtain ⟨b7, off7, fz, G1, w1, x1, G2, w2, x2, hA7, hb7, l0, l1, l2, l3, _, _, hx7⟩ := (hr.below hbz').at_ (j := z) (by omega)
                    injection hA7 with hA7
                    injection hA7 with hA71 hA72 _
                    subst hA71 hA72
                    rw [hz9] at j1
                    have hkA6 := hkA5.below hbz
                    have hkB6 := hkB5.below hbz
                    have q3 := hkA6.cell 3
                    have qp := hkB6.cell 0
                    simp at q3 qp
                    have hval := put (show (paramsL fs).getD s.n.toNat 0 = fz.params by rw [hz9]; simp [paramsL, List.getD, hx7.out])
                    have hzn : z < n := by omega
                    have hym : y < m2 := by rw [← hfA5.stmts.1]; exact hyl
                    have H3 := put hk3
                    clear hst hnr hz9 k1 k2 k3 j0 j2 j3 j4 l1 l2 l3 hk3
                    by_cases h0 : fz.params = 0
                    · rw [h0] at l0
                      have hfree2 := put (show ∀ (i : Nat) (x : Int) (s : St), i < j + 1 → SL[i]? = some x → f.stmts[x.toNat]? = some s → (paramsL fs).getD s.n.toNat 0 = 0 from fun i x s' hi hx hs' => by
                        by_cases hij : i < j
                        · exact hfree.out i x s' hij hx hs'
                        · obtain rfl : i = j := by omega
                          rw [hxx.out] at hx; injection hx with hx; subst hx
                          simp only [Int.toNat_natCast] at hs'
                          rw [hys] at hs'; injection hs' with hs'; subst hs'
                          exact hval.out.trans h0)
                      clear h0
                      go_wp2
                      go_quiet (fail)
                      go_wp2
                      go_roundw
                      case rel => exact ⟨j + 1, by omega, by go_num, hfree2, below_drewN hbz _⟩
                      case measure => simp [intOf]; omega
                    · have h0' := bne_of h0
                      have hf := put (HX.out (fun h => h0 (hval.out.symm.trans (h.2 s (mem_of_at hys) H3.out))))
                      go_wp2
                      go_quiet (fail)
                      go_wp2
                      go_ret
                      exact ⟨ret_bool hf.out.symm, below_drewN hbz' _⟩
                  · have hy := put (HY.out ⟨HFP.out, fun s hs h3 => by
                      obtain ⟨y, hy⟩ := List.getElem?_of_mem hs
                      have hm := HMEM2.out y s hy h3
                      obtain ⟨i, hi⟩ := List.getElem?_of_mem hm
                      exact hfree.out i _ s (by have := (List.getElem?_eq_some_iff.1 hi).1; omega) hi (by simpa using hy)⟩)
                    have hkB6 := hkB5.below hbz
                    go_wp2
                    go_roundw
                    case rel => exact ⟨k + 1, by omega, by go_num, hy, hkB6, hbz'⟩
                    case measure => simp [intOf]; omega)
          · have hf := put ((progS_iff fs).2 ⟨by rw [HL.out]; omega, HPB.out, HP0.out, by have := hall.out; rwa [List.take_of_length_le (by rw [HL.out]; omega)] at this⟩)
            go_wp2
            go_ret
            exact ⟨ret_bool hf.out.symm, hbel⟩
      · have hf := put (progS_no (fs := fs) (fun h => hz (hp0.out.symm.trans h.2.2.1)))
        have hz' := bne_of hz
        clear hpb hp0
        go_wp2
        go_ret
        exact ⟨ret_bool hf.out.symm, hbW1⟩

end Go.Proofs.Ytaogdaoiijmmhaa

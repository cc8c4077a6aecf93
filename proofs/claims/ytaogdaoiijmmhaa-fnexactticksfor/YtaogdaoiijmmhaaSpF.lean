/-
  The reference's test of a function: its contract.
-/
import Derived.Test.YtaogdaoiijmmhaaPEq3
import Derived.Test.YtaogdaoiijmmhaaSpS
import Derived.Test.YtaogdaoiijmmhaaShape
namespace Go.Proofs.Ytaogdaoiijmmhaa
open Go.RowKit Exs

/-- What the reference asks of a loop. -/
def loopOk (f : Fc) (s : St) : Prop := s.kind = 8 → ∀ x ∈ ord f f.stmts.length s.th, ∀ s', f.stmts[x.toNat]? = some s' → s'.kind ≠ 3
/-- What the reference asks of a function. -/
def funcP (f : Fc) (ps : List Int) : Prop :=
  headB f = true ∧ blocksOk f ∧ (sitesL f).length ≤ 4 ∧ ord f f.stmts.length f.body = run 0 f.stmts.length ∧ ∀ s ∈ f.stmts, stmtB f.vars ps s = true ∧ loopOk f s
open Classical in
noncomputable def funcS (f : Fc) (ps : List Int) : Bool := decide (funcP f ps)
theorem funcS_iff (f : Fc) (ps : List Int) : funcS f ps = true ↔ funcP f ps := by unfold funcS; exact @decide_eq_true_iff _ (Classical.propDecidable _)
theorem funcS_no {f : Fc} {ps : List Int} (h : ¬ funcP f ps) : funcS f ps = false := by
  cases hB : funcS f ps with
  | false => rfl
  | true => exact absurd ((funcS_iff f ps).1 hB) h

set_option maxHeartbeats 2000000 in
set_option maxRecDepth 100000 in
theorem l3Func_any (f : Fc) (A1 : Option Addr) (n1 c1 : Nat) (A2 : Option Addr) (n2 c2 : Nat) (A' : Option Addr) (m c' : Nat) (ps : List Int) (w : World) (hr : IsFc w w.heap.size f A1 n1 A2 n2) (hsm : SmallF f) (hp : Reads w w.heap.size .i64 A' m ps) (hm : m ≤ 1048576) :
    Calls Try.prog 32 #[fcV f A1 n1 c1 A2 n2 c2, .slice A' m c'] w fun e w' => e = .returned (.bool (funcS f ps)) ∧ Below w.heap.size w w' := by
  have hl := hr.stmts.1
  have hl2 : n2 ≤ 1048576 := by rw [← hl]; exact hsm.2.1
  have HB := put hr.body.1
  have hb0 : Below w.heap.size w (w.alloc (.cells #[.int .i64 f.params, .int .i64 f.vars, .slice A1 n1 c1, .slice A2 n2 c2] 51)) := (Below.refl _ _).alloc (Nat.le_refl _) _
  have hk0 := Keep.new w #[.int .i64 f.params, .int .i64 f.vars, .slice A1 n1 c1, .slice A2 n2 c2] 51
  have HN := put (show ¬ (0 ≤ f.params ∧ f.params ≤ 2 ∧ f.params ≤ f.vars ∧ f.vars ≤ 6 ∧ n2 ≤ 16) → funcS f ps = false from fun h => funcS_no (fun hf => by
    have := hf.1; simp only [headB, decide_eq_true_eq, hl] at this; exact h this))
  unfold fcV
  cases hin1 : within f.params 0 2 with
  | false =>
    have hf := put (HN.out (fun h => by have := (within_iff f.params 0 2).2 ⟨h.1, h.2.1⟩; rw [hin1] at this; cases this))
    clear HN
    go_enter Try.func32, Try.ntmps32
    go_wp2_with (go_at_call 20; refine (l1In_any _ _ _ _).mono ?_; rintro e w' ⟨rfl, rfl⟩)
    go_ret
    exact ⟨ret_bool hf.out.symm, hb0⟩
  | true =>
    have hp1 := (within_iff _ _ _).1 hin1
    cases hin2 : within f.vars f.params 6 with
    | false =>
      have hf := put (HN.out (fun h => by have := (within_iff f.vars f.params 6).2 ⟨h.2.2.1, h.2.2.2.1⟩; rw [hin2] at this; cases this))
      clear HN
      go_enter Try.func32, Try.ntmps32
      go_wp2_with (go_at_call 20; refine (l1In_any _ _ _ _).mono ?_; rintro e w' ⟨rfl, rfl⟩)
      go_ret
      exact ⟨ret_bool hf.out.symm, hb0⟩
    | true =>
      have hp2 := (within_iff _ _ _).1 hin2
      by_cases h16 : 16 < n2
      · have hf := put (HN.out (fun h => by omega))
        clear HN
        go_enter Try.func32, Try.ntmps32
        go_wp2_with (go_at_call 20; refine (l1In_any _ _ _ _).mono ?_; rintro e w' ⟨rfl, rfl⟩)
        go_ret
        exact ⟨ret_bool hf.out.symm, hb0⟩
      · have HH := put (show headB f = true by simp only [headB, decide_eq_true_eq, hl]; omega)
        have h16' : n2 ≤ 16 := by omega
        have HL := put hl
        clear HN hl
        go_enter Try.func32, Try.ntmps32
        go_wp2_with (first | (go_at_call 20; refine (l1In_any _ _ _ _).mono ?_; rintro e w' ⟨rfl, rfl⟩) | fail)
        refine (l3Blocks_any f A1 n1 c1 A2 n2 c2 _ (hr.now hb0) hsm h16').mono ?_
        rintro e W1 ⟨rfl, hb1⟩
        have hbW1 : Below w.heap.size w W1 := hb0.trans (hb1.mono hb0.size)
        have hk1 := hk0.below hb1
        have y0 := hk1.cell 0
        have y1 := hk1.cell 1
        have y2 := hk1.cell 2
        have y3 := hk1.cell 3
        simp at y0 y1 y2 y3
        clear hb1 hk0 hb0
        cases hbl : blocksB f with
        | false =>
          have hf := put (funcS_no (f := f) (ps := ps) (fun h => by rw [(blocksB_iff f).2 h.2.1] at hbl; cases hbl))
          clear hbl
          go_wp2
          go_ret
          exact ⟨ret_bool hf.out.symm, hbW1⟩
        | true =>
          have HBL := put ((blocksB_iff f).1 hbl)
          clear hbl
          go_wp2_with fail
          refine (l3Sites_any f A1 n1 c1 A2 n2 c2 _ (hr.now hbW1) (by omega)).mono ?_
          rintro e W2 ⟨vs, rfl, hnum, hb2⟩
          obtain ⟨As, cs, rfl, hrs⟩ := hnum.reads
          have hbW2 : Below w.heap.size w W2 := hbW1.trans (hb2.mono hbW1.size)
          have hk2 := hk1.below hb2
          have HS4 := put (sitesFrom_length f.stmts 0)
          have hsl : (sitesL f).length ≤ n2 := by have := HS4.out; rw [HL.out] at this; exact this
          clear y0 y1 y2 y3 hnum hrs
          have y0 := hk2.cell 0
          have y1 := hk2.cell 1
          have y2 := hk2.cell 2
          have y3 := hk2.cell 3
          simp at y0 y1 y2 y3
          by_cases h4 : 4 < (sitesL f).length
          · have hf := put (funcS_no (f := f) (ps := ps) (fun h => by have := h.2.2.1; omega))
            go_wp2
            go_ret
            exact ⟨ret_bool hf.out.symm, hbW2⟩
          · have h4' : (sitesL f).length ≤ 4 := by omega
            have HS := put h4'
            go_wp2_with fail
            have hfl := ord_length HBL.out
            rw [HL.out] at hfl
            refine (l3Order_any f A1 n1 c1 A2 n2 c2 (nest_of_blocks HBL.out) hsm HL.out f.stmts.length f.body A1 n1 c1 0 W2 (body_of_blocks HBL.out) (by omega) (hr.now hbW2) (hr.now hbW2).body (by rw [← HB.out]; exact hsm.1) (by rw [HL.out, hfl]; omega)).mono ?_
            rintro e W3 ⟨vo, rfl, hnumO, hb3⟩
            rw [HL.out] at hnumO
            have HRUN := put (show ord f n2 f.body ≠ run 0 n2 → funcS f ps = false from fun h => funcS_no (fun hf => h (by have := hf.2.2.2.1; rw [HL.out] at this; exact this)))
            have HDONE := put (show ord f n2 f.body = run 0 n2 → (∀ s ∈ f.stmts, stmtB f.vars ps s = true ∧ loopOk f s) → funcS f ps = true from fun h1 h2 => (funcS_iff f ps).2 ⟨HH.out, HBL.out, HS.out, by rw [HL.out]; exact h1, h2⟩)
            obtain ⟨Ao, co, rfl, hro⟩ := hnumO.reads
            generalize ord f n2 f.body = O at hro hfl HRUN HDONE
            rw [hfl] at hro ⊢
            have hbW3 : Below w.heap.size w W3 := hbW2.trans (hb3.mono hbW2.size)
            have hk3 := hk2.below hb3
            clear hnumO hb3 hb2 hk2 hk1 hbW2 hbW1 y0 y1 y2 y3
            have y3 := hk3.cell 3
            simp at y3
            have HFL := put hfl
            clear hfl
            go_wp2
            go_loopw [45] (fun i wr => ∃ k : Nat, k ≤ n2 ∧ i = .int .i64 k ∧ Hid (∀ (j : Nat) (x : Int), j < k → O[j]? = some x → x = j) ∧ wr = W3) (fun i _ => n2 - (intOf i).toNat)
            case atStart => exact ⟨0, Nat.zero_le _, rfl, put (fun j x h => by omega), rfl⟩
            case round =>
              obtain ⟨k, hk, rfl, hst, rfl⟩ := hrel
              by_cases hlt : k < n2
              · obtain ⟨b, off, x, hA, hb, hcx, hxx⟩ := hro.at_ hlt
                subst hA
                by_cases hxk : x = (k : Int)
                · subst hxk
                  have hst2 := put (show ∀ (j : Nat) (x : Int), j < k + 1 → O[j]? = some x → x = j from fun j x hj hx => by
                    by_cases hjk : j < k
                    · exact hst.out j x hjk hx
                    · obtain rfl : j = k := by omega
                      rw [hxx.out] at hx; injection hx with hx; exact hx.symm)
                  go_wp2
                  go_roundw
                  case rel => exact ⟨k + 1, by omega, by go_num, hst2, trivial⟩
                  case measure => simp [intOf]; omega
                · have hf := put (HRUN.out (fun h => hxk (by have := hxx.out; rw [h] at this; simp [run, hlt] at this; omega)))
                  have hxk' : ((k : Int) != x) = true := bne_of (fun h => hxk h.symm)
                  go_wp2
                  go_ret
                  exact ⟨ret_bool hf.out.symm, hbW3⟩
              · have HO := put (show O = run 0 n2 by have := run_of_steps (O := O) (fun j x hx => hst.out j x (by have := (List.getElem?_eq_some_iff.1 hx).1; rw [HFL.out] at this; omega) hx); rw [HFL.out] at this; exact this)
                clear hst
                go_wp2
                go_loopw [57] (fun i wq => ∃ k : Nat, k ≤ n2 ∧ i = .int .i64 k ∧ Hid (∀ s ∈ f.stmts.take k, stmtB f.vars ps s = true ∧ loopOk f s) ∧ Keep wq w.heap.size #[.int .i64 f.params, .int .i64 f.vars, .slice A1 n1 c1, .slice A2 n2 c2] 51 ∧ Below w.heap.size w wq) (fun i _ => n2 - (intOf i).toNat)
                case atStart => exact ⟨0, Nat.zero_le _, rfl, put (by simp), hk3, hbW3⟩
                case round =>
                  clear hk3 hbW3 y3 hro
                  obtain ⟨q, hq, rfl, hall, hkeep, hbel⟩ := hrel
                  by_cases hltq : q < n2
                  · obtain ⟨b, off, s, B1, m1, d1, B2, m2, d2, B3, m3, d3, hA, hb, g0, g1, g2, g3, g4, r1, r2, r3, hx⟩ := (hr.stmts.below hbel).at_ hltq
                    subst hA
                    have hsmS := hsm.2.2 _ (mem_of_at hx.out)
                    have HX := put (fun (h : ¬ (stmtB f.vars ps s = true ∧ loopOk f s)) => funcS_no (f := f) (ps := ps) (fun hf => h (hf.2.2.2.2 s (mem_of_at hx.out))))
                    have HY := put (show (stmtB f.vars ps s = true ∧ loopOk f s) → ∀ s ∈ f.stmts.take (q + 1), stmtB f.vars ps s = true ∧ loopOk f s from fun h => by
                      rw [takeA_more hx.out]; intro s' hs'; rcases List.mem_append.1 hs' with h' | h'; exact hall.out s' h'; simp at h'; subst h'; exact h)
                    have hbA := hbel.alloc hbel.size (.cells #[.int .i64 s.kind, .int .i64 s.n, .slice B1 m1 d1, .slice B2 m2 d2, .slice B3 m3 d3] 68)
                    have hkA := Keep.new wr #[.int .i64 s.kind, .int .i64 s.n, .slice B1 m1 d1, .slice B2 m2 d2, .slice B3 m3 d3] 68
                    have hkB := hkeep.alloc (.cells #[.int .i64 s.kind, .int .i64 s.n, .slice B1 m1 d1, .slice B2 m2 d2, .slice B3 m3 d3] 68)
                    have hst : IsSt _ _ s B1 m1 B2 m2 B3 m3 := (IsSt.more ⟨r1, r2, r3⟩ hbel.size).now ((Below.refl _ wr).alloc (Nat.le_refl _) (.cells #[.int .i64 s.kind, .int .i64 s.n, .slice B1 m1 d1, .slice B2 m2 d2, .slice B3 m3 d3] 68))
                    have z0 := hkB.cell 0
                    have z1 := hkB.cell 1
                    have z2 := hkB.cell 2
                    have z3 := hkB.cell 3
                    simp at z0 z1 z2 z3
                    have HXX := hx
                    have r2l := put r2.1
                    clear hall r1 r3
                    go_wp2_with fail
                    refine (l3Stmt_any f A1 n1 c1 (some ⟨b, off, none⟩) n2 c2 s B1 m1 d1 B2 m2 d2 B3 m3 d3 A' m c' ps _ hst hsmS (hp.now hbA) hm (by omega) (by omega)).mono ?_
                    rintro e W5 ⟨rfl, hb5⟩
                    have hbW5 : Below w.heap.size w W5 := hbA.trans (hb5.mono hbA.size)
                    have r2w := put ((r2.below (((Below.refl _ wr).alloc hbel.size _).trans (hb5.mono hbA.size))).more hbW5.size)
                    clear r2
                    have hkA5 := hkA.below hb5
                    have hkB5 := hkB.below hb5
                    clear z0 z1 z2 z3 g0 g1 g2 g3 g4 hst hkA hkB hb5 hbA hkeep
                    have p0 := hkA5.cell 0
                    have p3 := hkA5.cell 3
                    have z0 := hkB5.cell 0
                    have z1 := hkB5.cell 1
                    have z2 := hkB5.cell 2
                    have z3 := hkB5.cell 3
                    simp at p0 p3 z0 z1 z2 z3
                    cases hsb : stmtB f.vars ps s with
                    | false =>
                      have hf := put (HX.out (fun h => by rw [hsb] at h; cases h.1))
                      clear hsb HX HY
                      go_wp2
                      go_ret
                      exact ⟨ret_bool hf.out.symm, hbW5⟩
                    | true =>
                      by_cases h8 : s.kind = 8
                      · rw [h8] at p0
                        have HY2 := put (fun (h : loopOk f s) => HY.out ⟨hsb, h⟩)
                        have HX2 := put (fun (h : ¬ loopOk f s) => HX.out (fun hh => h hh.2))
                        have H8 := put h8
                        clear hsb HX HY h8
                        have hnest := nest_of_blocks HBL.out
                        have hTl := ord_th_length HBL.out HXX.out
                        have hm2 : m2 ≤ 1048576 := by have := hsmS.2.1; rw [r2l.out] at this; exact this
                        have hT := fun W hW hrd => l3Order_any f A1 n1 c1 (some ⟨b, off, none⟩) n2 c2 hnest hsm HL.out f.stmts.length s.th B2 m2 d2 (q + 1) W (fun z hz => by have := hnest q s HXX.out z (.inl hz); omega) (by omega) (hr.now hW) hrd hm2 (by rw [HL.out] at hTl ⊢; omega)
                        go_wp2_with fail
                        refine (hT W5 hbW5 r2w.out).mono ?_
                        rintro e W6 ⟨vt, rfl, hnumT, hb6⟩
                        rw [HL.out] at hnumT hTl
                        have HLO := put (show loopOk f s ↔ ∀ x ∈ ord f n2 s.th, ∀ s', f.stmts[x.toNat]? = some s' → s'.kind ≠ 3 by unfold loopOk; rw [HL.out]; exact ⟨fun h => h H8.out, fun h _ => h⟩)
                        have HTR := put (show ∀ x ∈ ord f n2 s.th, 0 ≤ x ∧ x < (n2 : Int) by
                          have := (ord_count hnest 0 f.stmts.length s.th (q + 1) (fun z hz => by have := hnest q s HXX.out z (.inl hz); omega) (by omega)).2
                          rw [HL.out] at this; exact this)
                        obtain ⟨At, ct, rfl, hrt⟩ := hnumT.reads
                        generalize ord f n2 s.th = T at hrt hTl HLO HTR
                        have hbW6 : Below w.heap.size w W6 := hbW5.trans (hb6.mono hbW5.size)
                        have hkB6 := hkB5.below hb6
                        clear hnumT hb6 hkA5 hkB5 p0 p3 z0 z1 z2 z3 hT
                        have z3 := hkB6.cell 3
                        simp at z3
                        go_wp2
                        go_loopw [74] (fun i wz => ∃ j : Nat, j ≤ T.length ∧ i = .int .i64 j ∧ Hid (∀ (i : Nat) (x : Int) (s' : St), i < j → T[i]? = some x → f.stmts[x.toNat]? = some s' → s'.kind ≠ 3) ∧ wz = W6) (fun i _ => T.length - (intOf i).toNat)
                        case atStart => exact ⟨0, Nat.zero_le _, rfl, put (fun i x s' h => by omega), rfl⟩
                        case round =>
                          obtain ⟨j, hj, rfl, hok, rfl⟩ := hrel
                          by_cases hltj : j < T.length
                          · obtain ⟨b9, off9, x, hA9, hb9, hcx, hxx⟩ := hrt.at_ hltj
                            subst hA9
                            have hxr := HTR.out x (mem_of_at hxx.out)
                            obtain ⟨y, rfl⟩ : ∃ y : Nat, x = y := ⟨x.toNat, by omega⟩
                            obtain ⟨b8, off8, t, D1, o1, e1, D2, o2, e2, D3, o3, e3, hA8, hb8, j0, j1, j2, j3, j4, k1, k2, k3, hx8⟩ := (hr.stmts.below hbW6).at_ (j := y) (by omega)
                            injection hA8 with hA8
                            injection hA8 with hA81 hA82 _
                            subst hA81 hA82
                            by_cases h3 : t.kind = 3
                            · have hf := put (HX2.out (fun h => (HLO.out.1 h) _ (mem_of_at hxx.out) t (by simpa using hx8.out) h3))
                              rw [h3] at j0
                              clear k1 k2 k3 h3
                              go_wp2
                              go_ret
                              exact ⟨ret_bool hf.out.symm, hbW6⟩
                            · have h3' := beq_of h3
                              have hok2 := put (show ∀ (i : Nat) (x : Int) (s' : St), i < j + 1 → T[i]? = some x → f.stmts[x.toNat]? = some s' → s'.kind ≠ 3 from fun i x s' hi hx hs' => by
                                by_cases hij : i < j
                                · exact hok.out i x s' hij hx hs'
                                · obtain rfl : i = j := by omega
                                  rw [hxx.out] at hx; injection hx with hx; subst hx
                                  simp only [Int.toNat_natCast] at hs'
                                  rw [hx8.out] at hs'; injection hs' with hs'; subst hs'; exact h3)
                              clear k1 k2 k3
                              go_wp2
                              go_roundw
                              case rel => exact ⟨j + 1, by omega, by go_num, hok2, trivial⟩
                              case measure => simp [intOf]; omega
                          · have hy := put (HY2.out (HLO.out.2 (fun x hx s' hs' => by
                              obtain ⟨i, hi⟩ := List.getElem?_of_mem hx
                              exact hok.out i x s' (by have := (List.getElem?_eq_some_iff.1 hi).1; omega) hi hs')))
                            go_wp2
                            go_roundw
                            case rel => exact ⟨q + 1, by omega, by go_num, hy, hkB6, hbW6⟩
                            case measure => simp [intOf]; omega
                      · have h8' := bne_of h8
                        have hy := put (HY.out ⟨hsb, fun h => absurd h h8⟩)
                        clear hsb HX HY
                        go_wp2
                        go_roundw
                        case rel => exact ⟨q + 1, by omega, by go_num, hy, hkB5, hbW5⟩
                        case measure => simp [intOf]; omega
                  · have hf := put (HDONE.out HO.out (by have := hall.out; rwa [List.take_of_length_le (by rw [HL.out]; omega)] at this))
                    go_wp2
                    go_ret
                    exact ⟨ret_bool hf.out.symm, hbel⟩

end Go.Proofs.Ytaogdaoiijmmhaa

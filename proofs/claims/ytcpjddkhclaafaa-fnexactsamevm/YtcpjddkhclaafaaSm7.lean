/-
  Whether machines are the same: the reference's SameVm.
-/
import Derived.Test.YtcpjddkhclaafaaSm5
namespace Go.Proofs.Ytcpjddkhclaafaa
open Go.RowKit Go.Deep Exs

set_option maxHeartbeats 40000000 in
set_option maxRecDepth 100000 in
theorem specSameVm_x (used code value made used' code' value' made' : Int) (frames frames' : List Fr) (trace trace' : List Int) (notes notes' : List Row3) (A1 : Option Addr) (n1 c1 : Nat) (A2 : Option Addr) (n2 c2 : Nat) (A3 : Option Addr) (n3 c3 : Nat) (B1 : Option Addr) (m1 d1 : Nat) (B2 : Option Addr) (m2 d2 : Nat) (B3 : Option Addr) (m3 d3 : Nat) (w : World) (r1 : ReadsFr w w.heap.size A1 n1 frames) (r2 : Reads w w.heap.size .i64 A2 n2 trace) (r3 : ReadsR w w.heap.size A3 n3 notes) (s1 : ReadsFr w w.heap.size B1 m1 frames') (s2 : Reads w w.heap.size .i64 B2 m2 trace') (s3 : ReadsR w w.heap.size B3 m3 notes') (l1 : n1 ≤ 1048576) (l2 : n2 ≤ 1048576) (l3 : n3 ≤ 1048576) (l1' : m1 ≤ 1048576) (l2' : m2 ≤ 1048576) (l3' : m3 ≤ 1048576) (q1 : ∀ x ∈ frames, SmallFr x) (q1' : ∀ x ∈ frames', SmallFr x) :
    Calls Try.prog 14 #[.agg #[.slice A1 n1 c1, .slice A2 n2 c2, .int .i64 used, .int .i64 code, .int .i64 value, .int .i64 made, .slice A3 n3 c3], .agg #[.slice B1 m1 d1, .slice B2 m2 d2, .int .i64 used', .int .i64 code', .int .i64 value', .int .i64 made', .slice B3 m3 d3]] w fun e w' => e = .returned (.bool (decide ((⟨frames, trace, used, code, value, made, notes⟩ : Mc) = (⟨frames', trace', used', code', value', made', notes'⟩ : Mc)))) ∧ Below w.heap.size w w' := by
  have R1 := put r1
  have S1 := put s1
  have R2 := put r2
  have S2 := put s2
  have R3 := put r3
  have S3 := put s3
  clear r1 r2 r3 s1 s2 s3
  have hb0 : Below w.heap.size w ((w.alloc (.cells #[.slice A1 n1 c1, .slice A2 n2 c2, .int .i64 used, .int .i64 code, .int .i64 value, .int .i64 made, .slice A3 n3 c3] 35)).alloc (.cells #[.slice B1 m1 d1, .slice B2 m2 d2, .int .i64 used', .int .i64 code', .int .i64 value', .int .i64 made', .slice B3 m3 d3] 35)) := ((Below.refl _ _).alloc (Nat.le_refl _) _).alloc (by simp) _
  have hx0 : Keep ((w.alloc (.cells #[.slice A1 n1 c1, .slice A2 n2 c2, .int .i64 used, .int .i64 code, .int .i64 value, .int .i64 made, .slice A3 n3 c3] 35)).alloc (.cells #[.slice B1 m1 d1, .slice B2 m2 d2, .int .i64 used', .int .i64 code', .int .i64 value', .int .i64 made', .slice B3 m3 d3] 35)) w.heap.size #[.slice A1 n1 c1, .slice A2 n2 c2, .int .i64 used, .int .i64 code, .int .i64 value, .int .i64 made, .slice A3 n3 c3] 35 := (Keep.new _ _ _).alloc _
  have hy0 : Keep ((w.alloc (.cells #[.slice A1 n1 c1, .slice A2 n2 c2, .int .i64 used, .int .i64 code, .int .i64 value, .int .i64 made, .slice A3 n3 c3] 35)).alloc (.cells #[.slice B1 m1 d1, .slice B2 m2 d2, .int .i64 used', .int .i64 code', .int .i64 value', .int .i64 made', .slice B3 m3 d3] 35)) (w.heap.size + 1) #[.slice B1 m1 d1, .slice B2 m2 d2, .int .i64 used', .int .i64 code', .int .i64 value', .int .i64 made', .slice B3 m3 d3] 35 := by
    have := Keep.new (w.alloc (.cells #[.slice A1 n1 c1, .slice A2 n2 c2, .int .i64 used, .int .i64 code, .int .i64 value, .int .i64 made, .slice A3 n3 c3] 35)) #[.slice B1 m1 d1, .slice B2 m2 d2, .int .i64 used', .int .i64 code', .int .i64 value', .int .i64 made', .slice B3 m3 d3] 35
    rw [World.size_alloc] at this
    exact this
  by_cases hn1 : n1 = m1
  · subst hn1
    by_cases hn3 : n3 = m3
    · subst hn3
      go_enter Try.func14, Try.ntmps14
      go_wp2
      generalize hW : (w.alloc (.cells #[.slice A1 n1 c1, .slice A2 n2 c2, .int .i64 used, .int .i64 code, .int .i64 value, .int .i64 made, .slice A3 n3 c3] 35)).alloc (.cells #[.slice B1 n1 d1, .slice B2 m2 d2, .int .i64 used', .int .i64 code', .int .i64 value', .int .i64 made', .slice B3 n3 d3] 35) = W0 at hb0 hx0 hy0 ⊢
      clear hW
      go_loopw [26] (fun i wr => ∃ k : Nat, k ≤ n1 ∧ i = .int .i64 k ∧ Below W0.heap.size W0 wr ∧ Hid (frames.take k = frames'.take k)) (fun i _ => n1 - (intOf i).toNat)
      case atStart => exact ⟨0, Nat.zero_le _, rfl, Below.refl _ _, put rfl⟩
      case round =>
        obtain ⟨k, hk, rfl, hbr, hs⟩ := hrel
        have hxr := hx0.below hbr
        have hyr := hy0.below hbr
        have hbw : Below w.heap.size w wr := hb0.trans (hbr.mono hb0.size)
        have x0 := hxr.cell 0
        have y0 := hyr.cell 0
        have x1 := hxr.cell 1
        have y1 := hyr.cell 1
        have x2 := hxr.cell 2
        have y2 := hyr.cell 2
        have x3 := hxr.cell 3
        have y3 := hyr.cell 3
        have x4 := hxr.cell 4
        have y4 := hyr.cell 4
        have x5 := hxr.cell 5
        have y5 := hyr.cell 5
        have x6 := hxr.cell 6
        have y6 := hyr.cell 6
        simp at x0 y0 x1 y1 x2 y2 x3 y3 x4 y4 x5 y5 x6 y6
        by_cases hlt : k < n1
        · obtain ⟨b, off1, s, P1, u1, e1, P2, u2, e2, P3, u3, e3, hA, hbl, g0, g1, g2, g3, g4, g5, g6, g7, g8, g9, g10, rr, hx⟩ := ((R1.out.now hb0).below hbr).at_ hlt
          obtain ⟨b', off1', s', Q1, v1, o1, Q2, v2, o2, Q3, v3, o3, hA', hbl', h0, h1, h2, h3, h4, h5, h6, h7, h8, h9, h10, rr', hx'⟩ := ((S1.out.now hb0).below hbr).at_ hlt
          subst hA hA'
          have RR := put (rr.more hbr.size)
          have RR' := put (rr'.more hbr.size)
          have k1 := q1 _ (mem_of_at hx.out)
          have k2 := q1' _ (mem_of_at hx'.out)
          have u0 := cell_regrown x0
          have v0 := cell_regrown y0
          have gg0 := cell_regrown g0
          have hh0 := cell_regrown h0
          have gg1 := cell_regrown g1
          have hh1 := cell_regrown h1
          have gg2 := cell_regrown g2
          have hh2 := cell_regrown h2
          have gg3 := cell_regrown g3
          have hh3 := cell_regrown h3
          have gg4 := cell_regrown g4
          have hh4 := cell_regrown h4
          have gg5 := cell_regrown g5
          have hh5 := cell_regrown h5
          have gg6 := cell_regrown g6
          have hh6 := cell_regrown h6
          have gg7 := cell_regrown g7
          have hh7 := cell_regrown h7
          have gg8 := cell_regrown g8
          have hh8 := cell_regrown h8
          have gg9 := cell_regrown g9
          have hh9 := cell_regrown h9
          have gg10 := cell_regrown g10
          have hh10 := cell_regrown h10
          clear rr rr' x1 y1 x2 y2 x3 y3 x4 y4 x5 y5 x6 y6
          by_cases hq : s = s'
          · have hs' := put (take_sameA hs.out hx.out hx'.out hq)
            subst hq
            have hcon := fun W (hW : Below wr.heap.size wr W) => ((l8SameFrame_any s s P1 u1 e1 P2 u2 e2 P3 u3 e3 Q1 v1 o1 Q2 v2 o2 Q3 v3 o3 W (RR.out.now hW) (RR'.out.now hW) k1 k2).mono (fun _ _ h => ⟨h.1.trans (by rw [decide_eq_true rfl]), h.2⟩) : Calls Try.prog 32 #[frV s P1 u1 e1 P2 u2 e2 P3 u3 e3, frV s Q1 v1 o1 Q2 v2 o2 Q3 v3 o3] W fun e w' => e = .returned (.bool true) ∧ Below W.heap.size W w')
            unfold frV at hcon
            go_wp2
            refine wp_region_quiet_below (by kernel_rfl) (by kernel_rfl) ?_
            repeat (first | go_big_quiet_step ((go_at_call 32; exact Calls.regrown_of (hcon _ (below_regrown wr _ _)))) | quiet_step (fail))
            refine wpQuiet_nil ?_
            intro _ hw'
            obtain ⟨⟨dq, osq⟩, hw''⟩ := hw'
            subst hw''
            go_wp2
            go_roundw
            case rel => exact ⟨k + 1, by omega, by go_num, hbr.trans ((below_regrown wr dq osq).mono hbr.size), hs'⟩
            case measure => simp [intOf]; omega
          · have hs' := put (take_differA hx.out hx'.out hq)
            have hcon := fun W (hW : Below wr.heap.size wr W) => ((l8SameFrame_any s s' P1 u1 e1 P2 u2 e2 P3 u3 e3 Q1 v1 o1 Q2 v2 o2 Q3 v3 o3 W (RR.out.now hW) (RR'.out.now hW) k1 k2).mono (fun _ _ h => ⟨h.1.trans (by rw [decide_eq_false hq]), h.2⟩) : Calls Try.prog 32 #[frV s P1 u1 e1 P2 u2 e2 P3 u3 e3, frV s' Q1 v1 o1 Q2 v2 o2 Q3 v3 o3] W fun e w' => e = .returned (.bool false) ∧ Below W.heap.size W w')
            unfold frV at hcon
            go_wp2
            refine wp_region_quiet_below (by kernel_rfl) (by kernel_rfl) ?_
            repeat (first | go_big_quiet_step ((go_at_call 32; exact Calls.regrown_of (hcon _ (below_regrown wr _ _)))) | quiet_step (fail))
            refine wpQuiet_nil ?_
            intro _ hw'
            obtain ⟨⟨dq, osq⟩, hw''⟩ := hw'
            subst hw''
            go_wp2
            go_ret
            exact ⟨ret_no (by intro e; injection e; exact absurd (by assumption) hs'.out), hbw.trans ((below_regrown wr dq osq).mono hbw.size)⟩
        · obtain rfl : k = n1 := by omega
          have hfin : frames = frames' := all_same hs.out R1.out.1 S1.out.1
          subst hfin
          clear hs hx0 hy0 hb0 x0 y0 x1 y1 x2 y2 x3 y3 x4 y4 x5 y5 x6 y6
          generalize W0 = W9 at *
          have hb0 := hbw
          have hx0 := hxr
          have hy0 := hyr
          clear hxr hyr hbw hbr
          have x0 := hx0.cell 0
          have y0 := hy0.cell 0
          have x1 := hx0.cell 1
          have y1 := hy0.cell 1
          have x2 := hx0.cell 2
          have y2 := hy0.cell 2
          have x3 := hx0.cell 3
          have y3 := hy0.cell 3
          have x4 := hx0.cell 4
          have y4 := hy0.cell 4
          have x5 := hx0.cell 5
          have y5 := hy0.cell 5
          have x6 := hx0.cell 6
          have y6 := hy0.cell 6
          simp at x0 y0 x1 y1 x2 y2 x3 y3 x4 y4 x5 y5 x6 y6
          go_wp2
          go_loopw [45] (fun i wq => ∃ k q : Nat, k ≤ n3 ∧ i = .int .i64 k ∧ wq = wr.drewN q ∧ Hid (notes.take k = notes'.take k)) (fun i _ => n3 - (intOf i).toNat)
          case atStart => exact ⟨0, 0, Nat.zero_le _, rfl, rfl, put rfl⟩
          case round =>
            obtain ⟨k3, q, hk3, rfl, rfl, hs⟩ := hrel
            by_cases hlt3 : k3 < n3
            · obtain ⟨b, off, x, y, z, hA, hb, hc1, hc2, hc3, hx⟩ := (R3.out.now hb0).at_ hlt3
              obtain ⟨b', off', xx, yy, zz, hA', hb', hc'1, hc'2, hc'3, hx'⟩ := (S3.out.now hb0).at_ hlt3
              subst hA hA'
              by_cases hxx : (x, y, z) = (xx, yy, zz)
              · have hs' := put (take_sameA hs.out hx.out hx'.out hxx)
                obtain ⟨rfl, rfl, rfl⟩ : x = xx ∧ y = yy ∧ z = zz := by simpa using hxx
                go_wp2
                go_quiet (fail)
                go_wp2
                go_roundw
                case rel => exact ⟨k3 + 1, _, by omega, by go_num, rfl, hs'⟩
                case measure => simp [intOf]; omega
              · have hs' := put (take_differA hx.out hx'.out hxx)
                obtain hne | ⟨rfl, hne⟩ | ⟨rfl, rfl, hne⟩ := first_apart hxx
                all_goals (
                  go_wp2
                  go_quiet (fail)
                  go_wp2
                  go_ret
                  exact ⟨ret_no (by intro e; injection e; exact absurd (by assumption) hs'.out), below_drewN (below_drewN hb0 _) _⟩)
            · obtain rfl : k3 = n3 := by omega
              have hfin : notes = notes' := all_same hs.out R3.out.1 S3.out.1
              subst hfin
              have hx1 : Keep (wr.drewN q) w.heap.size #[.slice A1 k c1, .slice A2 n2 c2, .int .i64 used, .int .i64 code, .int .i64 value, .int .i64 made, .slice A3 k3 c3] 35 := hx0
              have hy1 : Keep (wr.drewN q) (w.heap.size + 1) #[.slice B1 k d1, .slice B2 m2 d2, .int .i64 used', .int .i64 code', .int .i64 value', .int .i64 made', .slice B3 k3 d3] 35 := hy0
              have hb1 : Below w.heap.size w (wr.drewN q) := below_drewN hb0 q
              clear hs hx0 hy0 hb0 x0 y0 x1 y1 x2 y2 x3 y3 x4 y4 x5 y5 x6 y6
              generalize wr.drewN q = W1 at hx1 hy1 hb1 ⊢
              have x0 := hx1.cell 0
              have y0 := hy1.cell 0
              have x1 := hx1.cell 1
              have y1 := hy1.cell 1
              have x2 := hx1.cell 2
              have y2 := hy1.cell 2
              have x3 := hx1.cell 3
              have y3 := hy1.cell 3
              have x4 := hx1.cell 4
              have y4 := hy1.cell 4
              have x5 := hx1.cell 5
              have y5 := hy1.cell 5
              have x6 := hx1.cell 6
              have y6 := hy1.cell 6
              simp at x0 y0 x1 y1 x2 y2 x3 y3 x4 y4 x5 y5 x6 y6
              go_wp2_with fail
              refine (l1Same_any A2 B2 n2 m2 c2 d2 trace trace' _ (R2.out.now hb1) (S2.out.now hb1) l2 l2').mono ?_
              rintro e W2 ⟨rfl, hc1⟩
              have hb2 := hb1.trans (hc1.mono hb1.size)
              have hx2 := hx1.below hc1
              have hy2 := hy1.below hc1
              clear hx1 hy1 hc1 hb1 x0 y0 x1 y1 x2 y2 x3 y3 x4 y4 x5 y5 x6 y6
              have x0 := hx2.cell 0
              have y0 := hy2.cell 0
              have x1 := hx2.cell 1
              have y1 := hy2.cell 1
              have x2 := hx2.cell 2
              have y2 := hy2.cell 2
              have x3 := hx2.cell 3
              have y3 := hy2.cell 3
              have x4 := hx2.cell 4
              have y4 := hy2.cell 4
              have x5 := hx2.cell 5
              have y5 := hy2.cell 5
              have x6 := hx2.cell 6
              have y6 := hy2.cell 6
              simp at x0 y0 x1 y1 x2 y2 x3 y3 x4 y4 x5 y5 x6 y6
              by_cases h_trace : trace = trace'
              · rw [decide_eq_true h_trace]
                subst h_trace
                by_cases h_used : used = used'
                · subst h_used
                  by_cases h_code : code = code'
                  · subst h_code
                    by_cases h_value : value = value'
                    · subst h_value
                      by_cases h_made : made = made'
                      · subst h_made
                        go_wp2
                        go_ret
                        exact ⟨by first | exact ret_yes rfl | rfl, hb2⟩
                      · go_wp2
                        go_ret
                        exact ⟨by first | exact ret_no (by intro e; injection e; contradiction) | (show Ending.returned (.bool (made == made')) = _; rw [show (made == made') = false from by simpa using h_made]; exact ret_no (by intro e; injection e; contradiction)), hb2⟩
                    · go_wp2
                      go_ret
                      exact ⟨by first | exact ret_no (by intro e; injection e; contradiction) | (show Ending.returned (.bool (value == value')) = _; rw [show (value == value') = false from by simpa using h_value]; exact ret_no (by intro e; injection e; contradiction)), hb2⟩
                  · go_wp2
                    go_ret
                    exact ⟨by first | exact ret_no (by intro e; injection e; contradiction) | (show Ending.returned (.bool (code == code')) = _; rw [show (code == code') = false from by simpa using h_code]; exact ret_no (by intro e; injection e; contradiction)), hb2⟩
                · go_wp2
                  go_ret
                  exact ⟨by first | exact ret_no (by intro e; injection e; contradiction) | (show Ending.returned (.bool (used == used')) = _; rw [show (used == used') = false from by simpa using h_used]; exact ret_no (by intro e; injection e; contradiction)), hb2⟩
              · rw [decide_eq_false h_trace]
                go_wp2
                go_ret
                exact ⟨ret_no (by intro e; injection e; contradiction), hb2⟩
    · have hfin : ¬ notes = notes' := fun h => hn3 (by rw [← R3.out.1, ← S3.out.1, h])
      have hnn' : ¬ (n3 : Int) = m3 := by omega
      go_enter Try.func14, Try.ntmps14
      go_wp2
      go_ret
      exact ⟨ret_no (by intro e; injection e; contradiction), hb0⟩
  · have hfin : ¬ frames = frames' := fun h => hn1 (by rw [← R1.out.1, ← S1.out.1, h])
    have hnn' : ¬ (n1 : Int) = m1 := by omega
    go_enter Try.func14, Try.ntmps14
    go_wp2
    go_ret
    exact ⟨ret_no (by intro e; injection e; contradiction), hb0⟩

end Go.Proofs.Ytcpjddkhclaafaa

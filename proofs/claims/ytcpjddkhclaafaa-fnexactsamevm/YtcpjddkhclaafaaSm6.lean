/-
  Whether machines are the same: the program's SameVm.
-/
import Derived.Test.YtcpjddkhclaafaaSm5
namespace Go.Proofs.Ytcpjddkhclaafaa
open Go.RowKit Go.Deep Exs

set_option maxHeartbeats 40000000 in
set_option maxRecDepth 100000 in
theorem sameVm_x (used code value made used' code' value' made' : Int) (frames frames' : List Fr) (trace trace' : List Int) (notes notes' : List Row3) (A1 : Option Addr) (n1 c1 : Nat) (A2 : Option Addr) (n2 c2 : Nat) (A3 : Option Addr) (n3 c3 : Nat) (B1 : Option Addr) (m1 d1 : Nat) (B2 : Option Addr) (m2 d2 : Nat) (B3 : Option Addr) (m3 d3 : Nat) (w : World) (r1 : ReadsFr w w.heap.size A1 n1 frames) (r2 : Reads w w.heap.size .i64 A2 n2 trace) (r3 : ReadsR w w.heap.size A3 n3 notes) (s1 : ReadsFr w w.heap.size B1 m1 frames') (s2 : Reads w w.heap.size .i64 B2 m2 trace') (s3 : ReadsR w w.heap.size B3 m3 notes') (l1 : n1 ≤ 1048576) (l2 : n2 ≤ 1048576) (l3 : n3 ≤ 1048576) (l1' : m1 ≤ 1048576) (l2' : m2 ≤ 1048576) (l3' : m3 ≤ 1048576) (q1 : ∀ x ∈ frames, SmallFr x) (q1' : ∀ x ∈ frames', SmallFr x) :
    Calls Try.prog 15 #[.agg #[.slice A1 n1 c1, .slice A2 n2 c2, .int .i64 used, .int .i64 code, .int .i64 value, .int .i64 made, .slice A3 n3 c3], .agg #[.slice B1 m1 d1, .slice B2 m2 d2, .int .i64 used', .int .i64 code', .int .i64 value', .int .i64 made', .slice B3 m3 d3]] w fun e w' => e = .returned (.bool (decide ((⟨frames, trace, used, code, value, made, notes⟩ : Mc) = (⟨frames', trace', used', code', value', made', notes'⟩ : Mc)))) ∧ Below w.heap.size w w' := by
  have R1 := put r1
  have S1 := put s1
  have R2 := put r2
  have S2 := put s2
  have R3 := put r3
  have S3 := put s3
  clear r1 r2 r3 s1 s2 s3
  have hb0 : Below w.heap.size w ((w.alloc (.cells #[.slice A1 n1 c1, .slice A2 n2 c2, .int .i64 used, .int .i64 code, .int .i64 value, .int .i64 made, .slice A3 n3 c3] 35)).alloc (.cells #[.slice B1 m1 d1, .slice B2 m2 d2, .int .i64 used', .int .i64 code', .int .i64 value', .int .i64 made', .slice B3 m3 d3] 35)) := ((Below.refl _ _).alloc (Nat.le_refl _) _).alloc (by simp) _
  have hx0 : Keep ((w.alloc (.cells #[.slice A1 n1 c1, .slice A2 n2 c2, .int .i64 used, .int .i64 code, .int .i64 value, .int .i64 made, .slice A3 n3 c3] 35)).alloc (.cells #[.slice B1 m1 d1, .slice B2 m2 d2, .int .i64 used', .int .i64 code', .int .i64 value', .int .i64 made', .slice B3 m3 d3] 35)) w.heap.size #[.slice A1 n1 c1, .slice A2 n2 c2, .int .i64 used, .int .i64 code, .int .i64 value, .int .i64 made, .slice A3 n3 c3] 35 := (Keep.new _ _ _).alloc _
  have hy0 : Keep ((w.alloc (.cells #[.slice A1 n1 c1, .slice A2 n2 c2, .int .i64 used, .int .i64 code, .int .i64 value, .int .i64 made, .slice A3 n3 c3] 35)).alloc (.cells #[.slice B1 m1 d1, .slice B2 m2 d2, .int .i64 used', .int .i64 code', .int .i64 value', .int .i64 made', .slice B3 m3 d3] 35)) (w.heap.size + 1) #[.slice B1 m1 d1, .slice B2 m2 d2, .int .i64 used', .int .i64 code', .int .i64 value', .int .i64 made', .slice B3 m3 d3] 35 := by
    have := Keep.new (w.alloc (.cells #[.slice A1 n1 c1, .slice A2 n2 c2, .int .i64 used, .int .i64 code, .int .i64 value, .int .i64 made, .slice A3 n3 c3] 35)) #[.slice B1 m1 d1, .slice B2 m2 d2, .int .i64 used', .int .i64 code', .int .i64 value', .int .i64 made', .slice B3 m3 d3] 35
    rw [World.size_alloc] at this
    exact this
  go_enter Try.func15, Try.ntmps15
  by_cases h_used : used = used'
  · subst h_used
    by_cases h_code : code = code'
    · subst h_code
      by_cases h_value : value = value'
      · subst h_value
        by_cases h_made : made = made'
        · subst h_made
          go_wp2_with fail
          refine (slEqual_any A2 B2 n2 m2 c2 d2 trace trace' _ (R2.out.now hb0) (S2.out.now hb0) l2 l2').mono ?_
          rintro e W1 ⟨rfl, hc0⟩
          have hb1 := hb0.trans (hc0.mono hb0.size)
          have hx1 := hx0.below hc0
          have hy1 := hy0.below hc0
          clear hx0 hy0 hc0 hb0
          have x0 := hx1.cell 0
          have y0 := hy1.cell 0
          have x1 := hx1.cell 1
          have y1 := hy1.cell 1
          have x2 := hx1.cell 2
          have y2 := hy1.cell 2
          have x3 := hx1.cell 3
          have y3 := hy1.cell 3
          have x4 := hx1.cell 4
          have y4 := hy1.cell 4
          have x5 := hx1.cell 5
          have y5 := hy1.cell 5
          have x6 := hx1.cell 6
          have y6 := hy1.cell 6
          simp at x0 y0 x1 y1 x2 y2 x3 y3 x4 y4 x5 y5 x6 y6
          by_cases h_trace : trace = trace'
          · rw [decide_eq_true h_trace]
            subst h_trace
            go_wp2_with fail
            refine (slEqualN_any A3 B3 n3 m3 c3 d3 notes notes' _ (R3.out.now hb1) (S3.out.now hb1) l3 l3').mono ?_
            rintro e W2 ⟨rfl, hc1⟩
            have hb2 := hb1.trans (hc1.mono hb1.size)
            have hx2 := hx1.below hc1
            have hy2 := hy1.below hc1
            clear hx1 hy1 hc1 hb1 x0 y0 x1 y1 x2 y2 x3 y3 x4 y4 x5 y5 x6 y6
            have x0 := hx2.cell 0
            have y0 := hy2.cell 0
            have x1 := hx2.cell 1
            have y1 := hy2.cell 1
            have x2 := hx2.cell 2
            have y2 := hy2.cell 2
            have x3 := hx2.cell 3
            have y3 := hy2.cell 3
            have x4 := hx2.cell 4
            have y4 := hy2.cell 4
            have x5 := hx2.cell 5
            have y5 := hy2.cell 5
            have x6 := hx2.cell 6
            have y6 := hy2.cell 6
            simp at x0 y0 x1 y1 x2 y2 x3 y3 x4 y4 x5 y5 x6 y6
            by_cases h_notes : notes = notes'
            · rw [decide_eq_true h_notes]
              subst h_notes
              go_wp2_with fail
              refine (frsEqual_any A1 B1 n1 m1 c1 d1 frames frames' _ (R1.out.now hb2) (S1.out.now hb2) l1 l1' q1 q1').mono ?_
              rintro e W3 ⟨rfl, hc2⟩
              have hb3 := hb2.trans (hc2.mono hb2.size)
              have hx3 := hx2.below hc2
              have hy3 := hy2.below hc2
              clear hx2 hy2 hc2 hb2 x0 y0 x1 y1 x2 y2 x3 y3 x4 y4 x5 y5 x6 y6
              have x0 := hx3.cell 0
              have y0 := hy3.cell 0
              have x1 := hx3.cell 1
              have y1 := hy3.cell 1
              have x2 := hx3.cell 2
              have y2 := hy3.cell 2
              have x3 := hx3.cell 3
              have y3 := hy3.cell 3
              have x4 := hx3.cell 4
              have y4 := hy3.cell 4
              have x5 := hx3.cell 5
              have y5 := hy3.cell 5
              have x6 := hx3.cell 6
              have y6 := hy3.cell 6
              simp at x0 y0 x1 y1 x2 y2 x3 y3 x4 y4 x5 y5 x6 y6
              by_cases h_frames : frames = frames'
              · rw [decide_eq_true h_frames]
                subst h_frames
                go_wp2
                go_ret
                exact ⟨by first | exact ret_yes rfl | rfl, hb3⟩
              · rw [decide_eq_false h_frames]
                go_wp2
                go_ret
                exact ⟨ret_no (by intro e; injection e; contradiction), hb3⟩
            · rw [decide_eq_false h_notes]
              go_wp2
              go_ret
              exact ⟨ret_no (by intro e; injection e; contradiction), hb2⟩
          · rw [decide_eq_false h_trace]
            go_wp2
            go_ret
            exact ⟨ret_no (by intro e; injection e; contradiction), hb1⟩
        · go_wp2
          go_ret
          exact ⟨ret_no (by intro e; injection e; contradiction), hb0⟩
      · go_wp2
        go_ret
        exact ⟨ret_no (by intro e; injection e; contradiction), hb0⟩
    · go_wp2
      go_ret
      exact ⟨ret_no (by intro e; injection e; contradiction), hb0⟩
  · go_wp2
    go_ret
    exact ⟨ret_no (by intro e; injection e; contradiction), hb0⟩

end Go.Proofs.Ytcpjddkhclaafaa

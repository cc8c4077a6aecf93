/-
  Whether frames are the same: the program's sameFrame, the reference's l8SameFrame.
-/
import Derived.Test.YtcpjddkhclaafaaSm2
namespace Go.Proofs.Ytcpjddkhclaafaa
open Go.RowKit Go.Deep Exs

set_option maxHeartbeats 40000000 in
set_option maxRecDepth 100000 in
theorem sameFrame_x (ide fn pla result mode value base : Int) (pile vars : List Int) (flags : List Bool) (off : Bool) (ide' fn' pla' result' mode' value' base' : Int) (pile' vars' : List Int) (flags' : List Bool) (off' : Bool) (A1 : Option Addr) (n1 c1 : Nat) (A2 : Option Addr) (n2 c2 : Nat) (A3 : Option Addr) (n3 c3 : Nat) (B1 : Option Addr) (m1 d1 : Nat) (B2 : Option Addr) (m2 d2 : Nat) (B3 : Option Addr) (m3 d3 : Nat) (w : World) (r1 : Reads w w.heap.size .i64 A1 n1 pile) (r2 : Reads w w.heap.size .i64 A2 n2 vars) (r3 : ReadsB w w.heap.size A3 n3 flags) (s1 : Reads w w.heap.size .i64 B1 m1 pile') (s2 : Reads w w.heap.size .i64 B2 m2 vars') (s3 : ReadsB w w.heap.size B3 m3 flags') (l1 : n1 ≤ 1048576) (l2 : n2 ≤ 1048576) (l3 : n3 ≤ 1048576) (l1' : m1 ≤ 1048576) (l2' : m2 ≤ 1048576) (l3' : m3 ≤ 1048576) :
    Calls Try.prog 37 #[.agg #[.int .i64 ide, .int .i64 fn, .int .i64 pla, .slice A1 n1 c1, .slice A2 n2 c2, .slice A3 n3 c3, .int .i64 result, .int .i64 mode, .int .i64 value, .int .i64 base, .bool off], .agg #[.int .i64 ide', .int .i64 fn', .int .i64 pla', .slice B1 m1 d1, .slice B2 m2 d2, .slice B3 m3 d3, .int .i64 result', .int .i64 mode', .int .i64 value', .int .i64 base', .bool off']] w fun e w' => e = .returned (.bool (decide ((⟨ide, fn, pla, pile, vars, flags, result, mode, value, base, off⟩ : Fr) = (⟨ide', fn', pla', pile', vars', flags', result', mode', value', base', off'⟩ : Fr)))) ∧ Below w.heap.size w w' := by
  have R1 := put r1
  have S1 := put s1
  have R2 := put r2
  have S2 := put s2
  have R3 := put r3
  have S3 := put s3
  clear r1 r2 r3 s1 s2 s3
  have hb0 : Below w.heap.size w ((w.alloc (.cells #[.int .i64 ide, .int .i64 fn, .int .i64 pla, .slice A1 n1 c1, .slice A2 n2 c2, .slice A3 n3 c3, .int .i64 result, .int .i64 mode, .int .i64 value, .int .i64 base, .bool off] 59)).alloc (.cells #[.int .i64 ide', .int .i64 fn', .int .i64 pla', .slice B1 m1 d1, .slice B2 m2 d2, .slice B3 m3 d3, .int .i64 result', .int .i64 mode', .int .i64 value', .int .i64 base', .bool off'] 59)) := ((Below.refl _ _).alloc (Nat.le_refl _) _).alloc (by simp) _
  have hx0 : Keep ((w.alloc (.cells #[.int .i64 ide, .int .i64 fn, .int .i64 pla, .slice A1 n1 c1, .slice A2 n2 c2, .slice A3 n3 c3, .int .i64 result, .int .i64 mode, .int .i64 value, .int .i64 base, .bool off] 59)).alloc (.cells #[.int .i64 ide', .int .i64 fn', .int .i64 pla', .slice B1 m1 d1, .slice B2 m2 d2, .slice B3 m3 d3, .int .i64 result', .int .i64 mode', .int .i64 value', .int .i64 base', .bool off'] 59)) w.heap.size #[.int .i64 ide, .int .i64 fn, .int .i64 pla, .slice A1 n1 c1, .slice A2 n2 c2, .slice A3 n3 c3, .int .i64 result, .int .i64 mode, .int .i64 value, .int .i64 base, .bool off] 59 := (Keep.new _ _ _).alloc _
  have hy0 : Keep ((w.alloc (.cells #[.int .i64 ide, .int .i64 fn, .int .i64 pla, .slice A1 n1 c1, .slice A2 n2 c2, .slice A3 n3 c3, .int .i64 result, .int .i64 mode, .int .i64 value, .int .i64 base, .bool off] 59)).alloc (.cells #[.int .i64 ide', .int .i64 fn', .int .i64 pla', .slice B1 m1 d1, .slice B2 m2 d2, .slice B3 m3 d3, .int .i64 result', .int .i64 mode', .int .i64 value', .int .i64 base', .bool off'] 59)) (w.heap.size + 1) #[.int .i64 ide', .int .i64 fn', .int .i64 pla', .slice B1 m1 d1, .slice B2 m2 d2, .slice B3 m3 d3, .int .i64 result', .int .i64 mode', .int .i64 value', .int .i64 base', .bool off'] 59 := by
    have := Keep.new (w.alloc (.cells #[.int .i64 ide, .int .i64 fn, .int .i64 pla, .slice A1 n1 c1, .slice A2 n2 c2, .slice A3 n3 c3, .int .i64 result, .int .i64 mode, .int .i64 value, .int .i64 base, .bool off] 59)) #[.int .i64 ide', .int .i64 fn', .int .i64 pla', .slice B1 m1 d1, .slice B2 m2 d2, .slice B3 m3 d3, .int .i64 result', .int .i64 mode', .int .i64 value', .int .i64 base', .bool off'] 59
    rw [World.size_alloc] at this
    exact this
  go_enter Try.func37, Try.ntmps37
  by_cases h_ide : ide = ide'
  · subst h_ide
    by_cases h_fn : fn = fn'
    · subst h_fn
      by_cases h_pla : pla = pla'
      · subst h_pla
        by_cases h_result : result = result'
        · subst h_result
          by_cases h_mode : mode = mode'
          · subst h_mode
            by_cases h_value : value = value'
            · subst h_value
              by_cases h_base : base = base'
              · subst h_base
                by_cases h_off : off = off'
                · subst h_off
                  go_wp2_with fail
                  refine (slEqual_any A1 B1 n1 m1 c1 d1 pile pile' _ (R1.out.now hb0) (S1.out.now hb0) l1 l1').mono ?_
                  rintro e W1 ⟨rfl, hc0⟩
                  have hb1 := hb0.trans (hc0.mono hb0.size)
                  have hx1 := hx0.below hc0
                  have hy1 := hy0.below hc0
                  clear hx0 hy0 hc0 hb0
                  have x0 := hx1.cell 0
                  have y0 := hy1.cell 0
                  have x1 := hx1.cell 1
                  have y1 := hy1.cell 1
                  have x2 := hx1.cell 2
                  have y2 := hy1.cell 2
                  have x3 := hx1.cell 3
                  have y3 := hy1.cell 3
                  have x4 := hx1.cell 4
                  have y4 := hy1.cell 4
                  have x5 := hx1.cell 5
                  have y5 := hy1.cell 5
                  have x6 := hx1.cell 6
                  have y6 := hy1.cell 6
                  have x7 := hx1.cell 7
                  have y7 := hy1.cell 7
                  have x8 := hx1.cell 8
                  have y8 := hy1.cell 8
                  have x9 := hx1.cell 9
                  have y9 := hy1.cell 9
                  have x10 := hx1.cell 10
                  have y10 := hy1.cell 10
                  simp at x0 y0 x1 y1 x2 y2 x3 y3 x4 y4 x5 y5 x6 y6 x7 y7 x8 y8 x9 y9 x10 y10
                  by_cases h_pile : pile = pile'
                  · rw [decide_eq_true h_pile]
                    subst h_pile
                    go_wp2_with fail
                    refine (slEqual_any A2 B2 n2 m2 c2 d2 vars vars' _ (R2.out.now hb1) (S2.out.now hb1) l2 l2').mono ?_
                    rintro e W2 ⟨rfl, hc1⟩
                    have hb2 := hb1.trans (hc1.mono hb1.size)
                    have hx2 := hx1.below hc1
                    have hy2 := hy1.below hc1
                    clear hx1 hy1 hc1 hb1 x0 y0 x1 y1 x2 y2 x3 y3 x4 y4 x5 y5 x6 y6 x7 y7 x8 y8 x9 y9 x10 y10
                    have x0 := hx2.cell 0
                    have y0 := hy2.cell 0
                    have x1 := hx2.cell 1
                    have y1 := hy2.cell 1
                    have x2 := hx2.cell 2
                    have y2 := hy2.cell 2
                    have x3 := hx2.cell 3
                    have y3 := hy2.cell 3
                    have x4 := hx2.cell 4
                    have y4 := hy2.cell 4
                    have x5 := hx2.cell 5
                    have y5 := hy2.cell 5
                    have x6 := hx2.cell 6
                    have y6 := hy2.cell 6
                    have x7 := hx2.cell 7
                    have y7 := hy2.cell 7
                    have x8 := hx2.cell 8
                    have y8 := hy2.cell 8
                    have x9 := hx2.cell 9
                    have y9 := hy2.cell 9
                    have x10 := hx2.cell 10
                    have y10 := hy2.cell 10
                    simp at x0 y0 x1 y1 x2 y2 x3 y3 x4 y4 x5 y5 x6 y6 x7 y7 x8 y8 x9 y9 x10 y10
                    by_cases h_vars : vars = vars'
                    · rw [decide_eq_true h_vars]
                      subst h_vars
                      go_wp2_with fail
                      refine (slEqualB_any A3 B3 n3 m3 c3 d3 flags flags' _ (R3.out.now hb2) (S3.out.now hb2) l3 l3').mono ?_
                      rintro e W3 ⟨rfl, hc2⟩
                      have hb3 := hb2.trans (hc2.mono hb2.size)
                      have hx3 := hx2.below hc2
                      have hy3 := hy2.below hc2
                      clear hx2 hy2 hc2 hb2 x0 y0 x1 y1 x2 y2 x3 y3 x4 y4 x5 y5 x6 y6 x7 y7 x8 y8 x9 y9 x10 y10
                      have x0 := hx3.cell 0
                      have y0 := hy3.cell 0
                      have x1 := hx3.cell 1
                      have y1 := hy3.cell 1
                      have x2 := hx3.cell 2
                      have y2 := hy3.cell 2
                      have x3 := hx3.cell 3
                      have y3 := hy3.cell 3
                      have x4 := hx3.cell 4
                      have y4 := hy3.cell 4
                      have x5 := hx3.cell 5
                      have y5 := hy3.cell 5
                      have x6 := hx3.cell 6
                      have y6 := hy3.cell 6
                      have x7 := hx3.cell 7
                      have y7 := hy3.cell 7
                      have x8 := hx3.cell 8
                      have y8 := hy3.cell 8
                      have x9 := hx3.cell 9
                      have y9 := hy3.cell 9
                      have x10 := hx3.cell 10
                      have y10 := hy3.cell 10
                      simp at x0 y0 x1 y1 x2 y2 x3 y3 x4 y4 x5 y5 x6 y6 x7 y7 x8 y8 x9 y9 x10 y10
                      by_cases h_flags : flags = flags'
                      · rw [decide_eq_true h_flags]
                        subst h_flags
                        go_wp2
                        go_ret
                        exact ⟨by first | exact ret_yes rfl | rfl, hb3⟩
                      · rw [decide_eq_false h_flags]
                        go_wp2
                        go_ret
                        exact ⟨ret_no (by intro e; injection e; contradiction), hb3⟩
                    · rw [decide_eq_false h_vars]
                      go_wp2
                      go_ret
                      exact ⟨ret_no (by intro e; injection e; contradiction), hb2⟩
                  · rw [decide_eq_false h_pile]
                    go_wp2
                    go_ret
                    exact ⟨ret_no (by intro e; injection e; contradiction), hb1⟩
                · obtain ⟨rfl, rfl⟩ | ⟨rfl, rfl⟩ : (off = true ∧ off' = false) ∨ (off = false ∧ off' = true) := by revert h_off; cases off <;> cases off' <;> simp
                  all_goals (
                    go_wp2
                    go_ret
                    exact ⟨ret_no (by intro e; injection e; contradiction), hb0⟩)
              · go_wp2
                go_ret
                exact ⟨ret_no (by intro e; injection e; contradiction), hb0⟩
            · go_wp2
              go_ret
              exact ⟨ret_no (by intro e; injection e; contradiction), hb0⟩
          · go_wp2
            go_ret
            exact ⟨ret_no (by intro e; injection e; contradiction), hb0⟩
        · go_wp2
          go_ret
          exact ⟨ret_no (by intro e; injection e; contradiction), hb0⟩
      · go_wp2
        go_ret
        exact ⟨ret_no (by intro e; injection e; contradiction), hb0⟩
    · go_wp2
      go_ret
      exact ⟨ret_no (by intro e; injection e; contradiction), hb0⟩
  · go_wp2
    go_ret
    exact ⟨ret_no (by intro e; injection e; contradiction), hb0⟩

end Go.Proofs.Ytcpjddkhclaafaa

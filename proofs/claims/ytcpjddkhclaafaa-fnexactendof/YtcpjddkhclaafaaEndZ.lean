/-
  EndOf of both sides: where the code is none; the reference's EndOf.
-/
import Derived.Test.YtcpjddkhclaafaaEndA
namespace Go.Proofs.Ytcpjddkhclaafaa
open Go.RowKit Go.Deep Exs

set_option maxHeartbeats 1000000 in
set_option maxRecDepth 100000 in
theorem implEndOf_bad (s : Mc) (A1 : Option Addr) (n1 c1 : Nat) (A2 : Option Addr) (n2 c2 : Nat) (A3 : Option Addr) (n3 c3 : Nat) (w : World) (hc : s.code < 0 ∨ 4 < s.code) :
    Calls Try.prog 8 #[.agg #[.slice A1 n1 c1, .slice A2 n2 c2, .int .i64 s.used, .int .i64 s.code, .int .i64 s.value, .int .i64 s.made, .slice A3 n3 c3]] w fun e w' => e = .returned (.tuple #[.agg #[.int .i64 0, .int .i64 0, .slice none 0 0, .int .i64 0], .bool false]) ∧ Below w.heap.size w w' := by
  have hb0 : Below w.heap.size w ((w.alloc (.cells #[.slice A1 n1 c1, .slice A2 n2 c2, .int .i64 s.used, .int .i64 s.code, .int .i64 s.value, .int .i64 s.made, .slice A3 n3 c3] 35)).alloc (.cells #[.int .i64 0, .int .i64 0, .slice none 0 0, .int .i64 0] 29)) := ((Below.refl _ _).alloc (Nat.le_refl _) _).alloc (by simp) _
  have hx0 : Keep ((w.alloc (.cells #[.slice A1 n1 c1, .slice A2 n2 c2, .int .i64 s.used, .int .i64 s.code, .int .i64 s.value, .int .i64 s.made, .slice A3 n3 c3] 35)).alloc (.cells #[.int .i64 0, .int .i64 0, .slice none 0 0, .int .i64 0] 29)) w.heap.size #[.slice A1 n1 c1, .slice A2 n2 c2, .int .i64 s.used, .int .i64 s.code, .int .i64 s.value, .int .i64 s.made, .slice A3 n3 c3] 35 := (Keep.new _ _ _).alloc _
  have hy0 : Keep ((w.alloc (.cells #[.slice A1 n1 c1, .slice A2 n2 c2, .int .i64 s.used, .int .i64 s.code, .int .i64 s.value, .int .i64 s.made, .slice A3 n3 c3] 35)).alloc (.cells #[.int .i64 0, .int .i64 0, .slice none 0 0, .int .i64 0] 29)) (w.heap.size + 1) #[.int .i64 0, .int .i64 0, .slice none 0 0, .int .i64 0] 29 := by
    have := Keep.new (w.alloc (.cells #[.slice A1 n1 c1, .slice A2 n2 c2, .int .i64 s.used, .int .i64 s.code, .int .i64 s.value, .int .i64 s.made, .slice A3 n3 c3] 35)) #[.int .i64 0, .int .i64 0, .slice none 0 0, .int .i64 0] 29
    rw [World.size_alloc] at this
    exact this
  by_cases hc0 : s.code < 0
  · go_enter Try.func8, Try.ntmps8
    go_wp2
    exact bodyPost_ret (v := .tuple #[.agg #[.int .i64 0, .int .i64 0, .slice none 0 0, .int .i64 0], .bool false]) (by simp [results, Try.results8, go_sem]) rfl ⟨rfl, hb0⟩
  · have hc1 : 4 < s.code := by omega
    go_enter Try.func8, Try.ntmps8
    go_wp2
    exact bodyPost_ret (v := .tuple #[.agg #[.int .i64 0, .int .i64 0, .slice none 0 0, .int .i64 0], .bool false]) (by simp [results, Try.results8, go_sem]) rfl ⟨rfl, hb0⟩

set_option maxHeartbeats 1000000 in
set_option maxRecDepth 100000 in
theorem specEndOf_bad (s : Mc) (A1 : Option Addr) (n1 c1 : Nat) (A2 : Option Addr) (n2 c2 : Nat) (A3 : Option Addr) (n3 c3 : Nat) (w : World) (hc : within s.code 0 4 = false) :
    Calls Try.prog 6 #[.agg #[.slice A1 n1 c1, .slice A2 n2 c2, .int .i64 s.used, .int .i64 s.code, .int .i64 s.value, .int .i64 s.made, .slice A3 n3 c3]] w fun e w' => e = .returned (.tuple #[.agg #[.int .i64 0, .int .i64 0, .slice none 0 0, .int .i64 0], .bool false]) ∧ Below w.heap.size w w' := by
  have hb0 : Below w.heap.size w ((w.alloc (.cells #[.slice A1 n1 c1, .slice A2 n2 c2, .int .i64 s.used, .int .i64 s.code, .int .i64 s.value, .int .i64 s.made, .slice A3 n3 c3] 35)).alloc (.cells #[.int .i64 0, .int .i64 0, .slice none 0 0, .int .i64 0] 29)) := ((Below.refl _ _).alloc (Nat.le_refl _) _).alloc (by simp) _
  have hx0 : Keep ((w.alloc (.cells #[.slice A1 n1 c1, .slice A2 n2 c2, .int .i64 s.used, .int .i64 s.code, .int .i64 s.value, .int .i64 s.made, .slice A3 n3 c3] 35)).alloc (.cells #[.int .i64 0, .int .i64 0, .slice none 0 0, .int .i64 0] 29)) w.heap.size #[.slice A1 n1 c1, .slice A2 n2 c2, .int .i64 s.used, .int .i64 s.code, .int .i64 s.value, .int .i64 s.made, .slice A3 n3 c3] 35 := (Keep.new _ _ _).alloc _
  have hy0 : Keep ((w.alloc (.cells #[.slice A1 n1 c1, .slice A2 n2 c2, .int .i64 s.used, .int .i64 s.code, .int .i64 s.value, .int .i64 s.made, .slice A3 n3 c3] 35)).alloc (.cells #[.int .i64 0, .int .i64 0, .slice none 0 0, .int .i64 0] 29)) (w.heap.size + 1) #[.int .i64 0, .int .i64 0, .slice none 0 0, .int .i64 0] 29 := by
    have := Keep.new (w.alloc (.cells #[.slice A1 n1 c1, .slice A2 n2 c2, .int .i64 s.used, .int .i64 s.code, .int .i64 s.value, .int .i64 s.made, .slice A3 n3 c3] 35)) #[.int .i64 0, .int .i64 0, .slice none 0 0, .int .i64 0] 29
    rw [World.size_alloc] at this
    exact this
  go_enter Try.func6, Try.ntmps6
  go_wp2_with fail
  generalize hW : (w.alloc (.cells #[.slice A1 n1 c1, .slice A2 n2 c2, .int .i64 s.used, .int .i64 s.code, .int .i64 s.value, .int .i64 s.made, .slice A3 n3 c3] 35)).alloc (.cells #[.int .i64 0, .int .i64 0, .slice none 0 0, .int .i64 0] 29) = W0 at hb0 hx0 hy0 ⊢
  clear hW
  refine (l1In_any s.code 0 4 W0).mono ?_
  rintro e w1 ⟨rfl, rfl⟩
  rw [hc]
  have y0 := hy0.cell 0
  have y1 := hy0.cell 1
  have y2 := hy0.cell 2
  have y3 := hy0.cell 3
  have f0 := hy0.frozen 0
  have f1 := hy0.frozen 1
  have f2 := hy0.frozen 2
  have f3 := hy0.frozen 3
  simp at y0 y1 y2 y3
  go_wp2
  replace hy0 := hy0.set 0 (.int .i64 0)
  replace hb0 := hb0.setCell (p := ⟨w.heap.size + 1, 0, none⟩) (Nat.le_succ _) (.int .i64 0)
  replace hy0 := hy0.set 1 (.int .i64 0)
  replace hb0 := hb0.setCell (p := ⟨w.heap.size + 1, 1, none⟩) (Nat.le_succ _) (.int .i64 0)
  replace hy0 := hy0.set 2 (.slice none 0 0)
  replace hb0 := hb0.setCell (p := ⟨w.heap.size + 1, 2, none⟩) (Nat.le_succ _) (.slice none 0 0)
  replace hy0 := hy0.set 3 (.int .i64 0)
  replace hb0 := hb0.setCell (p := ⟨w.heap.size + 1, 3, none⟩) (Nat.le_succ _) (.int .i64 0)
  have e0 := hy0.cell 0
  have e1 := hy0.cell 1
  have e2 := hy0.cell 2
  have e3 := hy0.cell 3
  simp at e0 e1 e2 e3
  refine bodyPost_ret (v := .tuple #[.agg #[.int .i64 0, .int .i64 0, .slice none 0 0, .int .i64 0], .bool false]) ?_ rfl ?_
  · simp [results, Try.results6, go_sem, e0, e1, e2, e3]
  · exact ⟨rfl, hb0⟩

set_option maxHeartbeats 1000000 in
set_option maxRecDepth 100000 in
theorem specEndOf_good (s : Mc) (A1 : Option Addr) (n1 c1 : Nat) (A2 : Option Addr) (n2 c2 : Nat) (A3 : Option Addr) (n3 c3 : Nat) (w : World) (hr : IsMc w w.heap.size s A1 n1 A2 n2 A3 n3) (hn : n2 ≤ 1048576) (hA : A2 = none → c2 = 0) (hc : within s.code 0 4 = true) :
    Calls Try.prog 6 #[.agg #[.slice A1 n1 c1, .slice A2 n2 c2, .int .i64 s.used, .int .i64 s.code, .int .i64 s.value, .int .i64 s.made, .slice A3 n3 c3]] w fun e w' => ∃ v, e = .returned (.tuple #[.agg #[.int .i64 (endOc s).code, .int .i64 (endOc s).value, v, .int .i64 s.used], .bool true]) ∧ Nums w' w.heap.size 3 .i64 v s.trace ∧ Below w.heap.size w w' := by
  have hb0 : Below w.heap.size w ((w.alloc (.cells #[.slice A1 n1 c1, .slice A2 n2 c2, .int .i64 s.used, .int .i64 s.code, .int .i64 s.value, .int .i64 s.made, .slice A3 n3 c3] 35)).alloc (.cells #[.int .i64 0, .int .i64 0, .slice none 0 0, .int .i64 0] 29)) := ((Below.refl _ _).alloc (Nat.le_refl _) _).alloc (by simp) _
  have hx0 : Keep ((w.alloc (.cells #[.slice A1 n1 c1, .slice A2 n2 c2, .int .i64 s.used, .int .i64 s.code, .int .i64 s.value, .int .i64 s.made, .slice A3 n3 c3] 35)).alloc (.cells #[.int .i64 0, .int .i64 0, .slice none 0 0, .int .i64 0] 29)) w.heap.size #[.slice A1 n1 c1, .slice A2 n2 c2, .int .i64 s.used, .int .i64 s.code, .int .i64 s.value, .int .i64 s.made, .slice A3 n3 c3] 35 := (Keep.new _ _ _).alloc _
  have hy0 : Keep ((w.alloc (.cells #[.slice A1 n1 c1, .slice A2 n2 c2, .int .i64 s.used, .int .i64 s.code, .int .i64 s.value, .int .i64 s.made, .slice A3 n3 c3] 35)).alloc (.cells #[.int .i64 0, .int .i64 0, .slice none 0 0, .int .i64 0] 29)) (w.heap.size + 1) #[.int .i64 0, .int .i64 0, .slice none 0 0, .int .i64 0] 29 := by
    have := Keep.new (w.alloc (.cells #[.slice A1 n1 c1, .slice A2 n2 c2, .int .i64 s.used, .int .i64 s.code, .int .i64 s.value, .int .i64 s.made, .slice A3 n3 c3] 35)) #[.int .i64 0, .int .i64 0, .slice none 0 0, .int .i64 0] 29
    rw [World.size_alloc] at this
    exact this
  have HR := put (hr.now hb0)
  clear hr
  go_enter Try.func6, Try.ntmps6
  go_wp2_with fail
  generalize hW : (w.alloc (.cells #[.slice A1 n1 c1, .slice A2 n2 c2, .int .i64 s.used, .int .i64 s.code, .int .i64 s.value, .int .i64 s.made, .slice A3 n3 c3] 35)).alloc (.cells #[.int .i64 0, .int .i64 0, .slice none 0 0, .int .i64 0] 29) = W0 at hb0 hx0 hy0 HR ⊢
  clear hW
  refine (l1In_any s.code 0 4 W0).mono ?_
  rintro e w1 ⟨rfl, rfl⟩
  rw [hc]
  have x0 := hx0.cell 0
  have x1 := hx0.cell 1
  have x2 := hx0.cell 2
  have x3 := hx0.cell 3
  have x4 := hx0.cell 4
  have x5 := hx0.cell 5
  have x6 := hx0.cell 6
  simp at x0 x1 x2 x3 x4 x5 x6
  go_wp2_with fail
  refine (l8End_any s A1 n1 c1 A2 n2 c2 A3 n3 c3 W0 HR.out hn hA).mono ?_
  rintro e w1 ⟨v, rfl, hv, hb1⟩
  have hB := hb0.trans (hb1.mono hb0.size)
  have kR := hy0.below hb1
  have hlt := hy0.lt
  have hle := hb0.size
  have y0 := kR.cell 0
  have y1 := kR.cell 1
  have y2 := kR.cell 2
  have y3 := kR.cell 3
  have f0 := kR.frozen 0
  have f1 := kR.frozen 1
  have f2 := kR.frozen 2
  have f3 := kR.frozen 3
  simp at y0 y1 y2 y3
  obtain ⟨A, k, rfl, _⟩ := hv.reads
  clear x0 x1 x2 x3 x4 x5 x6 hx0 hy0 hb0 hb1 HR
  go_wp2
  replace kR := kR.set 0 (.int .i64 (endOc s).code)
  replace hB := hB.setCell (p := ⟨w.heap.size + 1, 0, none⟩) (Nat.le_succ _) (.int .i64 (endOc s).code)
  replace hv := hv.low (g := w.heap.size + 1) (i := 0) (u := .int .i64 (endOc s).code) hlt
  replace kR := kR.set 1 (.int .i64 (endOc s).value)
  replace hB := hB.setCell (p := ⟨w.heap.size + 1, 1, none⟩) (Nat.le_succ _) (.int .i64 (endOc s).value)
  replace hv := hv.low (g := w.heap.size + 1) (i := 1) (u := .int .i64 (endOc s).value) hlt
  replace kR := kR.set 2 (.slice A s.trace.length k)
  replace hB := hB.setCell (p := ⟨w.heap.size + 1, 2, none⟩) (Nat.le_succ _) (.slice A s.trace.length k)
  replace hv := hv.low (g := w.heap.size + 1) (i := 2) (u := .slice A s.trace.length k) hlt
  replace kR := kR.set 3 (.int .i64 s.used)
  replace hB := hB.setCell (p := ⟨w.heap.size + 1, 3, none⟩) (Nat.le_succ _) (.int .i64 s.used)
  replace hv := hv.low (g := w.heap.size + 1) (i := 3) (u := .int .i64 s.used) hlt
  have e0 := kR.cell 0
  have e1 := kR.cell 1
  have e2 := kR.cell 2
  have e3 := kR.cell 3
  simp at e0 e1 e2 e3
  have hv2 := hv.more (B' := w.heap.size) hle
  refine bodyPost_ret (v := .tuple #[.agg #[.int .i64 (endOc s).code, .int .i64 (endOc s).value, .slice A s.trace.length k, .int .i64 s.used], .bool true]) ?_ rfl ?_
  · simp [results, Try.results6, go_sem, e0, e1, e2, e3]
  · exact ⟨_, rfl, hv2, hB⟩

end Go.Proofs.Ytcpjddkhclaafaa

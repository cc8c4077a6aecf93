/-
  Outcomes: how the laws count them, copy them and compare them.
-/
import Derived.Test.YtaogdaoiijmmhaaPrgTo2
import Derived.Test.YtaogdaoiijmmhaaPrgEq
import Derived.Test.YtaogdaoiijmmhaaArgsP
import Derived.Deep.QuietTactic
import Derived.BigQuiet
namespace Go.Proofs.Ytaogdaoiijmmhaa
open Go.ChangeShapes Go.WideShapes Go.ChangeAt Go.RowKit Go.Deep Exs

/-- An outcome. -/
structure Oc where
  code : Int
  value : Int
  used : Int
  trace : List Int
def ocV (o : Oc) (A : Option Addr) (n c : Nat) : Value := .agg #[.int .i64 o.code, .int .i64 o.value, .slice A n c, .int .i64 o.used]

set_option maxHeartbeats 400000 in
theorem szOutcome_any (o : Oc) (A : Option Addr) (n c : Nat) (left : Int) (w : World) (hn : n ≤ maxLen) (h0 : 0 ≤ left) (h1 : left ≤ 1048576) :
    Calls Try.prog 5 #[ocV o A n c, .int .i64 left] w fun e w' => e = .returned (.int .i64 (szA n left)) ∧ Below w.heap.size w w' := by
  have hb := (Below.refl w.heap.size w).alloc (Nat.le_refl _) (Obj.cells #[.int .i64 o.code, .int .i64 o.value, .slice A n c, .int .i64 o.used] 24)
  have hst := szInts_any A n c left (w.alloc (.cells #[.int .i64 o.code, .int .i64 o.value, .slice A n c, .int .i64 o.used] 24)) hn h0 h1
  unfold ocV
  by_cases h : (n : Int) ≤ left
  · rw [szA_fit h] at hst ⊢
    go_enter Try.func5, Try.ntmps5
    go_wp2_with fail
    refine hst.mono ?_
    rintro e w1 ⟨rfl, rfl⟩
    go_wp2
    go_ret
    exact ⟨rfl, hb⟩
  · have h := Int.not_le.1 h
    rw [szA_no h] at hst ⊢
    go_enter Try.func5, Try.ntmps5
    go_wp2_with fail
    refine hst.mono ?_
    rintro e w1 ⟨rfl, rfl⟩
    go_wp2
    go_ret
    exact ⟨rfl, hb⟩

set_option maxHeartbeats 1000000 in
set_option maxRecDepth 100000 in
theorem toOutcome_any (o : Oc) (A : Option Addr) (n c : Nat) (w : World) (hr : Reads w w.heap.size .i64 A n o.trace) (hs : n ≤ 1048576) :
    Calls Try.prog 7 #[ocV o A n c] w fun e w' => ∃ B, e = .returned (ocV o B n n) ∧ MInts w' w.heap.size B n o.trace ∧ Below w.heap.size w w' := by
  unfold ocV
  go_enter Try.func7, Try.ntmps7
  go_wp2_with fail
  have hb0 : Below w.heap.size w (((w.alloc (.cells #[.int .i64 o.code, .int .i64 o.value, .slice A n c, .int .i64 o.used] 24)).alloc (.cells #[.int .i64 0, .int .i64 0, .slice none 0 0, .int .i64 0] 28)).alloc (.cells #[.int .i64 o.code, .int .i64 o.value, .slice none 0 0, .int .i64 0] 28)) :=
    (((Below.refl _ _).alloc (Nat.le_refl _) _).alloc (by simp) _).alloc (by simp; omega) _
  have hx0 : Keep (((w.alloc (.cells #[.int .i64 o.code, .int .i64 o.value, .slice A n c, .int .i64 o.used] 24)).alloc (.cells #[.int .i64 0, .int .i64 0, .slice none 0 0, .int .i64 0] 28)).alloc (.cells #[.int .i64 o.code, .int .i64 o.value, .slice none 0 0, .int .i64 0] 28)) w.heap.size #[.int .i64 o.code, .int .i64 o.value, .slice A n c, .int .i64 o.used] 24 := ((Keep.new _ _ _).alloc _).alloc _
  have hy0 : Keep (((w.alloc (.cells #[.int .i64 o.code, .int .i64 o.value, .slice A n c, .int .i64 o.used] 24)).alloc (.cells #[.int .i64 0, .int .i64 0, .slice none 0 0, .int .i64 0] 28)).alloc (.cells #[.int .i64 o.code, .int .i64 o.value, .slice none 0 0, .int .i64 0] 28)) (w.heap.size + 1) #[.int .i64 0, .int .i64 0, .slice none 0 0, .int .i64 0] 28 := by
    have := Keep.new (w.alloc (.cells #[.int .i64 o.code, .int .i64 o.value, .slice A n c, .int .i64 o.used] 24)) #[.int .i64 0, .int .i64 0, .slice none 0 0, .int .i64 0] 28
    rw [World.size_alloc] at this
    exact this.alloc _
  have hz0 : Keep (((w.alloc (.cells #[.int .i64 o.code, .int .i64 o.value, .slice A n c, .int .i64 o.used] 24)).alloc (.cells #[.int .i64 0, .int .i64 0, .slice none 0 0, .int .i64 0] 28)).alloc (.cells #[.int .i64 o.code, .int .i64 o.value, .slice none 0 0, .int .i64 0] 28)) (w.heap.size + 1 + 1) #[.int .i64 o.code, .int .i64 o.value, .slice none 0 0, .int .i64 0] 28 := by
    have := Keep.new ((w.alloc (.cells #[.int .i64 o.code, .int .i64 o.value, .slice A n c, .int .i64 o.used] 24)).alloc (.cells #[.int .i64 0, .int .i64 0, .slice none 0 0, .int .i64 0] 28)) #[.int .i64 o.code, .int .i64 o.value, .slice none 0 0, .int .i64 0] 28
    rw [World.size_alloc, World.size_alloc] at this
    exact this
  generalize hW0 : ((w.alloc (.cells #[.int .i64 o.code, .int .i64 o.value, .slice A n c, .int .i64 o.used] 24)).alloc (.cells #[.int .i64 0, .int .i64 0, .slice none 0 0, .int .i64 0] 28)).alloc (.cells #[.int .i64 o.code, .int .i64 o.value, .slice none 0 0, .int .i64 0] 28) = W0 at hb0 hx0 hy0 hz0 ⊢
  clear hW0
  refine (toInts_m A n c o.trace _ (hr.now hb0) hs).mono ?_
  rintro e V0 ⟨B, rfl, m1, hc0⟩
  have s0 := hb0.size
  have t0 := hc0.size
  have l0z := hz0.lt
  replace hx0 := hx0.below hc0
  replace hy0 := hy0.below hc0
  replace hz0 := hz0.below hc0
  replace hb0 : Below w.heap.size w V0 := hb0.trans (hc0.mono hb0.size)
  replace m1 := m1.same ((SameFrom.setCell V0 (w.heap.size + 1 + 1) 2 (.slice B n n)).mono (by omega))
  have hx1 := hx0.other (g' := w.heap.size + 1 + 1) (by omega) 2 (.slice B n n)
  have hy1 := hy0.other (g' := w.heap.size + 1 + 1) (by omega) 2 (.slice B n n)
  have hz1 := hz0.set 2 (.slice B n n)
  have q2 := hz0.cell 2
  have q3 := hz0.frozen 2
  have q4 := hz0.cell 3
  have q5 := hz0.frozen 3
  simp at q2 q4
  have hb1 : Below w.heap.size w (V0.setCell ⟨w.heap.size + 1 + 1, 2, none⟩ (.slice B n n)) := hb0.setCell (by simp; omega) _
  have q1 := hx0.cell 3
  simp at q1
  have z0 := hz0.cell 0
  have z1 := hz0.cell 1
  have y0 := hy0.cell 0
  have f0 := hy0.frozen 0
  have y1 := hy0.cell 1
  have f1 := hy0.frozen 1
  have y2 := hy0.cell 2
  have f2 := hy0.frozen 2
  have y3 := hy0.cell 3
  have f3 := hy0.frozen 3
  simp at z0 z1 y0 y1 y2 y3
  replace m1 := m1.same ((SameFrom.setCell _ (w.heap.size + 1 + 1) 3 (.int .i64 o.used)).mono (by omega))
  have hy2 := hy1.other (g' := w.heap.size + 1 + 1) (by omega) 3 (.int .i64 o.used)
  have hb2 : Below w.heap.size w ((V0.setCell ⟨w.heap.size + 1 + 1, 2, none⟩ (.slice B n n)).setCell ⟨w.heap.size + 1 + 1, 3, none⟩ (.int .i64 o.used)) := hb1.setCell (by simp; omega) _
  clear hx0 hy0 hz0 hb0 hc0 hx1 hy1 hz1 hb1
  go_wp2
  replace m1 := m1.same ((SameFrom.setCell _ (w.heap.size + 1) 0 (.int .i64 o.code)).mono (by omega))
  replace m1 := m1.same ((SameFrom.setCell _ (w.heap.size + 1) 1 (.int .i64 o.value)).mono (by omega))
  replace m1 := m1.same ((SameFrom.setCell _ (w.heap.size + 1) 2 (.slice B n n)).mono (by omega))
  replace m1 := m1.same ((SameFrom.setCell _ (w.heap.size + 1) 3 (.int .i64 o.used)).mono (by omega))
  have hyF := ((((hy2.set 0 (.int .i64 o.code)).set 1 (.int .i64 o.value)).set 2 (.slice B n n)).set 3 (.int .i64 o.used))
  have r0 := hyF.cell 0
  have r1 := hyF.cell 1
  have r2 := hyF.cell 2
  have r3 := hyF.cell 3
  simp at r0 r1 r2 r3
  have hbF := ((((hb2.setCell (p := ⟨w.heap.size + 1, 0, none⟩) (Nat.le_succ _) (.int .i64 o.code)).setCell (p := ⟨w.heap.size + 1, 1, none⟩) (Nat.le_succ _) (.int .i64 o.value)).setCell (p := ⟨w.heap.size + 1, 2, none⟩) (Nat.le_succ _) (.slice B n n)).setCell (p := ⟨w.heap.size + 1, 3, none⟩) (Nat.le_succ _) (.int .i64 o.used))
  clear hyF z0 y0 f0 z1 y1 f1 y2 f2 y3 f3 q1 q2 q3 q4 q5
  exact bodyPost_ret (v := .agg #[.int .i64 o.code, .int .i64 o.value, .slice B n n, .int .i64 o.used]) (by simp [results, Try.results7, go_sem, r0, r1, r2, r3]) rfl ⟨B, rfl, m1.from (by omega), hbF⟩

set_option maxHeartbeats 1000000 in
set_option maxRecDepth 100000 in
theorem eqOutcome_same (o : Oc) (A : Option Addr) (n c : Nat) (B : Option Addr) (d : Nat) (w : World) (hr : Reads w w.heap.size .i64 A n o.trace) (hr' : Reads w w.heap.size .i64 B n o.trace) (hs : n ≤ 1048576) :
    Calls Try.prog 9 #[ocV o A n c, ocV o B n d] w fun e w' => e = .returned (.bool true) ∧ Below w.heap.size w w' := by
  unfold ocV
  go_enter Try.func9, Try.ntmps9
  go_wp2_with fail
  have hb0 : Below w.heap.size w ((w.alloc (.cells #[.int .i64 o.code, .int .i64 o.value, .slice A n c, .int .i64 o.used] 28)).alloc (.cells #[.int .i64 o.code, .int .i64 o.value, .slice B n d, .int .i64 o.used] 28)) := ((Below.refl _ _).alloc (Nat.le_refl _) _).alloc (by simp) _
  have hx0 : Keep ((w.alloc (.cells #[.int .i64 o.code, .int .i64 o.value, .slice A n c, .int .i64 o.used] 28)).alloc (.cells #[.int .i64 o.code, .int .i64 o.value, .slice B n d, .int .i64 o.used] 28)) w.heap.size #[.int .i64 o.code, .int .i64 o.value, .slice A n c, .int .i64 o.used] 28 := (Keep.new _ _ _).alloc _
  have hy0 : Keep ((w.alloc (.cells #[.int .i64 o.code, .int .i64 o.value, .slice A n c, .int .i64 o.used] 28)).alloc (.cells #[.int .i64 o.code, .int .i64 o.value, .slice B n d, .int .i64 o.used] 28)) (w.heap.size + 1) #[.int .i64 o.code, .int .i64 o.value, .slice B n d, .int .i64 o.used] 28 := by
    have := Keep.new (w.alloc (.cells #[.int .i64 o.code, .int .i64 o.value, .slice A n c, .int .i64 o.used] 28)) #[.int .i64 o.code, .int .i64 o.value, .slice B n d, .int .i64 o.used] 28
    rw [World.size_alloc] at this
    exact this
  generalize hW0 : (w.alloc (.cells #[.int .i64 o.code, .int .i64 o.value, .slice A n c, .int .i64 o.used] 28)).alloc (.cells #[.int .i64 o.code, .int .i64 o.value, .slice B n d, .int .i64 o.used] 28) = W0 at hb0 hx0 hy0 ⊢
  clear hW0
  refine (eqInts_below A B n c d o.trace _ (hr.now hb0) (hr'.now hb0) hs).mono ?_
  rintro e W1 ⟨rfl, hc0⟩
  have hb1 : Below w.heap.size w W1 := hb0.trans (hc0.mono hb0.size)
  have hx1 := hx0.below hc0
  have hy1 := hy0.below hc0
  clear hx0 hy0 hc0 hb0
  have q1 := hx1.cell 3
  have q2 := hy1.cell 3
  simp at q1 q2
  go_wp2
  go_ret
  exact ⟨rfl, hb1⟩

section
variable {H : Type} {enc : TypeId × Value → H} {w : World} {held : Bool}
set_option maxRecDepth 100000 in
/-- An outcome that came in. -/
theorem open_outcome {r : Reach} {b0 : Nat} {v : Value} {d : DataW H} {p : List MemPlace} (hv : Value.okWide Try.prog w r b0 24 v) (h : DataW.Trod enc Try.prog w 0 (fun _ => true) held 24 v d p) :
    ∃ o A n c, v = ocV o A n c ∧ Reads w w.heap.size .i64 A n o.trace ∧ n ≤ maxLen := by
  obtain ⟨v0, v1, v2, v3, y0, y1, y2, y3, n, rfl, _, _, h0, h1, h2, h3⟩ := Go.Joins.open_agg4 Try.underlying24 (by kernel_rfl) (by kernel_rfl) hv h
  obtain ⟨a, rfl⟩ := cell_int h0
  obtain ⟨b, rfl⟩ := cell_int h1
  obtain ⟨A1, n1, c1, bo, rfl, r1, l1⟩ := cell_reads Try.underlying22 h2
  obtain ⟨u, rfl⟩ := cell_int h3
  exact ⟨⟨a, b, u, bo⟩, A1, n1, c1, rfl, r1, l1⟩
end

end Go.Proofs.Ytaogdaoiijmmhaa

/-
  The laws' copying of programs: contracts.
  The laws' marks on a copied program: numbers over numbers, in the copy's own blocks alone. Contracts.
  Contracts of the functions that tell what tokens take: params, known tokens, NeedsOf, of the program and of the reference.
  Contracts of the functions that tell how high the pile gets, of the program and of the reference: GoodExpr, HighOf and what they call.
  The program's small functions on statements: contracts.
  The program's tests of expressions and of calls put off, and the Params of a program: contracts.
  The reference's lists made of programs and functions: contracts.
  The laws' marks on a copied program, and on a row of numbers of the call's own: contracts.
  A row of numbers of the call's own: the laws' marks on it, what a marked program leaves of it. Contracts.
-/
import Derived.Test.YtfdijeeilfhjeaaPkA
namespace Go.Proofs.Ytfdijeeilfhjeaa
open Go.RowKit Exs

/-- Block g of the world holds just these cells, none frozen. -/
def Keep (w : World) (g : Nat) (cs : Array Value) (t : TypeId) : Prop := w.heap[g]? = some (.cells cs t (0, 0))
section
variable {w w' : World} {g g' i : Nat} {cs : Array Value} {t : TypeId} {v : Value}
theorem Keep.new (w : World) (cs : Array Value) (t : TypeId) : Keep (w.alloc (.cells cs t)) w.heap.size cs t := heap_alloc_new _ _
theorem Keep.lt (h : Keep w g cs t) : g < w.heap.size := (Array.getElem?_eq_some_iff.1 h).1
theorem Keep.alloc (h : Keep w g cs t) (o : Obj) : Keep (w.alloc o) g cs t := (Below.heap_alloc _ _ _ h.lt).trans h
theorem Keep.below (h : Keep w g cs t) (hb : Below w.heap.size w w') : Keep w' g cs t := (hb.block g h.lt).trans h
theorem Keep.set (h : Keep w g cs t) (i : Nat) (v : Value) : Keep (w.setCell ⟨g, i, none⟩ v) g (cs.setIfInBounds i v) t := heap_set h
theorem Keep.other (h : Keep w g cs t) (hg : g ≠ g') (i : Nat) (v : Value) : Keep (w.setCell ⟨g', i, none⟩ v) g cs t := (Below.heap_setCell _ _ _ _ hg).trans h
theorem Keep.cell (h : Keep w g cs t) (i : Nat) : w.cell? ⟨g, i, none⟩ = cs[i]? := cell_of_row w g i cs t (0, 0) h
theorem Keep.frozen (h : Keep w g cs t) (i : Nat) : w.frozen? ⟨g, i, none⟩ = false := by
  unfold Keep at h
  simp [World.frozen?, h]
end

theorem toInts_m (A : Option Addr) (n c : Nat) (xs : List Int) (w : World) (hr : Reads w w.heap.size .i64 A n xs) (hn : n ≤ 1048576) :
    Calls Try.prog 47 #[.slice A n c] w fun e w' => ∃ B, e = .returned (.slice B n n) ∧ MInts w' w.heap.size B n xs ∧ Below w.heap.size w w' :=
  (toInts_any A n c xs w hr hn).mono fun _ _ ⟨he, hroom, hb⟩ => ⟨_, he, ⟨_, rfl, Nat.le_refl _, hroom, hr.1⟩, hb⟩
theorem toToks_m (A : Option Addr) (n c : Nat) (xs : List Token) (w : World) (hr : ReadsT w w.heap.size A n xs) (hn : n ≤ 1048576) :
    Calls Try.prog 110 #[.slice A n c] w fun e w' => ∃ B, e = .returned (.slice B n n) ∧ MToks w' w.heap.size B n xs ∧ Below w.heap.size w w' :=
  (toToks_any A n c xs w hr hn).mono fun _ _ ⟨he, hroom, hb⟩ => ⟨_, he, ⟨_, rfl, Nat.le_refl _, hroom, hr.1⟩, hb⟩

set_option maxHeartbeats 1000000 in
set_option maxRecDepth 100000 in
theorem toStmt_any (s : St) (A1 : Option Addr) (n1 c1 : Nat) (A2 : Option Addr) (n2 c2 : Nat) (A3 : Option Addr) (n3 c3 : Nat) (w : World) (hr : IsSt w w.heap.size s A1 n1 A2 n2 A3 n3) (hs : SmallS s) :
    Calls Try.prog 89 #[stV s A1 n1 c1 A2 n2 c2 A3 n3 c3] w fun e w' => ∃ B1 B2 B3, e = .returned (stV s B1 n1 n1 B2 n2 n2 B3 n3 n3) ∧ MSt w' w.heap.size s B1 n1 B2 n2 B3 n3 ∧ Below w.heap.size w w' := by
  obtain ⟨l1, l2, l3⟩ := hs
  rw [hr.ex.1] at l1; rw [hr.th.1] at l2; rw [hr.el.1] at l3
  unfold stV
  go_enter Try.func89, Try.ntmps89
  go_wp2_with fail
  have hb0 : Below w.heap.size w (((w.alloc (.cells #[.int .i64 s.kind, .int .i64 s.n, .slice A1 n1 c1, .slice A2 n2 c2, .slice A3 n3 c3] 131)).alloc (.cells #[.int .i64 0, .int .i64 0, .slice none 0 0, .slice none 0 0, .slice none 0 0] 106)).alloc (.cells #[.int .i64 s.kind, .int .i64 s.n, .slice none 0 0, .slice none 0 0, .slice none 0 0] 106)) :=
    (((Below.refl _ _).alloc (Nat.le_refl _) _).alloc (by simp) _).alloc (by simp; omega) _
  have hx0 : Keep (((w.alloc (.cells #[.int .i64 s.kind, .int .i64 s.n, .slice A1 n1 c1, .slice A2 n2 c2, .slice A3 n3 c3] 131)).alloc (.cells #[.int .i64 0, .int .i64 0, .slice none 0 0, .slice none 0 0, .slice none 0 0] 106)).alloc (.cells #[.int .i64 s.kind, .int .i64 s.n, .slice none 0 0, .slice none 0 0, .slice none 0 0] 106)) w.heap.size #[.int .i64 s.kind, .int .i64 s.n, .slice A1 n1 c1, .slice A2 n2 c2, .slice A3 n3 c3] 131 := ((Keep.new _ _ _).alloc _).alloc _
  have hy0 : Keep (((w.alloc (.cells #[.int .i64 s.kind, .int .i64 s.n, .slice A1 n1 c1, .slice A2 n2 c2, .slice A3 n3 c3] 131)).alloc (.cells #[.int .i64 0, .int .i64 0, .slice none 0 0, .slice none 0 0, .slice none 0 0] 106)).alloc (.cells #[.int .i64 s.kind, .int .i64 s.n, .slice none 0 0, .slice none 0 0, .slice none 0 0] 106)) (w.heap.size + 1) #[.int .i64 0, .int .i64 0, .slice none 0 0, .slice none 0 0, .slice none 0 0] 106 := by
    have := Keep.new (w.alloc (.cells #[.int .i64 s.kind, .int .i64 s.n, .slice A1 n1 c1, .slice A2 n2 c2, .slice A3 n3 c3] 131)) #[.int .i64 0, .int .i64 0, .slice none 0 0, .slice none 0 0, .slice none 0 0] 106
    rw [World.size_alloc] at this
    exact this.alloc _
  have hz0 : Keep (((w.alloc (.cells #[.int .i64 s.kind, .int .i64 s.n, .slice A1 n1 c1, .slice A2 n2 c2, .slice A3 n3 c3] 131)).alloc (.cells #[.int .i64 0, .int .i64 0, .slice none 0 0, .slice none 0 0, .slice none 0 0] 106)).alloc (.cells #[.int .i64 s.kind, .int .i64 s.n, .slice none 0 0, .slice none 0 0, .slice none 0 0] 106)) (w.heap.size + 1 + 1) #[.int .i64 s.kind, .int .i64 s.n, .slice none 0 0, .slice none 0 0, .slice none 0 0] 106 := by
    have := Keep.new ((w.alloc (.cells #[.int .i64 s.kind, .int .i64 s.n, .slice A1 n1 c1, .slice A2 n2 c2, .slice A3 n3 c3] 131)).alloc (.cells #[.int .i64 0, .int .i64 0, .slice none 0 0, .slice none 0 0, .slice none 0 0] 106)) #[.int .i64 s.kind, .int .i64 s.n, .slice none 0 0, .slice none 0 0, .slice none 0 0] 106
    rw [World.size_alloc, World.size_alloc] at this
    exact this
  generalize hW0 : ((w.alloc (.cells #[.int .i64 s.kind, .int .i64 s.n, .slice A1 n1 c1, .slice A2 n2 c2, .slice A3 n3 c3] 131)).alloc (.cells #[.int .i64 0, .int .i64 0, .slice none 0 0, .slice none 0 0, .slice none 0 0] 106)).alloc (.cells #[.int .i64 s.kind, .int .i64 s.n, .slice none 0 0, .slice none 0 0, .slice none 0 0] 106) = W0 at hb0 hx0 hy0 hz0 ⊢
  clear hW0
  refine (toToks_m A1 n1 c1 s.ex _ (hr.ex.now hb0) l1).mono ?_
  rintro e V0 ⟨B1, rfl, m1, hc0⟩
  have s0 := hb0.size
  have t0 := hc0.size
  have l0z := hz0.lt
  replace hx0 := hx0.below hc0
  replace hy0 := hy0.below hc0
  replace hz0 := hz0.below hc0
  replace hb0 : Below w.heap.size w V0 := hb0.trans (hc0.mono hb0.size)
  replace m1 := m1.same ((SameFrom.setCell V0 (w.heap.size + 1 + 1) 2 (.slice B1 n1 n1)).mono (by omega))
  have hx1 := hx0.other (g' := w.heap.size + 1 + 1) (by omega) 2 (.slice B1 n1 n1)
  have hy1 := hy0.other (g' := w.heap.size + 1 + 1) (by omega) 2 (.slice B1 n1 n1)
  have hz1 := hz0.set 2 (.slice B1 n1 n1)
  have q2 := hz0.cell 2
  have q3 := hz0.frozen 2
  simp at q2
  have hb1 : Below w.heap.size w (V0.setCell ⟨w.heap.size + 1 + 1, 2, none⟩ (.slice B1 n1 n1)) := hb0.setCell (by simp; omega) _
  have q1 := hx0.cell 3
  simp at q1
  clear hx0 hy0 hz0 hb0 hc0
  go_wp2_with fail
  generalize hW : V0.setCell ⟨w.heap.size + 1 + 1, 2, none⟩ (.slice B1 n1 n1) = W1 at m1 hx1 hy1 hz1 hb1 ⊢
  clear hW q1 q2 q3
  refine (toInts_m A2 n2 c2 s.th _ (hr.th.now hb1) l2).mono ?_
  rintro e V1 ⟨B2, rfl, m2, hc1⟩
  have s1 := hb1.size
  have t1 := hc1.size
  have l1z := hz1.lt
  replace m1 := m1.same (SameFrom.of_below hc1)
  replace hx1 := hx1.below hc1
  replace hy1 := hy1.below hc1
  replace hz1 := hz1.below hc1
  replace hb1 : Below w.heap.size w V1 := hb1.trans (hc1.mono hb1.size)
  replace m1 := m1.same ((SameFrom.setCell V1 (w.heap.size + 1 + 1) 3 (.slice B2 n2 n2)).mono (by omega))
  replace m2 := m2.same ((SameFrom.setCell V1 (w.heap.size + 1 + 1) 3 (.slice B2 n2 n2)).mono (by omega))
  have hx2 := hx1.other (g' := w.heap.size + 1 + 1) (by omega) 3 (.slice B2 n2 n2)
  have hy2 := hy1.other (g' := w.heap.size + 1 + 1) (by omega) 3 (.slice B2 n2 n2)
  have hz2 := hz1.set 3 (.slice B2 n2 n2)
  have q2 := hz1.cell 3
  have q3 := hz1.frozen 3
  simp at q2
  have hb2 : Below w.heap.size w (V1.setCell ⟨w.heap.size + 1 + 1, 3, none⟩ (.slice B2 n2 n2)) := hb1.setCell (by simp; omega) _
  have q1 := hx1.cell 4
  simp at q1
  clear hx1 hy1 hz1 hb1 hc1
  go_wp2_with fail
  generalize hW : V1.setCell ⟨w.heap.size + 1 + 1, 3, none⟩ (.slice B2 n2 n2) = W2 at m1 m2 hx2 hy2 hz2 hb2 ⊢
  clear hW q1 q2 q3
  refine (toInts_m A3 n3 c3 s.el _ (hr.el.now hb2) l3).mono ?_
  rintro e V2 ⟨B3, rfl, m3, hc2⟩
  have s2 := hb2.size
  have t2 := hc2.size
  have l2z := hz2.lt
  replace m1 := m1.same (SameFrom.of_below hc2)
  replace m2 := m2.same (SameFrom.of_below hc2)
  replace hx2 := hx2.below hc2
  replace hy2 := hy2.below hc2
  replace hz2 := hz2.below hc2
  replace hb2 : Below w.heap.size w V2 := hb2.trans (hc2.mono hb2.size)
  replace m1 := m1.same ((SameFrom.setCell V2 (w.heap.size + 1 + 1) 4 (.slice B3 n3 n3)).mono (by omega))
  replace m2 := m2.same ((SameFrom.setCell V2 (w.heap.size + 1 + 1) 4 (.slice B3 n3 n3)).mono (by omega))
  replace m3 := m3.same ((SameFrom.setCell V2 (w.heap.size + 1 + 1) 4 (.slice B3 n3 n3)).mono (by omega))
  have hx3 := hx2.other (g' := w.heap.size + 1 + 1) (by omega) 4 (.slice B3 n3 n3)
  have hy3 := hy2.other (g' := w.heap.size + 1 + 1) (by omega) 4 (.slice B3 n3 n3)
  have hz3 := hz2.set 4 (.slice B3 n3 n3)
  have q2 := hz2.cell 4
  have q3 := hz2.frozen 4
  simp at q2
  have hb3 : Below w.heap.size w (V2.setCell ⟨w.heap.size + 1 + 1, 4, none⟩ (.slice B3 n3 n3)) := hb2.setCell (by simp; omega) _
  have z0 := hz2.cell 0
  have z1 := hz2.cell 1
  have z2 := hz2.cell 2
  have z3 := hz2.cell 3
  have y0 := hy2.cell 0
  have f0 := hy2.frozen 0
  have y1 := hy2.cell 1
  have f1 := hy2.frozen 1
  have y2 := hy2.cell 2
  have f2 := hy2.frozen 2
  have y3 := hy2.cell 3
  have f3 := hy2.frozen 3
  have y4 := hy2.cell 4
  have f4 := hy2.frozen 4
  simp at z0 z1 z2 z3 y0 y1 y2 y3 y4
  clear hx2 hy2 hz2 hb2 hc2 hx3
  go_wp2
  replace m1 := m1.same ((SameFrom.setCell _ (w.heap.size + 1) 0 (.int .i64 s.kind)).mono (by omega))
  replace m1 := m1.same ((SameFrom.setCell _ (w.heap.size + 1) 1 (.int .i64 s.n)).mono (by omega))
  replace m1 := m1.same ((SameFrom.setCell _ (w.heap.size + 1) 2 (.slice B1 n1 n1)).mono (by omega))
  replace m1 := m1.same ((SameFrom.setCell _ (w.heap.size + 1) 3 (.slice B2 n2 n2)).mono (by omega))
  replace m1 := m1.same ((SameFrom.setCell _ (w.heap.size + 1) 4 (.slice B3 n3 n3)).mono (by omega))
  replace m2 := m2.same ((SameFrom.setCell _ (w.heap.size + 1) 0 (.int .i64 s.kind)).mono (by omega))
  replace m2 := m2.same ((SameFrom.setCell _ (w.heap.size + 1) 1 (.int .i64 s.n)).mono (by omega))
  replace m2 := m2.same ((SameFrom.setCell _ (w.heap.size + 1) 2 (.slice B1 n1 n1)).mono (by omega))
  replace m2 := m2.same ((SameFrom.setCell _ (w.heap.size + 1) 3 (.slice B2 n2 n2)).mono (by omega))
  replace m2 := m2.same ((SameFrom.setCell _ (w.heap.size + 1) 4 (.slice B3 n3 n3)).mono (by omega))
  replace m3 := m3.same ((SameFrom.setCell _ (w.heap.size + 1) 0 (.int .i64 s.kind)).mono (by omega))
  replace m3 := m3.same ((SameFrom.setCell _ (w.heap.size + 1) 1 (.int .i64 s.n)).mono (by omega))
  replace m3 := m3.same ((SameFrom.setCell _ (w.heap.size + 1) 2 (.slice B1 n1 n1)).mono (by omega))
  replace m3 := m3.same ((SameFrom.setCell _ (w.heap.size + 1) 3 (.slice B2 n2 n2)).mono (by omega))
  replace m3 := m3.same ((SameFrom.setCell _ (w.heap.size + 1) 4 (.slice B3 n3 n3)).mono (by omega))
  have hyF := (((((hy3.set 0 (.int .i64 s.kind)).set 1 (.int .i64 s.n)).set 2 (.slice B1 n1 n1)).set 3 (.slice B2 n2 n2)).set 4 (.slice B3 n3 n3))
  have r0 := hyF.cell 0
  have r1 := hyF.cell 1
  have r2 := hyF.cell 2
  have r3 := hyF.cell 3
  have r4 := hyF.cell 4
  simp at r0 r1 r2 r3 r4
  have hbF := (((((hb3.setCell (p := ⟨w.heap.size + 1, 0, none⟩) (Nat.le_succ _) (.int .i64 s.kind)).setCell (p := ⟨w.heap.size + 1, 1, none⟩) (Nat.le_succ _) (.int .i64 s.n)).setCell (p := ⟨w.heap.size + 1, 2, none⟩) (Nat.le_succ _) (.slice B1 n1 n1)).setCell (p := ⟨w.heap.size + 1, 3, none⟩) (Nat.le_succ _) (.slice B2 n2 n2)).setCell (p := ⟨w.heap.size + 1, 4, none⟩) (Nat.le_succ _) (.slice B3 n3 n3))
  clear hyF z0 y0 f0 z1 y1 f1 z2 y2 f2 z3 y3 f3 y4 f4
  exact bodyPost_ret (v := .agg #[.int .i64 s.kind, .int .i64 s.n, .slice B1 n1 n1, .slice B2 n2 n2, .slice B3 n3 n3]) (by simp [results, Try.results89, go_sem, r0, r1, r2, r3, r4]) rfl ⟨B1, B2, B3, rfl, ⟨m1.from (by omega), m2.from (by omega), m3.from (by omega)⟩, hbF⟩

theorem Try.info106 : (Try.prog.info? 106).map (fun i => (i.zero, i.size, i.bytes)) = some (some (.agg #[.int .i64 0, .int .i64 0, .slice none 0 0, .slice none 0 0, .slice none 0 0]), 5, 88) := by kernel_rfl
theorem Try.info58 : (Try.prog.info? 58).map (fun i => (i.zero, i.size, i.bytes)) = some (some (.agg #[.int .i64 0, .int .i64 0, .slice none 0 0, .slice none 0 0]), 4, 64) := by kernel_rfl
theorem RoomS.made (w : World) (n : Nat) (z : Array Value) (m : Nat) (hm : m = n * 5) : RoomS (w.alloc (.cells (madeCells z m) 106)) w.heap.size n [] :=
  ⟨_, heap_alloc_new _ _, by rw [size_madeCells]; omega, fun j s hj => by simp at hj⟩
theorem RoomF.made (w : World) (n : Nat) (z : Array Value) (m : Nat) (hm : m = n * 4) : RoomF (w.alloc (.cells (madeCells z m) 58)) w.heap.size n [] :=
  ⟨_, heap_alloc_new _ _, by rw [size_madeCells]; omega, fun j s hj => by simp at hj⟩

set_option maxHeartbeats 1000000 in
set_option maxRecDepth 100000 in
theorem toStmts_any (A : Option Addr) (n c : Nat) (ss : List St) (w : World) (hr : ReadsS w w.heap.size A n ss) (hn : n ≤ 1048576) (hs : ∀ s ∈ ss, SmallS s) :
    Calls Try.prog 64 #[.slice A n c] w fun e w' => ∃ B, e = .returned (.slice B n n) ∧ MStmts w' w.heap.size B n ss ∧ Below w.heap.size w w' := by
  have hmk := fun W => run_make_rows (P := Try.prog) 56 106 (.agg #[.int .i64 0, .int .i64 0, .slice none 0 0, .slice none 0 0, .slice none 0 0]) 5 88 Try.underlying56 Try.info106 n (by omega) (by omega) W
  go_enter Try.func64, Try.ntmps64
  go_wp2
  go_loopw [4] (fun i wr => ∃ k : Nat, k ≤ n ∧ i = .int .i64 k ∧ RoomS wr w.heap.size n (ss.take k) ∧ Below w.heap.size w wr) (fun i _ => n - (intOf i).toNat)
  case atStart => exact ⟨0, Nat.zero_le _, rfl, RoomS.made w n _ _ rfl, (Below.refl _ _).alloc (Nat.le_refl _) _⟩
  case round =>
    obtain ⟨k, hk, rfl, hroom, hbel⟩ := hrel
    clear hmk
    by_cases hlt : k < n
    · obtain ⟨b, off, s, A1, n1, c1, A2, n2, c2, A3, n3, c3, rfl, hb, g0, g1, g2, g3, g4, r1, r2, r3, hx⟩ := (hr.below hbel).at_ hlt
      go_wp2_with fail
      refine (toStmt_any s _ _ _ _ _ _ _ _ _ _ (IsSt.more ⟨r1, r2, r3⟩ hbel.size) (hs _ (mem_of_at hx.out))).mono ?_
      rintro e w1 ⟨B1, B2, B3, rfl, hm, hb1⟩
      have hroom1 := hroom.same (SameFrom.of_below hb1)
      have hbel1 : Below w.heap.size w w1 := hbel.trans (hb1.mono hbel.size)
      obtain ⟨d0, hd0⟩ := hroom1.at_ (k * 5) (by omega)
      obtain ⟨d1, hd1⟩ := hroom1.at_ (k * 5 + 1) (by omega)
      obtain ⟨d2, hd2⟩ := hroom1.at_ (k * 5 + 2) (by omega)
      obtain ⟨d3, hd3⟩ := hroom1.at_ (k * 5 + 3) (by omega)
      obtain ⟨d4, hd4⟩ := hroom1.at_ (k * 5 + 4) (by omega)
      have hf0 := hroom1.frozen (k * 5)
      have hf1 := hroom1.frozen (k * 5 + 1)
      have hf2 := hroom1.frozen (k * 5 + 2)
      have hf3 := hroom1.frozen (k * 5 + 3)
      have hf4 := hroom1.frozen (k * 5 + 4)
      have hlen : (ss.take k).length = k := by rw [List.length_take, hr.1]; omega
      have hpush := hroom1.push (by rw [hlen]; exact hlt) s B1 n1 n1 B2 n2 n2 B3 n3 n3 (hm.from hroom.lt)
      rw [hlen, ← takeA_more hx.out] at hpush
      have HP := put hpush; clear hpush hlen g0 g1 g2 g3 g4 hb1 hroom hroom1 hm r1 r2 r3
      unfold stV
      go_wp2
      go_roundw
      case rel => exact ⟨k + 1, by omega, by go_num, HP.out, ((((hbel1.setCell (by simp) _).setCell (by simp) _).setCell (by simp) _).setCell (by simp) _).setCell (by simp) _⟩
      case measure => simp [intOf]; omega
    · have hfin := put (show ss.take k = ss from List.take_of_length_le (by rw [hr.1]; omega))
      go_wp2
      go_ret
      exact ⟨_, rfl, ⟨_, rfl, Nat.le_refl _, by rw [hfin.out] at hroom; exact hroom, hr.1⟩, hbel⟩

set_option maxHeartbeats 1000000 in
set_option maxRecDepth 100000 in
theorem toFunc_any (f : Fc) (A1 : Option Addr) (n1 c1 : Nat) (A2 : Option Addr) (n2 c2 : Nat) (w : World) (hr : IsFc w w.heap.size f A1 n1 A2 n2) (hs : SmallF f) :
    Calls Try.prog 22 #[fcV f A1 n1 c1 A2 n2 c2] w fun e w' => ∃ B1 B2, e = .returned (fcV f B1 n1 n1 B2 n2 n2) ∧ MFc w' w.heap.size f B1 n1 B2 n2 ∧ Below w.heap.size w w' := by
  obtain ⟨l1, l2, l3⟩ := hs
  rw [hr.body.1] at l1; rw [hr.stmts.1] at l2
  unfold fcV
  go_enter Try.func22, Try.ntmps22
  go_wp2_with fail
  have hb0 : Below w.heap.size w (((w.alloc (.cells #[.int .i64 f.params, .int .i64 f.vars, .slice A1 n1 c1, .slice A2 n2 c2] 52)).alloc (.cells #[.int .i64 0, .int .i64 0, .slice none 0 0, .slice none 0 0] 58)).alloc (.cells #[.int .i64 f.params, .int .i64 f.vars, .slice none 0 0, .slice none 0 0] 58)) :=
    (((Below.refl _ _).alloc (Nat.le_refl _) _).alloc (by simp) _).alloc (by simp; omega) _
  have hx0 : Keep (((w.alloc (.cells #[.int .i64 f.params, .int .i64 f.vars, .slice A1 n1 c1, .slice A2 n2 c2] 52)).alloc (.cells #[.int .i64 0, .int .i64 0, .slice none 0 0, .slice none 0 0] 58)).alloc (.cells #[.int .i64 f.params, .int .i64 f.vars, .slice none 0 0, .slice none 0 0] 58)) w.heap.size #[.int .i64 f.params, .int .i64 f.vars, .slice A1 n1 c1, .slice A2 n2 c2] 52 := ((Keep.new _ _ _).alloc _).alloc _
  have hy0 : Keep (((w.alloc (.cells #[.int .i64 f.params, .int .i64 f.vars, .slice A1 n1 c1, .slice A2 n2 c2] 52)).alloc (.cells #[.int .i64 0, .int .i64 0, .slice none 0 0, .slice none 0 0] 58)).alloc (.cells #[.int .i64 f.params, .int .i64 f.vars, .slice none 0 0, .slice none 0 0] 58)) (w.heap.size + 1) #[.int .i64 0, .int .i64 0, .slice none 0 0, .slice none 0 0] 58 := by
    have := Keep.new (w.alloc (.cells #[.int .i64 f.params, .int .i64 f.vars, .slice A1 n1 c1, .slice A2 n2 c2] 52)) #[.int .i64 0, .int .i64 0, .slice none 0 0, .slice none 0 0] 58
    rw [World.size_alloc] at this
    exact this.alloc _
  have hz0 : Keep (((w.alloc (.cells #[.int .i64 f.params, .int .i64 f.vars, .slice A1 n1 c1, .slice A2 n2 c2] 52)).alloc (.cells #[.int .i64 0, .int .i64 0, .slice none 0 0, .slice none 0 0] 58)).alloc (.cells #[.int .i64 f.params, .int .i64 f.vars, .slice none 0 0, .slice none 0 0] 58)) (w.heap.size + 1 + 1) #[.int .i64 f.params, .int .i64 f.vars, .slice none 0 0, .slice none 0 0] 58 := by
    have := Keep.new ((w.alloc (.cells #[.int .i64 f.params, .int .i64 f.vars, .slice A1 n1 c1, .slice A2 n2 c2] 52)).alloc (.cells #[.int .i64 0, .int .i64 0, .slice none 0 0, .slice none 0 0] 58)) #[.int .i64 f.params, .int .i64 f.vars, .slice none 0 0, .slice none 0 0] 58
    rw [World.size_alloc, World.size_alloc] at this
    exact this
  generalize hW0 : ((w.alloc (.cells #[.int .i64 f.params, .int .i64 f.vars, .slice A1 n1 c1, .slice A2 n2 c2] 52)).alloc (.cells #[.int .i64 0, .int .i64 0, .slice none 0 0, .slice none 0 0] 58)).alloc (.cells #[.int .i64 f.params, .int .i64 f.vars, .slice none 0 0, .slice none 0 0] 58) = W0 at hb0 hx0 hy0 hz0 ⊢
  clear hW0
  refine (toInts_m A1 n1 c1 f.body _ (hr.body.now hb0) l1).mono ?_
  rintro e V0 ⟨B1, rfl, m1, hc0⟩
  have s0 := hb0.size
  have t0 := hc0.size
  have l0z := hz0.lt
  replace hx0 := hx0.below hc0
  replace hy0 := hy0.below hc0
  replace hz0 := hz0.below hc0
  replace hb0 : Below w.heap.size w V0 := hb0.trans (hc0.mono hb0.size)
  replace m1 := m1.same ((SameFrom.setCell V0 (w.heap.size + 1 + 1) 2 (.slice B1 n1 n1)).mono (by omega))
  have hx1 := hx0.other (g' := w.heap.size + 1 + 1) (by omega) 2 (.slice B1 n1 n1)
  have hy1 := hy0.other (g' := w.heap.size + 1 + 1) (by omega) 2 (.slice B1 n1 n1)
  have hz1 := hz0.set 2 (.slice B1 n1 n1)
  have q2 := hz0.cell 2
  have q3 := hz0.frozen 2
  simp at q2
  have hb1 : Below w.heap.size w (V0.setCell ⟨w.heap.size + 1 + 1, 2, none⟩ (.slice B1 n1 n1)) := hb0.setCell (by simp; omega) _
  have q1 := hx0.cell 3
  simp at q1
  clear hx0 hy0 hz0 hb0 hc0
  go_wp2_with fail
  generalize hW : V0.setCell ⟨w.heap.size + 1 + 1, 2, none⟩ (.slice B1 n1 n1) = W1 at m1 hx1 hy1 hz1 hb1 ⊢
  clear hW q1 q2 q3
  refine (toStmts_any A2 n2 c2 f.stmts _ (hr.stmts.now hb1) l2 l3).mono ?_
  rintro e V1 ⟨B2, rfl, m2, hc1⟩
  have s1 := hb1.size
  have t1 := hc1.size
  have l1z := hz1.lt
  replace m1 := m1.same (SameFrom.of_below hc1)
  replace hx1 := hx1.below hc1
  replace hy1 := hy1.below hc1
  replace hz1 := hz1.below hc1
  replace hb1 : Below w.heap.size w V1 := hb1.trans (hc1.mono hb1.size)
  replace m1 := m1.same ((SameFrom.setCell V1 (w.heap.size + 1 + 1) 3 (.slice B2 n2 n2)).mono (by omega))
  replace m2 := m2.same ((SameFrom.setCell V1 (w.heap.size + 1 + 1) 3 (.slice B2 n2 n2)).mono (by omega))
  have hx2 := hx1.other (g' := w.heap.size + 1 + 1) (by omega) 3 (.slice B2 n2 n2)
  have hy2 := hy1.other (g' := w.heap.size + 1 + 1) (by omega) 3 (.slice B2 n2 n2)
  have hz2 := hz1.set 3 (.slice B2 n2 n2)
  have q2 := hz1.cell 3
  have q3 := hz1.frozen 3
  simp at q2
  have hb2 : Below w.heap.size w (V1.setCell ⟨w.heap.size + 1 + 1, 3, none⟩ (.slice B2 n2 n2)) := hb1.setCell (by simp; omega) _
  have z0 := hz1.cell 0
  have z1 := hz1.cell 1
  have z2 := hz1.cell 2
  have y0 := hy1.cell 0
  have f0 := hy1.frozen 0
  have y1 := hy1.cell 1
  have f1 := hy1.frozen 1
  have y2 := hy1.cell 2
  have f2 := hy1.frozen 2
  have y3 := hy1.cell 3
  have f3 := hy1.frozen 3
  simp at z0 z1 z2 y0 y1 y2 y3
  clear hx1 hy1 hz1 hb1 hc1 hx2
  go_wp2
  replace m1 := m1.same ((SameFrom.setCell _ (w.heap.size + 1) 0 (.int .i64 f.params)).mono (by omega))
  replace m1 := m1.same ((SameFrom.setCell _ (w.heap.size + 1) 1 (.int .i64 f.vars)).mono (by omega))
  replace m1 := m1.same ((SameFrom.setCell _ (w.heap.size + 1) 2 (.slice B1 n1 n1)).mono (by omega))
  replace m1 := m1.same ((SameFrom.setCell _ (w.heap.size + 1) 3 (.slice B2 n2 n2)).mono (by omega))
  replace m2 := m2.same ((SameFrom.setCell _ (w.heap.size + 1) 0 (.int .i64 f.params)).mono (by omega))
  replace m2 := m2.same ((SameFrom.setCell _ (w.heap.size + 1) 1 (.int .i64 f.vars)).mono (by omega))
  replace m2 := m2.same ((SameFrom.setCell _ (w.heap.size + 1) 2 (.slice B1 n1 n1)).mono (by omega))
  replace m2 := m2.same ((SameFrom.setCell _ (w.heap.size + 1) 3 (.slice B2 n2 n2)).mono (by omega))
  have hyF := ((((hy2.set 0 (.int .i64 f.params)).set 1 (.int .i64 f.vars)).set 2 (.slice B1 n1 n1)).set 3 (.slice B2 n2 n2))
  have r0 := hyF.cell 0
  have r1 := hyF.cell 1
  have r2 := hyF.cell 2
  have r3 := hyF.cell 3
  simp at r0 r1 r2 r3
  have hbF := ((((hb2.setCell (p := ⟨w.heap.size + 1, 0, none⟩) (Nat.le_succ _) (.int .i64 f.params)).setCell (p := ⟨w.heap.size + 1, 1, none⟩) (Nat.le_succ _) (.int .i64 f.vars)).setCell (p := ⟨w.heap.size + 1, 2, none⟩) (Nat.le_succ _) (.slice B1 n1 n1)).setCell (p := ⟨w.heap.size + 1, 3, none⟩) (Nat.le_succ _) (.slice B2 n2 n2))
  clear hyF z0 y0 f0 z1 y1 f1 z2 y2 f2 y3 f3
  exact bodyPost_ret (v := .agg #[.int .i64 f.params, .int .i64 f.vars, .slice B1 n1 n1, .slice B2 n2 n2]) (by simp [results, Try.results22, go_sem, r0, r1, r2, r3]) rfl ⟨B1, B2, rfl, ⟨m1.from (by omega), m2.from (by omega)⟩, hbF⟩

set_option maxHeartbeats 1000000 in
set_option maxRecDepth 100000 in
theorem toFuncs_any (A : Option Addr) (n c : Nat) (fs : List Fc) (w : World) (hr : ReadsF w w.heap.size A n fs) (hn : n ≤ 1048576) (hs : ∀ f ∈ fs, SmallF f) :
    Calls Try.prog 54 #[.slice A n c] w fun e w' => ∃ B, e = .returned (.slice B n n) ∧ MFuncs w' w.heap.size B n fs ∧ Below w.heap.size w w' := by
  have hmk := fun W => run_make_rows (P := Try.prog) 42 58 (.agg #[.int .i64 0, .int .i64 0, .slice none 0 0, .slice none 0 0]) 4 64 Try.underlying42 Try.info58 n (by omega) (by omega) W
  go_enter Try.func54, Try.ntmps54
  go_wp2
  go_loopw [4] (fun i wr => ∃ k : Nat, k ≤ n ∧ i = .int .i64 k ∧ RoomF wr w.heap.size n (fs.take k) ∧ Below w.heap.size w wr) (fun i _ => n - (intOf i).toNat)
  case atStart => exact ⟨0, Nat.zero_le _, rfl, RoomF.made w n _ _ rfl, (Below.refl _ _).alloc (Nat.le_refl _) _⟩
  case round =>
    obtain ⟨k, hk, rfl, hroom, hbel⟩ := hrel
    clear hmk
    by_cases hlt : k < n
    · obtain ⟨b, off, f, A1, n1, c1, A2, n2, c2, rfl, hb, g0, g1, g2, g3, r1, r2, hx⟩ := (hr.below hbel).at_ hlt
      go_wp2_with fail
      refine (toFunc_any f _ _ _ _ _ _ _ (IsFc.more ⟨r1, r2⟩ hbel.size) (hs _ (mem_of_at hx.out))).mono ?_
      rintro e w1 ⟨B1, B2, rfl, hm, hb1⟩
      have hroom1 := hroom.same (SameFrom.of_below hb1)
      have hbel1 : Below w.heap.size w w1 := hbel.trans (hb1.mono hbel.size)
      obtain ⟨d0, hd0⟩ := hroom1.at_ (k * 4) (by omega)
      obtain ⟨d1, hd1⟩ := hroom1.at_ (k * 4 + 1) (by omega)
      obtain ⟨d2, hd2⟩ := hroom1.at_ (k * 4 + 2) (by omega)
      obtain ⟨d3, hd3⟩ := hroom1.at_ (k * 4 + 3) (by omega)
      have hf0 := hroom1.frozen (k * 4)
      have hf1 := hroom1.frozen (k * 4 + 1)
      have hf2 := hroom1.frozen (k * 4 + 2)
      have hf3 := hroom1.frozen (k * 4 + 3)
      have hlen : (fs.take k).length = k := by rw [List.length_take, hr.1]; omega
      have hpush := hroom1.push (by rw [hlen]; exact hlt) f B1 n1 n1 B2 n2 n2 (hm.from hroom.lt)
      rw [hlen, ← takeA_more hx.out] at hpush
      have HP := put hpush; clear hpush hlen g0 g1 g2 g3 hb1 hroom hroom1 hm r1 r2
      unfold fcV
      go_wp2
      go_roundw
      case rel => exact ⟨k + 1, by omega, by go_num, HP.out, (((hbel1.setCell (by simp) _).setCell (by simp) _).setCell (by simp) _).setCell (by simp) _⟩
      case measure => simp [intOf]; omega
    · have hfin := put (show fs.take k = fs from List.take_of_length_le (by rw [hr.1]; omega))
      go_wp2
      go_ret
      exact ⟨_, rfl, ⟨_, rfl, Nat.le_refl _, by rw [hfin.out] at hroom; exact hroom, hr.1⟩, hbel⟩

structure Pg where
  funcs : List Fc
def pgV (_ : Pg) (A : Option Addr) (n c : Nat) : Value := .agg #[.slice A n c]
structure IsPg (w : World) (B : Nat) (p : Pg) (A : Option Addr) (n : Nat) : Prop where
  funcs : ReadsF w B A n p.funcs
structure MPg (w : World) (L : Nat) (p : Pg) (A : Option Addr) (n : Nat) : Prop where
  funcs : MFuncs w L A n p.funcs
theorem MFuncs.from {w : World} {L L' : Nat} {A : Option Addr} {n : Nat} {xs : List Fc} (h : MFuncs w L A n xs) (hL : L' ≤ L) : MFuncs w L' A n xs := by
  obtain ⟨g, e, hg, r, hl⟩ := h; exact ⟨g, e, by omega, r, hl⟩
def SmallPg (p : Pg) : Prop := SmallP p.funcs

set_option maxHeartbeats 1000000 in
set_option maxRecDepth 100000 in
theorem toPg_any (p : Pg) (A1 : Option Addr) (n1 c1 : Nat) (w : World) (hr : IsPg w w.heap.size p A1 n1) (hs : SmallPg p) :
    Calls Try.prog 15 #[pgV p A1 n1 c1] w fun e w' => ∃ B1, e = .returned (pgV p B1 n1 n1) ∧ MPg w' w.heap.size p B1 n1 ∧ Below w.heap.size w w' := by
  obtain ⟨l1, l2⟩ := hs
  rw [hr.funcs.1] at l1
  unfold pgV
  go_enter Try.func15, Try.ntmps15
  go_wp2_with fail
  have hb0 : Below w.heap.size w (((w.alloc (.cells #[.slice A1 n1 c1] 39)).alloc (.cells #[.slice none 0 0] 44)).alloc (.cells #[.slice none 0 0] 44)) :=
    (((Below.refl _ _).alloc (Nat.le_refl _) _).alloc (by simp) _).alloc (by simp; omega) _
  have hx0 : Keep (((w.alloc (.cells #[.slice A1 n1 c1] 39)).alloc (.cells #[.slice none 0 0] 44)).alloc (.cells #[.slice none 0 0] 44)) w.heap.size #[.slice A1 n1 c1] 39 := ((Keep.new _ _ _).alloc _).alloc _
  have hy0 : Keep (((w.alloc (.cells #[.slice A1 n1 c1] 39)).alloc (.cells #[.slice none 0 0] 44)).alloc (.cells #[.slice none 0 0] 44)) (w.heap.size + 1) #[.slice none 0 0] 44 := by
    have := Keep.new (w.alloc (.cells #[.slice A1 n1 c1] 39)) #[.slice none 0 0] 44
    rw [World.size_alloc] at this
    exact this.alloc _
  have hz0 : Keep (((w.alloc (.cells #[.slice A1 n1 c1] 39)).alloc (.cells #[.slice none 0 0] 44)).alloc (.cells #[.slice none 0 0] 44)) (w.heap.size + 1 + 1) #[.slice none 0 0] 44 := by
    have := Keep.new ((w.alloc (.cells #[.slice A1 n1 c1] 39)).alloc (.cells #[.slice none 0 0] 44)) #[.slice none 0 0] 44
    rw [World.size_alloc, World.size_alloc] at this
    exact this
  generalize hW0 : ((w.alloc (.cells #[.slice A1 n1 c1] 39)).alloc (.cells #[.slice none 0 0] 44)).alloc (.cells #[.slice none 0 0] 44) = W0 at hb0 hx0 hy0 hz0 ⊢
  clear hW0
  refine (toFuncs_any A1 n1 c1 p.funcs _ (hr.funcs.now hb0) l1 l2).mono ?_
  rintro e V0 ⟨B1, rfl, m1, hc0⟩
  have s0 := hb0.size
  have t0 := hc0.size
  have l0z := hz0.lt
  replace hx0 := hx0.below hc0
  replace hy0 := hy0.below hc0
  replace hz0 := hz0.below hc0
  replace hb0 : Below w.heap.size w V0 := hb0.trans (hc0.mono hb0.size)
  replace m1 := m1.same ((SameFrom.setCell V0 (w.heap.size + 1 + 1) 0 (.slice B1 n1 n1)).mono (by omega))
  have hx1 := hx0.other (g' := w.heap.size + 1 + 1) (by omega) 0 (.slice B1 n1 n1)
  have hy1 := hy0.other (g' := w.heap.size + 1 + 1) (by omega) 0 (.slice B1 n1 n1)
  have hz1 := hz0.set 0 (.slice B1 n1 n1)
  have q2 := hz0.cell 0
  have q3 := hz0.frozen 0
  simp at q2
  have hb1 : Below w.heap.size w (V0.setCell ⟨w.heap.size + 1 + 1, 0, none⟩ (.slice B1 n1 n1)) := hb0.setCell (by simp; omega) _
  have y0 := hy0.cell 0
  have f0 := hy0.frozen 0
  simp at  y0
  clear hx0 hy0 hz0 hb0 hc0 hx1
  go_wp2
  replace m1 := m1.same ((SameFrom.setCell _ (w.heap.size + 1) 0 (.slice B1 n1 n1)).mono (by omega))
  have hyF := (hy1.set 0 (.slice B1 n1 n1))
  have r0 := hyF.cell 0
  simp at r0
  have hbF := (hb1.setCell (p := ⟨w.heap.size + 1, 0, none⟩) (Nat.le_succ _) (.slice B1 n1 n1))
  clear hyF  y0 f0
  exact bodyPost_ret (v := .agg #[.slice B1 n1 n1]) (by simp [results, Try.results15, go_sem, r0]) rfl ⟨B1, rfl, ⟨m1.from (by omega)⟩, hbF⟩

theorem toProg_any (A : Option Addr) (n c : Nat) (fs : List Fc) (w : World) (hr : ReadsF w w.heap.size A n fs) (hs : SmallP fs) :
    Calls Try.prog 15 #[.agg #[.slice A n c]] w fun e w' => ∃ B, e = .returned (.agg #[.slice B n n]) ∧ MFuncs w' w.heap.size B n fs ∧ Below w.heap.size w w' :=
  (toPg_any ⟨fs⟩ A n c w ⟨hr⟩ hs).mono fun _ _ ⟨B, he, hm, hb⟩ => ⟨B, he, hm.funcs, hb⟩

end Go.Proofs.Ytfdijeeilfhjeaa
namespace Go.Proofs.Ytfdijeeilfhjeaa
open Go.RowKit Exs

/-- From block L on and below R numbers may have been written over numbers; all else is as it was. -/
structure Inked (L R : Nat) (w w' : World) : Prop where
  below : Below L w w'
  above : ∀ k, R ≤ k → k < w.heap.size → w'.heap[k]? = w.heap[k]?
  cells : ∀ (k : Nat) (cs : Array Value) (t : TypeId), w.heap[k]? = some (.cells cs t (0, 0)) → ∃ cs' : Array Value, w'.heap[k]? = some (.cells cs' t (0, 0)) ∧ cs'.size = cs.size ∧ ∀ (i : Nat) (v : Value), cs[i]? = some v → (∃ x y, v = .int .i64 x ∧ cs'[i]? = some (.int .i64 y)) ∨ cs'[i]? = some v
theorem Inked.refl (L R : Nat) (w : World) : Inked L R w w := ⟨Below.refl _ _, fun _ _ _ => rfl, fun _ cs _ h => ⟨cs, h, rfl, fun _ _ h => .inr h⟩⟩
theorem Inked.trans {L R : Nat} {a b c : World} (h : Inked L R a b) (k : Inked L R b c) : Inked L R a c := by
  refine ⟨h.below.trans k.below, fun i hi hs => (k.above i hi (by have := h.below.size; omega)).trans (h.above i hi hs), fun i cs t hc => ?_⟩
  obtain ⟨ds, h1, h2, h3⟩ := h.cells i cs t hc
  obtain ⟨es, k1, k2, k3⟩ := k.cells i ds t h1
  refine ⟨es, k1, k2.trans h2, fun j v hv => ?_⟩
  rcases h3 j v hv with ⟨x, y, rfl, hy⟩ | hy
  · rcases k3 j _ hy with ⟨_, z, _, hz⟩ | hz
    · exact .inl ⟨x, z, rfl, hz⟩
    · exact .inl ⟨x, y, rfl, hz⟩
  · exact k3 j v hy
theorem Inked.alloc {L R : Nat} {w w' : World} (h : Inked L R w w') (hL : L ≤ w'.heap.size) (o : Obj) : Inked L R w (w'.alloc o) := by
  refine ⟨h.below.alloc hL o, fun k hk hs => (Below.heap_alloc _ _ _ (by have := h.below.size; omega)).trans (h.above k hk hs), fun k cs t hc => ?_⟩
  obtain ⟨cs', h1, h2⟩ := h.cells k cs t hc
  exact ⟨cs', (Below.heap_alloc _ _ _ ((Array.getElem?_eq_some_iff.1 h1).1)).trans h1, h2⟩
theorem Inked.set {L R : Nat} {w w' : World} (h : Inked L R w w') {g i : Nat} {cs : Array Value} {t : TypeId} {x : Int} (hL : L ≤ g) (hR : g < R) (hg : w.heap[g]? = some (.cells cs t (0, 0))) (hc : cs[i]? = some (.int .i64 x)) (y : Int) :
    Inked L R w (w'.setCell ⟨g, i, none⟩ (.int .i64 y)) := by
  refine ⟨h.below.setCell hL _, fun k hk hs => (Below.heap_setCell _ _ _ _ (show k ≠ g by omega)).trans (h.above k hk hs), fun k ds u hd => ?_⟩
  obtain ⟨ds', h1, h2, h3⟩ := h.cells k ds u hd
  by_cases hkg : k = g
  · subst hkg
    rw [hg] at hd
    injection hd with hd
    injection hd with e1 e2 _
    subst e1 e2
    refine ⟨ds'.setIfInBounds i (.int .i64 y), heap_set h1, by simpa using h2, fun j v hv => ?_⟩
    by_cases hj : j = i
    · subst hj
      rw [hc] at hv
      injection hv with hv
      refine .inl ⟨x, y, hv.symm, ?_⟩
      have := (Array.getElem?_eq_some_iff.1 hc).1
      rw [Array.getElem?_setIfInBounds, if_pos rfl, if_pos (by omega)]
    · rw [Array.getElem?_setIfInBounds, if_neg (fun e => hj e.symm)]
      exact h3 j v hv
  · exact ⟨ds', (Below.heap_setCell _ _ _ _ hkg).trans h1, h2, h3⟩
theorem Inked.num {L R : Nat} {w w' : World} (h : Inked L R w w') {g i : Nat} {cs : Array Value} {t : TypeId} {x : Int} (hg : w.heap[g]? = some (.cells cs t (0, 0))) (hc : cs[i]? = some (.int .i64 x)) : ∃ y, w'.cell? ⟨g, i, none⟩ = some (.int .i64 y) := by
  obtain ⟨cs', h1, h2, h3⟩ := h.cells g cs t hg
  rw [cell_of_row w' g i cs' t (0, 0) h1]
  rcases h3 i _ hc with ⟨_, y, _, hy⟩ | hy
  · exact ⟨y, hy⟩
  · exact ⟨x, hy⟩
theorem Inked.slc {L R : Nat} {w w' : World} (h : Inked L R w w') {g i : Nat} {cs : Array Value} {t : TypeId} {A : Option Addr} {n c : Nat} (hg : w.heap[g]? = some (.cells cs t (0, 0))) (hc : cs[i]? = some (.slice A n c)) : w'.cell? ⟨g, i, none⟩ = some (.slice A n c) := by
  obtain ⟨cs', h1, h2, h3⟩ := h.cells g cs t hg
  rw [cell_of_row w' g i cs' t (0, 0) h1]
  rcases h3 i _ hc with ⟨_, y, hx, _⟩ | hy
  · cases hx
  · exact hy
theorem Inked.frozen {L R : Nat} {w w' : World} (h : Inked L R w w') {g : Nat} {cs : Array Value} {t : TypeId} (hg : w.heap[g]? = some (.cells cs t (0, 0))) (i : Nat) : w'.frozen? ⟨g, i, none⟩ = false := by
  obtain ⟨cs', h1, _⟩ := h.cells g cs t hg
  simp [World.frozen?, h1]

theorem Room.cells_ {w : World} {g : Nat} {t : TypeId} {c : Nat} {k : IntKind} {xs : List Int} (h : Room w g t c k xs) : ∃ cs : Array Value, w.heap[g]? = some (.cells cs t (0, 0)) ∧ ∀ j, j < xs.length → cs[j]? = some (.int k (xs.getD j 0)) := by
  have hc := h.cell
  obtain ⟨cs, h1, _⟩ := h
  refine ⟨cs, h1, fun j hj => ?_⟩
  rw [← hc j hj, cell_of_row w g j cs t (0, 0) h1]

def inkS (s : St) : Nat := 2 + 2 * s.ex.length + s.th.length + s.el.length
def inkSs : List St → Nat
  | [] => 0
  | s :: r => inkS s + inkSs r
def inkF (f : Fc) : Nat := f.body.length + inkSs f.stmts
def inkFs : List Fc → Nat
  | [] => 0
  | f :: r => 2 + inkF f + inkFs r
theorem inkSs_append (a b : List St) : inkSs (a ++ b) = inkSs a + inkSs b := by induction a with | nil => simp [inkSs] | cons s r ih => simp [inkSs, ih]; omega
theorem inkFs_append (a b : List Fc) : inkFs (a ++ b) = inkFs a + inkFs b := by induction a with | nil => simp [inkFs] | cons s r ih => simp [inkFs, ih]; omega
theorem inkSs_le : ∀ ss : List St, inkSs ss ≤ 2 * (ss.length + manySs ss)
  | [] => by simp [inkSs]
  | s :: r => by have := inkSs_le r; simp only [inkSs, inkS, manySs, manyS, List.length_cons]; omega
theorem inkF_le (f : Fc) : inkF f ≤ 2 * manyF f := by have := inkSs_le f.stmts; unfold inkF manyF; omega
theorem inkFs_le : ∀ fs : List Fc, inkFs fs ≤ 2 * (fs.length + manyFs fs)
  | [] => by simp [inkFs]
  | f :: r => by have := inkFs_le r; have := inkF_le f; simp only [inkFs, manyFs, List.length_cons]; omega
theorem inkSs_step {ss : List St} {k : Nat} {s : St} (h : ss[k]? = some s) : inkSs (ss.take (k + 1)) = inkSs (ss.take k) + inkS s ∧ inkSs (ss.take k) + inkS s ≤ inkSs ss := by
  have h1 : inkSs (ss.take (k + 1)) = inkSs (ss.take k) + inkS s := by rw [takeA_more h, inkSs_append]; simp [inkSs]
  refine ⟨h1, ?_⟩
  rw [← h1]
  conv => rhs; rw [← List.take_append_drop (k + 1) ss, inkSs_append]
  omega
theorem inkFs_step {ss : List Fc} {k : Nat} {s : Fc} (h : ss[k]? = some s) : inkFs (ss.take (k + 1)) = inkFs (ss.take k) + (2 + inkF s) ∧ inkFs (ss.take k) + (2 + inkF s) ≤ inkFs ss := by
  have h1 : inkFs (ss.take (k + 1)) = inkFs (ss.take k) + (2 + inkF s) := by rw [takeA_more h, inkFs_append]; simp [inkFs]
  refine ⟨h1, ?_⟩
  rw [← h1]
  conv => rhs; rw [← List.take_append_drop (k + 1) ss, inkFs_append]
  omega

set_option maxHeartbeats 400000 in
set_option maxRecDepth 100000 in
theorem markInts_ink (A : Option Addr) (n c : Nat) (xs : List Int) (k : Int) (L : Nat) (wc w0 w : World) (m : MInts wc L A n xs) (hw : Below wc.heap.size wc w0) (hi : Inked L wc.heap.size w0 w) (hn : n ≤ 1048576) (hk0 : 0 ≤ k) (hk1 : k ≤ 1000000000) :
    Calls Try.prog 27 #[.slice A n c, .int .i64 k] w fun e w' => e = .returned (.int .i64 (k + (n : Int))) ∧ Inked L wc.heap.size w0 w' := by
  obtain ⟨g, rfl, hL, hroom, hl⟩ := m
  have hlt := hroom.lt
  obtain ⟨cs, hg0, hcs⟩ := hroom.cells_
  have hg := (hw.block g hlt).trans hg0
  clear hg0
  have HL := put hl
  have HG := put hg
  have HLT := put hlt
  have HC := put hcs
  clear hg hcs hl hroom hlt
  go_enter Try.func27, Try.ntmps27
  go_wp2
  go_loopw [1, 5] (fun u i wr => ∃ j : Nat, j ≤ n ∧ i = .int .i64 j ∧ u = .int .i64 (k + (j : Int)) ∧ Inked L wc.heap.size w0 wr) (fun _ i _ => n - (intOf i).toNat)
  case atStart => exact ⟨0, Nat.zero_le _, rfl, by simp, hi⟩
  case round =>
    clear hi
    obtain ⟨j, hj, rfl, rfl, hi⟩ := hrel
    by_cases hlt : j < n
    · have hc := HC.out j (by rw [HL.out]; exact hlt)
      obtain ⟨y, hy⟩ := hi.num HG.out hc
      have hfr := hi.frozen HG.out j
      have hset := put (hi.set hL HLT.out HG.out hc (k + (j : Int)))
      clear hc
      go_wp2
      go_roundw
      case rel => exact ⟨j + 1, by omega, by go_num, by first | (congr 1; done) | (congr 1; omega), hset.out⟩
      case measure => simp [intOf]; omega
    · obtain rfl : j = n := by omega
      go_wp2
      go_ret
      exact ⟨rfl, hi⟩

set_option maxHeartbeats 400000 in
set_option maxRecDepth 100000 in
theorem markToks_ink (A : Option Addr) (n c : Nat) (ts : List Token) (k : Int) (L : Nat) (wc w0 w : World) (m : MToks wc L A n ts) (hw : Below wc.heap.size wc w0) (hi : Inked L wc.heap.size w0 w) (hn : n ≤ 1048576) (hk0 : 0 ≤ k) (hk1 : k ≤ 1000000000) :
    Calls Try.prog 92 #[.slice A n c, .int .i64 k] w fun e w' => e = .returned (.int .i64 (k + 2 * (n : Int))) ∧ Inked L wc.heap.size w0 w' := by
  obtain ⟨g, rfl, hL, hroom, hl⟩ := m
  have hlt := hroom.lt
  obtain ⟨cs, hg0, hcs⟩ := hroom.cells_
  have hg := (hw.block g hlt).trans hg0
  clear hg0
  rw [flat_length, hl] at hcs
  have HG := put hg
  have HLT := put hlt
  have HC := put hcs
  clear hg hcs hl hroom hlt
  go_enter Try.func92, Try.ntmps92
  go_wp2
  go_loopw [1, 5] (fun u i wr => ∃ j : Nat, j ≤ n ∧ i = .int .i64 j ∧ u = .int .i64 (k + 2 * (j : Int)) ∧ Inked L wc.heap.size w0 wr) (fun _ i _ => n - (intOf i).toNat)
  case atStart => exact ⟨0, Nat.zero_le _, rfl, by simp, hi⟩
  case round =>
    clear hi
    obtain ⟨j, hj, rfl, rfl, hi⟩ := hrel
    by_cases hlt : j < n
    · have hc := HC.out (j * 2) (by omega)
      have hc' := HC.out (j * 2 + 1) (by omega)
      obtain ⟨y, hy⟩ := hi.num HG.out hc
      obtain ⟨y', hy'⟩ := hi.num HG.out hc'
      have hfr := hi.frozen HG.out (j * 2)
      have hfr' := hi.frozen HG.out (j * 2 + 1)
      have hset := put ((hi.set hL HLT.out HG.out hc (k + 2 * (j : Int))).set hL HLT.out HG.out hc' (k + 2 * (j : Int) + 1))
      clear hc hc'
      go_wp2
      go_roundw
      case rel => exact ⟨j + 1, by omega, by go_num, by first | (congr 1; done) | (congr 1; omega), hset.out⟩
      case measure => simp [intOf]; omega
    · obtain rfl : j = n := by omega
      go_wp2
      go_ret
      exact ⟨rfl, hi⟩

end Go.Proofs.Ytfdijeeilfhjeaa
namespace Go.Proofs.Ytfdijeeilfhjeaa
open Go.RowKit Exs
set_option linter.unusedVariables false

/-- Whether all numbers are within bounds. -/
def allIn (lo hi : Int) (xs : List Int) : Bool := xs.all fun x => within x lo hi

theorem allIn_more {lo hi : Int} {xs : List Int} {k : Nat} {x : Int} (h : xs[k]? = some x) (ha : allIn lo hi (xs.take k) = true) (hx : within x lo hi = true) : allIn lo hi (xs.take (k + 1)) = true := by
  rw [take_more h]; unfold allIn at *; rw [List.all_append, ha]; simp [hx]
theorem allIn_no {lo hi : Int} {xs : List Int} {k : Nat} {x : Int} (h : xs[k]? = some x) (hx : within x lo hi = false) : allIn lo hi xs = false := by
  unfold allIn
  rw [List.all_eq_false]
  exact ⟨x, List.mem_of_getElem? h, by simp [hx]⟩
theorem allIn_iff (lo hi : Int) (xs : List Int) : allIn lo hi xs = true ↔ ∀ x ∈ xs, lo ≤ x ∧ x ≤ hi := by simp [allIn, within]

set_option maxHeartbeats 400000 in
set_option maxRecDepth 100000 in
theorem l1All_any (A : Option Addr) (n c : Nat) (xs : List Int) (lo hi : Int) (w : World) (hr : Reads w w.heap.size .i64 A n xs) (hn : n ≤ 1048576) :
    Calls Try.prog 100 #[.slice A n c, .int .i64 lo, .int .i64 hi] w fun e w' => e = .returned (.bool (allIn lo hi xs)) ∧ w = w' := by
  go_enter Try.func100, Try.ntmps100
  go_wp2
  go_loop [11] (fun i => ∃ k : Nat, k ≤ n ∧ i = .int .i64 k ∧ Hid (allIn lo hi (xs.take k) = true)) (fun i => n - (intOf i).toNat)
  case atStart => exact ⟨0, Nat.zero_le _, rfl, rfl⟩
  case round =>
    obtain ⟨k, hk, rfl, ha⟩ := hrel
    by_cases hlt : k < n
    · obtain ⟨b, off, x, rfl, hb, hc, hx⟩ := hr.at_ hlt
      by_cases hin : within x lo hi = true
      · have HA := put (allIn_more hx.out ha.out hin)
        go_wp2_with (go_at_call 46; refine (l1In_any _ _ _ _).mono ?_; rintro e w' ⟨rfl, rfl⟩)
        go_round
        case rel => exact ⟨k + 1, by omega, by go_num, HA⟩
        case measure => simp [intOf]; omega
      · have hin' : within x lo hi = false := by simpa using hin
        have HA := put (allIn_no hx.out hin')
        clear hin
        go_wp2_with (go_at_call 46; refine (l1In_any _ _ _ _).mono ?_; rintro e w' ⟨rfl, rfl⟩)
        go_ret
        exact ⟨ret_bool HA.out.symm, rfl⟩
    · have hfin := put (show xs.take k = xs from List.take_of_length_le (by rw [hr.1]; omega))
      go_wp2
      go_ret
      exact ⟨ret_bool (by rw [← ha.out, hfin.out]), rfl⟩

/-- Whether params are so. -/
def parB (ps : List Int) : Bool := decide (ps.length ≤ 5) && allIn 0 2 ps
theorem parB_iff (ps : List Int) : parB ps = true ↔ okParams ps := by simp [parB, okParams, allIn_iff]
theorem parB_few {ps : List Int} (h : ps.length ≤ 5) : parB ps = allIn 0 2 ps := by simp [parB, h]
theorem parB_many {ps : List Int} (h : ¬ ps.length ≤ 5) : parB ps = false := by simp [parB, h]

set_option maxHeartbeats 400000 in
set_option maxRecDepth 100000 in
theorem l2Params_any (A : Option Addr) (n c : Nat) (xs : List Int) (w : World) (hr : Reads w w.heap.size .i64 A n xs) (hn : n ≤ 1048576) :
    Calls Try.prog 78 #[.slice A n c] w fun e w' => e = .returned (.bool (parB xs)) ∧ w = w' := by
  by_cases h5 : n ≤ 5
  · have HP := put (parB_few (ps := xs) (by rw [hr.1]; exact h5))
    go_enter Try.func78, Try.ntmps78
    go_wp2_with (go_at_call 100; refine (l1All_any _ _ _ xs _ _ _ hr hn).mono ?_; rintro e w' ⟨rfl, rfl⟩)
    go_ret
    exact ⟨ret_bool HP.out.symm, rfl⟩
  · have HP := put (parB_many (ps := xs) (by rw [hr.1]; exact h5))
    go_enter Try.func78, Try.ntmps78
    go_wp2
    go_ret
    exact ⟨ret_bool HP.out.symm, rfl⟩

set_option maxHeartbeats 400000 in
set_option maxRecDepth 100000 in
theorem goodParams_any (A : Option Addr) (n c : Nat) (xs : List Int) (w : World) (hr : Reads w w.heap.size .i64 A n xs) (hn : n ≤ 1048576) :
    Calls Try.prog 136 #[.slice A n c] w fun e w' => e = .returned (.bool (parB xs)) ∧ w = w' := by
  by_cases h5 : n ≤ 5
  · have HP := put (parB_few (ps := xs) (by rw [hr.1]; exact h5))
    go_enter Try.func136, Try.ntmps136
    go_wp2
    go_loop [10] (fun i => ∃ k : Nat, k ≤ n ∧ i = .int .i64 k ∧ Hid (allIn 0 2 (xs.take k) = true)) (fun i => n - (intOf i).toNat)
    case atStart => exact ⟨0, Nat.zero_le _, rfl, rfl⟩
    case round =>
      obtain ⟨k, hk, rfl, ha⟩ := hrel
      by_cases hlt : k < n
      · obtain ⟨b, off, x, rfl, hb, hc, hx⟩ := hr.at_ hlt
        by_cases hin : 0 ≤ x ∧ x ≤ 2
        · have HA := put (allIn_more hx.out ha.out ((within_iff _ _ _).2 hin))
          obtain ⟨h1, h2⟩ := hin
          go_wp2
          go_round
          case rel => exact ⟨k + 1, by omega, by go_num, HA⟩
          case measure => simp [intOf]; omega
        · have HA := put (allIn_no hx.out (by rw [Bool.eq_false_iff]; intro h; exact hin ((within_iff _ _ _).1 h)))
          by_cases h0 : x < 0
          · clear hin
            go_wp2
            go_ret
            exact ⟨ret_bool (by rw [HP.out, HA.out]), rfl⟩
          · have h2 : 2 < x := by omega
            clear hin
            go_wp2
            go_ret
            exact ⟨ret_bool (by rw [HP.out, HA.out]), rfl⟩
      · have hfin := put (show xs.take k = xs from List.take_of_length_le (by rw [hr.1]; omega))
        go_wp2
        go_ret
        exact ⟨ret_bool (by rw [HP.out, ← ha.out, hfin.out]), rfl⟩
  · have HP := put (parB_many (ps := xs) (by rw [hr.1]; exact h5))
    go_enter Try.func136, Try.ntmps136
    go_wp2
    go_ret
    exact ⟨ret_bool HP.out.symm, rfl⟩

/-- Whether a token is one, with a variable and a function that are there. -/
def knB (vars : Int) (ps : List Int) (op n : Int) : Bool := decide (known vars ps (op, n))
theorem knB_iff (vars : Int) (ps : List Int) (op n : Int) : knB vars ps op n = true ↔ tokB op n = true ∧ (op = 2 → n < vars) ∧ (op = 11 → n < ps.length) := by
  unfold knB tokB; rw [decide_eq_true_eq, decide_eq_true_eq]; rfl
theorem knB_no {vars : Int} {ps : List Int} {op n : Int} (h : tokB op n = false) : knB vars ps op n = false := by
  rw [Bool.eq_false_iff]; intro h1; rw [((knB_iff _ _ _ _).1 h1).1] at h; cases h
theorem knB_var {vars : Int} {ps : List Int} {n : Int} (h : tokB 2 n = true) : knB vars ps 2 n = decide (n < vars) := by
  rw [Bool.eq_iff_iff, knB_iff]; simp [h]
theorem knB_call {vars : Int} {ps : List Int} {n : Int} (h : tokB 11 n = true) : knB vars ps 11 n = decide (n < ps.length) := by
  rw [Bool.eq_iff_iff, knB_iff]; simp [h]
theorem knB_else {vars : Int} {ps : List Int} {op n : Int} (h : tokB op n = true) (h2 : op ≠ 2) (h11 : op ≠ 11) : knB vars ps op n = true := by
  rw [knB_iff]; simp [h, h2, h11]

theorem below_drewN {B : Nat} {a w : World} (h : Below B a w) (n : Nat) : Below B a (w.drewN n) := ⟨h.os, h.tape, h.output, h.size, h.block⟩
theorem bne_of {a b : Int} (h : a ≠ b) : (a != b) = true := by simpa using h
theorem beq_of {a b : Int} (h : a ≠ b) : (a == b) = false := by simpa using h

set_option maxHeartbeats 400000 in
set_option maxRecDepth 100000 in
theorem l2Known_any (op n vars : Int) (A : Option Addr) (m c : Nat) (ps : List Int) (w : World) (hm : ps.length = m) (hm2 : m ≤ 1048576) :
    Calls Try.prog 138 #[.agg #[.int .i64 op, .int .i64 n], .int .i64 vars, .slice A m c] w fun e w' => e = .returned (.bool (knB vars ps op n)) ∧ Below w.heap.size w w' := by
  have HM := put hm; clear hm
  have hc : tokB op n = false ∨ (tokB op n = true ∧ op = 2) ∨ (tokB op n = true ∧ op = 11) ∨ (tokB op n = true ∧ op ≠ 2 ∧ op ≠ 11) := by
    cases tokB op n
    · exact .inl rfl
    · by_cases h2 : op = 2
      · exact .inr (.inl ⟨rfl, h2⟩)
      · by_cases h3 : op = 11
        · exact .inr (.inr (.inl ⟨rfl, h3⟩))
        · exact .inr (.inr (.inr ⟨rfl, h2, h3⟩))
  rcases hc with h | ⟨h, rfl⟩ | ⟨h, rfl⟩ | ⟨h, h2, h11⟩
  · have HK := put (knB_no (vars := vars) (ps := ps) h)
    go_enter Try.func138, Try.ntmps138
    go_wp2_with (go_at_call 145; refine (l2Token_any _ _ _).mono ?_; rintro e w1 ⟨rfl, hb⟩)
    go_ret
    exact ⟨ret_bool HK.out.symm, ((Below.refl _ _).alloc (Nat.le_refl _) _).trans (hb.mono (by simp))⟩
  · have HK := put (knB_var (vars := vars) (ps := ps) h)
    go_enter Try.func138, Try.ntmps138
    go_wp2_with (go_at_call 145; refine (l2Token_any _ _ _).mono ?_; rintro e w1 ⟨rfl, hb⟩; have hcell := fun j => hb.cell (p := ⟨w.heap.size, j, none⟩) (by simp))
    all_goals go_ret
    all_goals refine ⟨ret_bool ?_, ((Below.refl _ _).alloc (Nat.le_refl _) _).trans (hb.mono (by simp))⟩
    all_goals rw [HK.out]
    all_goals simp [*]
  · have HK := put (knB_call (vars := vars) (ps := ps) h)
    rw [HM.out] at HK
    go_enter Try.func138, Try.ntmps138
    go_wp2_with (go_at_call 145; refine (l2Token_any _ _ _).mono ?_; rintro e w1 ⟨rfl, hb⟩; have hcell := fun j => hb.cell (p := ⟨w.heap.size, j, none⟩) (by simp))
    all_goals go_ret
    all_goals refine ⟨ret_bool ?_, ((Below.refl _ _).alloc (Nat.le_refl _) _).trans (hb.mono (by simp))⟩
    all_goals rw [HK.out]
    all_goals simp [*]
  · have HK := put (knB_else (vars := vars) (ps := ps) h h2 h11)
    have h2' := bne_of h2
    have h11' := bne_of h11
    go_enter Try.func138, Try.ntmps138
    go_wp2_with (go_at_call 145; refine (l2Token_any _ _ _).mono ?_; rintro e w1 ⟨rfl, hb⟩; have hcell := fun j => hb.cell (p := ⟨w.heap.size, j, none⟩) (by simp))
    go_ret
    exact ⟨ret_bool HK.out.symm, ((Below.refl _ _).alloc (Nat.le_refl _) _).trans (hb.mono (by simp))⟩

theorem needs_two {ps : List Int} {op n : Int} (h : within op 3 8 = true) : needs ps (op, n) = 2 := by
  unfold needs; rw [if_pos ((within_iff _ _ _).1 h)]
theorem needs_call {ps : List Int} {n : Int} {x : Int} (h : ps[n.toNat]? = some x) : needs ps (11, n) = x := by
  unfold needs; simp [List.getD, h]
theorem needs_none {ps : List Int} {op n : Int} (h : within op 3 8 = false) (h11 : op ≠ 11) : needs ps (op, n) = 0 := by
  unfold needs; rw [if_neg (fun h1 => by rw [(within_iff _ _ _).2 h1] at h; cases h), if_neg h11]

set_option maxHeartbeats 400000 in
set_option maxRecDepth 100000 in
theorem l2Needs_any (op n : Int) (A : Option Addr) (m c : Nat) (ps : List Int) (w : World) (hr : Reads w w.heap.size .i64 A m ps) (hm2 : m ≤ 1048576) (hin : op = 11 → 0 ≤ n ∧ n < m) :
    Calls Try.prog 139 #[.agg #[.int .i64 op, .int .i64 n], .slice A m c] w fun e w' => e = .returned (.int .i64 (needs ps (op, n))) ∧ Below w.heap.size w w' := by
  have hc : within op 3 8 = true ∨ op = 11 ∨ (within op 3 8 = false ∧ op ≠ 11) := by
    by_cases h3 : op = 11
    · exact .inr (.inl h3)
    · cases within op 3 8
      · exact .inr (.inr ⟨rfl, h3⟩)
      · exact .inl rfl
  rcases hc with h | rfl | ⟨h, h11⟩
  · have HK := put (needs_two (ps := ps) (n := n) h)
    clear hin
    go_enter Try.func139, Try.ntmps139
    go_wp2_with (go_at_call 46; refine (l1In_any _ _ _ _).mono ?_; rintro e w1 ⟨rfl, rfl⟩)
    go_ret
    exact ⟨ret_int HK.out.symm, (Below.refl _ _).alloc (Nat.le_refl _) _⟩
  · obtain ⟨h0, h1⟩ := hin rfl
    obtain ⟨k, rfl⟩ := Int.eq_ofNat_of_zero_le h0
    have hk : k < m := by omega
    clear hin h0 h1
    obtain ⟨b, off, x, rfl, hb, hcl, hx⟩ := hr.at_ hk
    have HK := put (needs_call (ps := ps) (n := (k : Int)) (x := x) (by simpa using hx.out))
    have hcl2 : (w.alloc (Obj.cells #[Value.int IntKind.i64 11, Value.int IntKind.i64 k] 107)).cell? ⟨b, off + k, none⟩ = some (.int .i64 x) := by
      rw [World.cell?_alloc_lt _ _ _ hb]; exact hcl
    go_enter Try.func139, Try.ntmps139
    go_wp2_with (go_at_call 46; refine (l1In_any _ _ _ _).mono ?_; rintro e w1 ⟨rfl, rfl⟩)
    go_ret
    exact ⟨ret_int HK.out.symm, (Below.refl _ _).alloc (Nat.le_refl _) _⟩
  · have HK := put (needs_none (ps := ps) (n := n) h h11)
    have h11' := beq_of h11
    clear hin
    go_enter Try.func139, Try.ntmps139
    go_wp2_with (go_at_call 46; refine (l1In_any _ _ _ _).mono ?_; rintro e w1 ⟨rfl, rfl⟩)
    go_ret
    exact ⟨ret_int HK.out.symm, (Below.refl _ _).alloc (Nat.le_refl _) _⟩

/-- What NeedsOf answers. -/
def needsAns (ps : List Int) (op n : Int) : Int × Bool := if parB ps && knB 6 ps op n then (needs ps (op, n), true) else (0, false)
theorem needsAns_yes {ps : List Int} {op n : Int} (h : parB ps = true) (h1 : knB 6 ps op n = true) : needsAns ps op n = (needs ps (op, n), true) := by simp [needsAns, h, h1]
theorem needsAns_no {ps : List Int} {op n : Int} (h : parB ps = false ∨ knB 6 ps op n = false) : needsAns ps op n = (0, false) := by
  rcases h with h | h <;> simp [needsAns, h]

theorem kn_call {vars : Int} {ps : List Int} {op n : Int} (h : knB vars ps op n = true) (he : op = 11) : 0 ≤ n ∧ n < ps.length := by
  obtain ⟨h1, _, h3⟩ := (knB_iff _ _ _ _).1 h
  have := (tokB_iff _ _).1 h1
  exact ⟨by omega, h3 he⟩

set_option maxHeartbeats 400000 in
set_option maxRecDepth 100000 in
theorem needsOf_any (op n : Int) (A : Option Addr) (m c : Nat) (ps : List Int) (w : World) (hr : Reads w w.heap.size .i64 A m ps) (hm2 : m ≤ 1048576) :
    Calls Try.prog 128 #[.agg #[.int .i64 op, .int .i64 n], .slice A m c] w fun e w' => e = .returned (.tuple #[.int .i64 (needsAns ps op n).1, .bool (needsAns ps op n).2]) ∧ Below w.heap.size w w' := by
  have hr1 : Reads (w.alloc (Obj.cells #[Value.int IntKind.i64 op, Value.int IntKind.i64 n] 107)) (w.heap.size + 1) .i64 A m ps := (hr.below ((Below.refl _ _).alloc (Nat.le_refl _) _)).more (by omega)
  cases ht : tokB op n with
  | false =>
    have HK := put (needsAns_no (op := op) (n := n) (.inr (knB_no (vars := 6) (ps := ps) ht)))
    go_enter Try.func128, Try.ntmps128
    go_wp2_with fail
    refine (goodToken_any _ _ _).mono ?_
    rintro e w1 ⟨rfl, hb⟩
    go_wp2
    go_ret2
    exact ⟨ret2 (by rw [HK.out]), ((Below.refl _ _).alloc (Nat.le_refl _) _).trans (hb.mono (by simp))⟩
  | true =>
    cases hp : parB ps with
    | false =>
      have HK := put (needsAns_no (op := op) (n := n) (.inl hp))
      go_enter Try.func128, Try.ntmps128
      go_wp2_with fail
      refine (goodToken_any _ _ _).mono ?_
      rintro e w1 ⟨rfl, hb⟩
      have hr2 := (hr1.below (hb.mono (by simp))).more (B' := w1.heap.size) (by have := hb.size; simp at this; omega)
      go_wp2_with fail
      refine (goodParams_any _ _ _ ps _ hr2 hm2).mono ?_
      rintro e w2 ⟨rfl, rfl⟩
      go_wp2
      go_ret2
      exact ⟨ret2 (by rw [HK.out]), ((Below.refl _ _).alloc (Nat.le_refl _) _).trans (hb.mono (by simp))⟩
    | true =>
      have HY := put (fun h1 => needsAns_yes (ps := ps) (op := op) (n := n) hp h1)
      have HN := put (fun h1 => needsAns_no (ps := ps) (op := op) (n := n) (.inr h1))
      have hlen := put hr.1
      have hc : (op = 2 ∧ n < 6) ∨ (op = 2 ∧ ¬ n < 6) ∨ (op = 11 ∧ n < m) ∨ (op = 11 ∧ ¬ n < m) ∨ (within op 3 8 = true ∧ op ≠ 2 ∧ op ≠ 11) ∨ (within op 3 8 = false ∧ op ≠ 2 ∧ op ≠ 11) := by
        by_cases h2 : op = 2
        · omega
        · by_cases h11 : op = 11
          · omega
          · cases within op 3 8 <;> simp [h2, h11]
      rcases hc with ⟨rfl, h⟩ | ⟨rfl, h⟩ | ⟨rfl, h⟩ | ⟨rfl, h⟩ | ⟨h, h2, h11⟩ | ⟨h, h2, h11⟩
      · have HK := put (HY.out (by rw [knB_var ht]; simpa using h))
        have HW := put (needs_none (ps := ps) (op := 2) (n := n) (by decide) (by decide))
        clear HY HN
        go_enter Try.func128, Try.ntmps128
        go_wp2_with fail
        refine (goodToken_any _ _ _).mono ?_
        rintro e w1 ⟨rfl, hb⟩
        have hcell := fun j => hb.cell (p := ⟨w.heap.size, j, none⟩) (by simp)
        have hr2 := (hr1.below (hb.mono (by simp))).more (B' := w1.heap.size) (by have := hb.size; simp at this; omega)
        have hbw : Below w.heap.size w w1 := ((Below.refl _ _).alloc (Nat.le_refl _) _).trans (hb.mono (by simp))
        clear hb
        go_wp2_with fail
        refine (goodParams_any _ _ _ ps _ hr2 hm2).mono ?_
        rintro e w2 ⟨rfl, rfl⟩
        go_wp2
        go_quiet (fail)
        go_wp2
        go_ret2
        exact ⟨ret2 (by rw [HK.out, HW.out]), below_drewN hbw _⟩
      · have HK := put (HN.out (by rw [knB_var ht]; simpa using h))
        clear HY HN
        go_enter Try.func128, Try.ntmps128
        go_wp2_with fail
        refine (goodToken_any _ _ _).mono ?_
        rintro e w1 ⟨rfl, hb⟩
        have hcell := fun j => hb.cell (p := ⟨w.heap.size, j, none⟩) (by simp)
        have hr2 := (hr1.below (hb.mono (by simp))).more (B' := w1.heap.size) (by have := hb.size; simp at this; omega)
        have hbw : Below w.heap.size w w1 := ((Below.refl _ _).alloc (Nat.le_refl _) _).trans (hb.mono (by simp))
        clear hb
        go_wp2_with fail
        refine (goodParams_any _ _ _ ps _ hr2 hm2).mono ?_
        rintro e w2 ⟨rfl, rfl⟩
        go_wp2
        go_quiet (fail)
        go_wp2
        go_ret2
        exact ⟨ret2 (by rw [HK.out]; simp; omega), below_drewN hbw _⟩
      · have h0 := (kn_call (vars := 6) (ps := ps) (by rw [knB_call ht, hlen.out]; simpa using h) rfl).1
        have HK := put (HY.out (by rw [knB_call ht, hlen.out]; simpa using h))
        obtain ⟨k, rfl⟩ := Int.eq_ofNat_of_zero_le h0
        have hk : k < m := by omega
        have HI := put (show ps[k]? = some (ps.getD k 0) by rw [List.getD_eq_getElem?_getD, List.getElem?_eq_getElem (by rw [hlen.out]; exact hk)]; rfl)
        have HW := put (needs_call (ps := ps) (n := (k : Int)) (x := ps.getD k 0) (by simpa using HI.out))
        clear h0 h
        clear HY HN
        go_enter Try.func128, Try.ntmps128
        go_wp2_with fail
        refine (goodToken_any _ _ _).mono ?_
        rintro e w1 ⟨rfl, hb⟩
        have hcell := fun j => hb.cell (p := ⟨w.heap.size, j, none⟩) (by simp)
        have hr2 := (hr1.below (hb.mono (by simp))).more (B' := w1.heap.size) (by have := hb.size; simp at this; omega)
        have hbw : Below w.heap.size w w1 := ((Below.refl _ _).alloc (Nat.le_refl _) _).trans (hb.mono (by simp))
        clear hb
        go_wp2_with fail
        refine (goodParams_any _ _ _ ps _ hr2 hm2).mono ?_
        rintro e w2 ⟨rfl, rfl⟩
        obtain ⟨b, off, x, rfl, hbb, hcl, hx⟩ := hr2.at_ hk
        obtain rfl : ps.getD k 0 = x := by have := hx.out; rw [HI.out] at this; injection this
        go_wp2_with (go_at_call 137; refine (isReckoning_any _ _).mono ?_; rintro e w3 ⟨rfl, rfl⟩)
        go_ret2
        exact ⟨ret2 (by rw [HK.out, HW.out, List.getD_eq_getElem?_getD]), hbw⟩
      · have HK := put (HN.out (by rw [knB_call ht, hlen.out]; simpa using h))
        have h' : (m : Int) ≤ n := by omega
        clear HY HN
        go_enter Try.func128, Try.ntmps128
        go_wp2_with fail
        refine (goodToken_any _ _ _).mono ?_
        rintro e w1 ⟨rfl, hb⟩
        have hcell := fun j => hb.cell (p := ⟨w.heap.size, j, none⟩) (by simp)
        have hr2 := (hr1.below (hb.mono (by simp))).more (B' := w1.heap.size) (by have := hb.size; simp at this; omega)
        have hbw : Below w.heap.size w w1 := ((Below.refl _ _).alloc (Nat.le_refl _) _).trans (hb.mono (by simp))
        clear hb
        go_wp2_with fail
        refine (goodParams_any _ _ _ ps _ hr2 hm2).mono ?_
        rintro e w2 ⟨rfl, rfl⟩
        go_wp2
        go_ret2
        exact ⟨ret2 (by rw [HK.out]), hbw⟩
      · have HK := put (HY.out (knB_else ht h2 h11))
        have HW := put (needs_two (ps := ps) (n := n) h)
        have h2' := beq_of h2
        have h11' := beq_of h11
        clear HY HN
        go_enter Try.func128, Try.ntmps128
        go_wp2_with fail
        refine (goodToken_any _ _ _).mono ?_
        rintro e w1 ⟨rfl, hb⟩
        have hcell := fun j => hb.cell (p := ⟨w.heap.size, j, none⟩) (by simp)
        have hr2 := (hr1.below (hb.mono (by simp))).more (B' := w1.heap.size) (by have := hb.size; simp at this; omega)
        have hbw : Below w.heap.size w w1 := ((Below.refl _ _).alloc (Nat.le_refl _) _).trans (hb.mono (by simp))
        clear hb
        go_wp2_with fail
        refine (goodParams_any _ _ _ ps _ hr2 hm2).mono ?_
        rintro e w2 ⟨rfl, rfl⟩
        go_wp2_with (go_at_call 137; refine (isReckoning_any _ _).mono ?_; rintro e w3 ⟨rfl, rfl⟩)
        go_ret2
        exact ⟨ret2 (by rw [HK.out, HW.out]), hbw⟩
      · have HK := put (HY.out (knB_else ht h2 h11))
        have HW := put (needs_none (ps := ps) (n := n) h h11)
        have h2' := beq_of h2
        have h11' := beq_of h11
        clear HY HN
        go_enter Try.func128, Try.ntmps128
        go_wp2_with fail
        refine (goodToken_any _ _ _).mono ?_
        rintro e w1 ⟨rfl, hb⟩
        have hcell := fun j => hb.cell (p := ⟨w.heap.size, j, none⟩) (by simp)
        have hr2 := (hr1.below (hb.mono (by simp))).more (B' := w1.heap.size) (by have := hb.size; simp at this; omega)
        have hbw : Below w.heap.size w w1 := ((Below.refl _ _).alloc (Nat.le_refl _) _).trans (hb.mono (by simp))
        clear hb
        go_wp2_with fail
        refine (goodParams_any _ _ _ ps _ hr2 hm2).mono ?_
        rintro e w2 ⟨rfl, rfl⟩
        go_wp2_with (go_at_call 137; refine (isReckoning_any _ _).mono ?_; rintro e w3 ⟨rfl, rfl⟩)
        go_ret2
        exact ⟨ret2 (by rw [HK.out, HW.out]), hbw⟩

end Go.Proofs.Ytfdijeeilfhjeaa
namespace Go.Proofs.Ytfdijeeilfhjeaa
open Go.RowKit Exs
set_option linter.unusedVariables false

theorem pile_step {vars : Int} {ps : List Int} {ts : List Token} {k : Nat} {op x p m : Int} (h : ts[k]? = some (op, x)) :
    pile vars ps (ts.drop k) p m = if knB vars ps op x = true ∧ needs ps (op, x) ≤ p then pile vars ps (ts.drop (k + 1)) (p + 1 - needs ps (op, x)) (max m (p + 1 - needs ps (op, x))) else none := by
  obtain ⟨hk, he⟩ := List.getElem?_eq_some_iff.1 h
  rw [List.drop_eq_getElem_cons hk, he, pile]
  simp only [knB, decide_eq_true_eq]
theorem pile_done {vars : Int} {ps : List Int} {ts : List Token} {k : Nat} {p m : Int} (h : ts.length ≤ k) : pile vars ps (ts.drop k) p m = some (p, m) := by
  rw [List.drop_eq_nil_of_le h, pile]

/-- What a good expression's greatest height is, and whether it is one. -/
def highAns (ts : List Token) (vars : Int) (ps : List Int) : Int × Bool := if goodExpr ts vars ps then (high vars ps ts, true) else (0, false)

theorem highAns_none {ts : List Token} {vars : Int} {ps : List Int} (h : pile vars ps ts 0 0 = none) : highAns ts vars ps = (0, false) := by
  unfold highAns
  rw [if_neg]
  rintro ⟨_, _, _, h4⟩
  unfold high at h4
  rw [h] at h4
  simp at h4
theorem highAns_off {ts : List Token} {vars : Int} {ps : List Int} {p m : Int} (h : pile vars ps ts 0 0 = some (p, m)) (hp : p ≠ 1) : highAns ts vars ps = (0, false) := by
  unfold highAns
  rw [if_neg]
  rintro ⟨_, _, _, h4⟩
  unfold high at h4
  rw [h] at h4
  simp [hp] at h4
theorem highAns_some {ts : List Token} {vars : Int} {ps : List Int} {m : Int} (h : pile vars ps ts 0 0 = some (1, m)) (hm : 1 ≤ m) (hl : ts.length ≤ 12) (h0 : 0 ≤ vars) (h6 : vars ≤ 6) (hp : parB ps = true) : highAns ts vars ps = (m, true) := by
  have hh : high vars ps ts = m := by
    unfold high
    rw [h]
    simp [hl]
  unfold highAns
  rw [if_pos ⟨h0, h6, (parB_iff _).1 hp, by rw [hh]; omega⟩, hh]
theorem highAns_vars {ts : List Token} {vars : Int} {ps : List Int} (h : ¬ (0 ≤ vars ∧ vars ≤ 6)) : highAns ts vars ps = (0, false) := by
  unfold highAns
  rw [if_neg (fun hg => h ⟨hg.1, hg.2.1⟩)]
theorem highAns_par {ts : List Token} {vars : Int} {ps : List Int} (h : parB ps = false) : highAns ts vars ps = (0, false) := by
  unfold highAns
  rw [if_neg (fun hg => by rw [(parB_iff _).2 hg.2.2.1] at h; cases h)]
theorem highAns_long {ts : List Token} {vars : Int} {ps : List Int} (h : ¬ ts.length ≤ 12) : highAns ts vars ps = (0, false) := by
  unfold highAns
  rw [if_neg]
  rintro ⟨_, _, _, h4⟩
  unfold high at h4
  cases hq : pile vars ps ts 0 0 with
  | none => rw [hq] at h4; simp at h4
  | some q => rw [hq] at h4; simp [h] at h4

theorem max_if (q h : Int) : (if q < h then h else q) = max q h := by split <;> omega

theorem knB_six {vars : Int} {ps : List Int} {op x : Int} (h6 : vars ≤ 6) : knB vars ps op x = true ↔ knB 6 ps op x = true ∧ (op = 2 → x < vars) := by
  rw [knB_iff, knB_iff]
  constructor
  · rintro ⟨a, b, c⟩; exact ⟨⟨a, fun h => by have := b h; omega, c⟩, b⟩
  · rintro ⟨⟨a, _, c⟩, b⟩; exact ⟨a, b, c⟩

theorem parB_range {ps : List Int} (h : parB ps = true) (t : Token) : 0 ≤ needs ps t ∧ needs ps t ≤ 2 := needs_range ((parB_iff _).1 h).2 t

set_option maxHeartbeats 1000000 in
set_option maxRecDepth 100000 in
theorem exprHigh_any (A : Option Addr) (n c : Nat) (ts : List Token) (vars : Int) (A' : Option Addr) (m c' : Nat) (ps : List Int) (w : World) (hr : ReadsT w w.heap.size A n ts) (hr' : Reads w w.heap.size .i64 A' m ps)
    (hn : n ≤ 1048576) (hm : m ≤ 1048576) (hp : parB ps = true) :
    Calls Try.prog 116 #[.slice A n c, .int .i64 vars, .slice A' m c'] w fun e w' => e = .returned (.tuple #[.int .i64 (highAns ts vars ps).1, .bool (highAns ts vars ps).2]) ∧ Below w.heap.size w w' := by
  by_cases hl : n ≤ 12
  · by_cases h0 : 0 ≤ vars
    · by_cases h6 : vars ≤ 6
      · have HP := put hp; clear hp
        go_enter Try.func116, Try.ntmps116
        go_wp2
        go_loopw [8, 9, 27] (fun hgt hig i wr => ∃ (k : Nat) (p q : Int), k ≤ n ∧ i = .int .i64 k ∧ hgt = .int .i64 p ∧ hig = .int .i64 q ∧ 0 ≤ p ∧ p ≤ q ∧ q ≤ 12 ∧ q ≤ k ∧ Hid (pile vars ps ts 0 0 = pile vars ps (ts.drop k) p q) ∧ Below w.heap.size w wr) (fun _ _ i _ => n - (intOf i).toNat)
        case atStart => exact ⟨0, 0, 0, Nat.zero_le _, rfl, rfl, rfl, by omega, by omega, by omega, by omega, rfl, Below.refl _ _⟩
        case round =>
          obtain ⟨k, p, q, hk, rfl, rfl, rfl, hp0, hpq, hq12, hqk, hpile, hbel⟩ := hrel
          by_cases hlt : k < n
          · obtain ⟨b, off, op, x, rfl, hb, hc1, hc2, hx⟩ := (hr.below hbel).at_ hlt
            have hstep := put (pile_step (vars := vars) (ps := ps) (p := p) (m := q) hx.out)
            have hrg := parB_range HP.out (op, x)
            have hr1 := ((hr'.below hbel).more (B' := wr.heap.size) hbel.size)
            have hr2 : Reads (wr.alloc (Obj.cells #[Value.int IntKind.i64 op, Value.int IntKind.i64 x] 107)) (wr.alloc (Obj.cells #[Value.int IntKind.i64 op, Value.int IntKind.i64 x] 107)).heap.size .i64 A' m ps := (hr1.below ((Below.refl _ _).alloc (Nat.le_refl _) _)).more (by simp)
            cases hkn : knB 6 ps op x with
            | false =>
              have HA := put (needsAns_no (ps := ps) (op := op) (n := x) (.inr hkn))
              have HF := put (highAns_none (by rw [hpile.out, hstep.out, if_neg (fun h => by rw [((knB_six h6).1 h.1).1] at hkn; cases hkn)]))
              go_wp2_with fail
              refine (needsOf_any _ _ _ _ _ ps _ hr2 hm).mono ?_
              rintro e w1 ⟨rfl, hb1⟩
              rw [HA.out]
              have hcell := fun j => hb1.cell (p := ⟨wr.heap.size, j, none⟩) (by simp)
              have hbw : Below w.heap.size w w1 := (hbel.alloc hbel.size _).trans (hb1.mono (by have := hbel.size; simp; omega))
              clear hb1 hr2 hc1 hc2
              go_wp2
              go_ret2
              exact ⟨ret2 (by rw [HF.out]), hbw⟩
            | true =>
              have HA := put (needsAns_yes (ps := ps) (op := op) (n := x) HP.out hkn)
              generalize hd : needs ps (op, x) = d at *
              clear hd
              by_cases hdp : d ≤ p
              · by_cases hop : op = 2 ∧ vars ≤ x
                · have HF := put (highAns_none (by rw [hpile.out, hstep.out, if_neg (fun h => by have := ((knB_six h6).1 h.1).2 hop.1; omega)]))
                  obtain ⟨rfl, hvx⟩ := hop
                  go_wp2_with fail
                  refine (needsOf_any _ _ _ _ _ ps _ hr2 hm).mono ?_
                  rintro e w1 ⟨rfl, hb1⟩
                  rw [HA.out]
                  have hcell := fun j => hb1.cell (p := ⟨wr.heap.size, j, none⟩) (by simp)
                  have hbw : Below w.heap.size w w1 := (hbel.alloc hbel.size _).trans (hb1.mono (by have := hbel.size; simp; omega))
                  clear hb1 hr2 hc1 hc2
                  go_wp2
                  go_ret2
                  exact ⟨ret2 (by rw [HF.out]), hbw⟩
                · have HN := put (show pile vars ps ts 0 0 = pile vars ps (ts.drop (k + 1)) (p + (1 - d)) (max q (p + (1 - d))) by
                    rw [hpile.out, hstep.out, if_pos ⟨(knB_six h6).2 ⟨hkn, fun h => by omega⟩, hdp⟩, show p + 1 - d = p + (1 - d) by omega])
                  by_cases ho2 : op = 2
                  · have hvx : x < vars := by omega
                    subst ho2
                    clear hop
                    go_wp2_with fail
                    refine (needsOf_any _ _ _ _ _ ps _ hr2 hm).mono ?_
                    rintro e w1 ⟨rfl, hb1⟩
                    rw [HA.out]
                    have hcell := fun j => hb1.cell (p := ⟨wr.heap.size, j, none⟩) (by simp)
                    have hbw : Below w.heap.size w w1 := (hbel.alloc hbel.size _).trans (hb1.mono (by have := hbel.size; simp; omega))
                    clear hb1 hr2 hc1 hc2
                    go_wp2
                    go_roundw
                    case rel => exact ⟨k + 1, p + (1 - d), max q (p + (1 - d)), by omega, by go_num, rfl, by rw [max_if], by omega, by omega, by omega, by omega, HN, hbw⟩
                    case measure => simp [intOf]; omega
                  · have ho2' := beq_of ho2
                    clear hop
                    go_wp2_with fail
                    refine (needsOf_any _ _ _ _ _ ps _ hr2 hm).mono ?_
                    rintro e w1 ⟨rfl, hb1⟩
                    rw [HA.out]
                    have hcell := fun j => hb1.cell (p := ⟨wr.heap.size, j, none⟩) (by simp)
                    have hbw : Below w.heap.size w w1 := (hbel.alloc hbel.size _).trans (hb1.mono (by have := hbel.size; simp; omega))
                    clear hb1 hr2 hc1 hc2
                    go_wp2
                    go_roundw
                    case rel => exact ⟨k + 1, p + (1 - d), max q (p + (1 - d)), by omega, by go_num, rfl, by rw [max_if], by omega, by omega, by omega, by omega, HN, hbw⟩
                    case measure => simp [intOf]; omega
              · have HF := put (highAns_none (by rw [hpile.out, hstep.out, if_neg (fun h => hdp h.2)]))
                have hdp' : p < d := by omega
                go_wp2_with fail
                refine (needsOf_any _ _ _ _ _ ps _ hr2 hm).mono ?_
                rintro e w1 ⟨rfl, hb1⟩
                rw [HA.out]
                have hcell := fun j => hb1.cell (p := ⟨wr.heap.size, j, none⟩) (by simp)
                have hbw : Below w.heap.size w w1 := (hbel.alloc hbel.size _).trans (hb1.mono (by have := hbel.size; simp; omega))
                clear hb1 hr2 hc1 hc2
                go_wp2
                go_ret2
                exact ⟨ret2 (by rw [HF.out]), hbw⟩
          · have hend := put (hpile.out.trans (pile_done (by rw [hr.1]; omega)))
            clear hpile
            by_cases hp1 : p = 1
            · subst hp1
              have HF := put (highAns_some hend.out hpq (by rw [hr.1]; exact hl) h0 h6 HP.out)
              go_wp2
              go_ret2
              exact ⟨ret2 (by rw [HF.out]), hbel⟩
            · have HF := put (highAns_off hend.out hp1)
              have hp1' := bne_of hp1
              go_wp2
              go_ret2
              exact ⟨ret2 (by rw [HF.out]), hbel⟩
      · have HF := put (highAns_vars (ts := ts) (ps := ps) (vars := vars) (by omega))
        have h6' : 6 < vars := by omega
        go_enter Try.func116, Try.ntmps116
        go_wp2
        go_ret2
        exact ⟨ret2 (by rw [HF.out]), Below.refl _ _⟩
    · have HF := put (highAns_vars (ts := ts) (ps := ps) (vars := vars) (by omega))
      have h0' : vars < 0 := by omega
      go_enter Try.func116, Try.ntmps116
      go_wp2
      go_ret2
      exact ⟨ret2 (by rw [HF.out]), Below.refl _ _⟩
  · have HF := put (highAns_long (ts := ts) (ps := ps) (vars := vars) (by rw [hr.1]; omega))
    have hl' : 12 < n := by omega
    go_enter Try.func116, Try.ntmps116
    go_wp2
    go_ret2
    exact ⟨ret2 (by rw [HF.out]), Below.refl _ _⟩

set_option maxHeartbeats 1000000 in
set_option maxRecDepth 100000 in
/-- With params that are not so the first token, or that there is none, tells it. -/
theorem exprHigh_bad (A : Option Addr) (n c : Nat) (ts : List Token) (vars : Int) (A' : Option Addr) (m c' : Nat) (ps : List Int) (w : World) (hr : ReadsT w w.heap.size A n ts) (hr' : Reads w w.heap.size .i64 A' m ps)
    (hn : n ≤ 1048576) (hm : m ≤ 1048576) (hp : parB ps = false) :
    Calls Try.prog 116 #[.slice A n c, .int .i64 vars, .slice A' m c'] w fun e w' => e = .returned (.tuple #[.int .i64 (highAns ts vars ps).1, .bool (highAns ts vars ps).2]) ∧ Below w.heap.size w w' := by
  have HF := put (highAns_par (ts := ts) (vars := vars) hp)
  by_cases hl : n ≤ 12
  · by_cases h0 : 0 ≤ vars
    · by_cases h6 : vars ≤ 6
      · have HP := put hp; clear hp
        go_enter Try.func116, Try.ntmps116
        go_wp2
        go_loopw [8, 9, 27] (fun hgt hig i wr => i = .int .i64 0 ∧ hgt = .int .i64 0 ∧ hig = .int .i64 0 ∧ wr = w) (fun _ _ i _ => n - (intOf i).toNat)
        case atStart => exact ⟨rfl, rfl, rfl, rfl⟩
        case round =>
          obtain ⟨rfl, rfl, rfl, rfl⟩ := hrel
          by_cases hlt : 0 < n
          · obtain ⟨b, off, op, x, rfl, hb, hc1, hc2, hx⟩ := hr.at_ hlt
            simp only [Nat.zero_mul, Nat.add_zero] at hc1 hc2
            have HA := put (needsAns_no (ps := ps) (op := op) (n := x) (.inl HP.out))
            have hr2 : Reads (wr.alloc (Obj.cells #[Value.int IntKind.i64 op, Value.int IntKind.i64 x] 107)) (wr.alloc (Obj.cells #[Value.int IntKind.i64 op, Value.int IntKind.i64 x] 107)).heap.size .i64 A' m ps := (hr'.below ((Below.refl _ _).alloc (Nat.le_refl _) _)).more (by simp)
            go_wp2_with fail
            refine (needsOf_any _ _ _ _ _ ps _ hr2 hm).mono ?_
            rintro e w1 ⟨rfl, hb1⟩
            rw [HA.out]
            have hbw : Below wr.heap.size wr w1 := ((Below.refl _ _).alloc (Nat.le_refl _) _).trans (hb1.mono (by simp))
            clear hb1 hr2 hc1 hc2
            go_wp2
            go_ret2
            exact ⟨ret2 (by rw [HF.out]), hbw⟩
          · obtain rfl : n = 0 := by omega
            go_wp2
            go_ret2
            exact ⟨ret2 (by rw [HF.out]), Below.refl _ _⟩
      · have h6' : 6 < vars := by omega
        go_enter Try.func116, Try.ntmps116
        go_wp2
        go_ret2
        exact ⟨ret2 (by rw [HF.out]), Below.refl _ _⟩
    · have h0' : vars < 0 := by omega
      go_enter Try.func116, Try.ntmps116
      go_wp2
      go_ret2
      exact ⟨ret2 (by rw [HF.out]), Below.refl _ _⟩
  · have hl' : 12 < n := by omega
    go_enter Try.func116, Try.ntmps116
    go_wp2
    go_ret2
    exact ⟨ret2 (by rw [HF.out]), Below.refl _ _⟩

/-- exprHigh of any expression. -/
theorem exprHigh_is (A : Option Addr) (n c : Nat) (ts : List Token) (vars : Int) (A' : Option Addr) (m c' : Nat) (ps : List Int) (w : World) (hr : ReadsT w w.heap.size A n ts) (hr' : Reads w w.heap.size .i64 A' m ps)
    (hn : n ≤ 1048576) (hm : m ≤ 1048576) :
    Calls Try.prog 116 #[.slice A n c, .int .i64 vars, .slice A' m c'] w fun e w' => e = .returned (.tuple #[.int .i64 (highAns ts vars ps).1, .bool (highAns ts vars ps).2]) ∧ Below w.heap.size w w' := by
  cases hp : parB ps with
  | false => exact exprHigh_bad A n c ts vars A' m c' ps w hr hr' hn hm hp
  | true => exact exprHigh_any A n c ts vars A' m c' ps w hr hr' hn hm hp

set_option maxHeartbeats 400000 in
theorem goodExpr_any (A : Option Addr) (n c : Nat) (ts : List Token) (vars : Int) (A' : Option Addr) (m c' : Nat) (ps : List Int) (w : World) (hr : ReadsT w w.heap.size A n ts) (hr' : Reads w w.heap.size .i64 A' m ps)
    (hn : n ≤ 1048576) (hm : m ≤ 1048576) :
    Calls Try.prog 99 #[.slice A n c, .int .i64 vars, .slice A' m c'] w fun e w' => e = .returned (.bool (highAns ts vars ps).2) ∧ Below w.heap.size w w' := by
  go_enter Try.func99, Try.ntmps99
  go_wp2_with fail
  refine (exprHigh_is _ _ _ ts _ _ _ _ ps _ hr hr' hn hm).mono ?_
  rintro e w1 ⟨rfl, hb1⟩
  go_wp2
  go_ret
  exact ⟨rfl, hb1⟩

set_option maxHeartbeats 400000 in
theorem l1Most_any (a b : Int) (w : World) : Calls Try.prog 140 #[.int .i64 a, .int .i64 b] w fun e w' => e = .returned (.int .i64 (max a b)) ∧ w = w' := by
  by_cases h : b < a
  · have h' : a = max a b := by omega
    have H := put h'; clear h'
    go_enter Try.func140, Try.ntmps140
    go_wp2
    go_ret
    exact ⟨ret_int H.out, rfl⟩
  · have h' : b = max a b := by omega
    have H := put h'; clear h'
    go_enter Try.func140, Try.ntmps140
    go_wp2
    go_ret
    exact ⟨ret_int H.out, rfl⟩

theorem high_none {ts : List Token} {vars : Int} {ps : List Int} (h : pile vars ps ts 0 0 = none) : high vars ps ts = -1 := by
  unfold high; rw [h]
theorem high_some {ts : List Token} {vars : Int} {ps : List Int} {p m : Int} (h : pile vars ps ts 0 0 = some (p, m)) : high vars ps ts = if p = 1 ∧ ts.length ≤ 12 then m else -1 := by
  unfold high; rw [h]

set_option maxHeartbeats 1000000 in
set_option maxRecDepth 100000 in
theorem l2High_any (A : Option Addr) (n c : Nat) (ts : List Token) (vars : Int) (A' : Option Addr) (m c' : Nat) (ps : List Int) (w : World) (hr : ReadsT w w.heap.size A n ts) (hr' : Reads w w.heap.size .i64 A' m ps)
    (hn : n ≤ 1048576) (hm : m ≤ 1048576) (hp : parB ps = true) :
    Calls Try.prog 129 #[.slice A n c, .int .i64 vars, .slice A' m c'] w fun e w' => e = .returned (.int .i64 (high vars ps ts)) ∧ Below w.heap.size w w' := by
  have HP := put hp; clear hp
  go_enter Try.func129, Try.ntmps129
  go_wp2
  go_loopw [7, 8, 13] (fun hgt hig i wr => ∃ (k : Nat) (p q : Int), k ≤ n ∧ i = .int .i64 k ∧ hgt = .int .i64 p ∧ hig = .int .i64 q ∧ 0 ≤ p ∧ p ≤ q ∧ q ≤ k ∧ Hid (pile vars ps ts 0 0 = pile vars ps (ts.drop k) p q) ∧ Below w.heap.size w wr) (fun _ _ i _ => n - (intOf i).toNat)
  case atStart => exact ⟨0, 0, 0, Nat.zero_le _, rfl, rfl, rfl, by omega, by omega, by omega, rfl, Below.refl _ _⟩
  case round =>
    obtain ⟨k, p, q, hk, rfl, rfl, rfl, hp0, hpq, hqk, hpile, hbel⟩ := hrel
    by_cases hlt : k < n
    · obtain ⟨b, off, op, x, rfl, hb, hc1, hc2, hx⟩ := (hr.below hbel).at_ hlt
      have hstep := put (pile_step (vars := vars) (ps := ps) (p := p) (m := q) hx.out)
      have hrg := parB_range HP.out (op, x)
      have hr1 := ((hr'.below hbel).more (B' := wr.heap.size) hbel.size)
      have hr2 : Reads (wr.alloc (Obj.cells #[Value.int IntKind.i64 op, Value.int IntKind.i64 x] 107)) (wr.alloc (Obj.cells #[Value.int IntKind.i64 op, Value.int IntKind.i64 x] 107)).heap.size .i64 A' m ps := (hr1.below ((Below.refl _ _).alloc (Nat.le_refl _) _)).more (by simp)
      cases hkn : knB vars ps op x with
      | false =>
        have HF := put (high_none (by rw [hpile.out, hstep.out, if_neg (fun h => by rw [h.1] at hkn; cases hkn)]))
        go_wp2_with fail
        refine (l2Known_any _ _ _ _ _ _ ps _ hr'.1 hm).mono ?_
        rintro e w1 ⟨rfl, hb1⟩
        have hbw : Below w.heap.size w w1 := (hbel.alloc hbel.size _).trans (hb1.mono (by have := hbel.size; simp; omega))
        clear hb1 hr2 hc1 hc2
        go_wp2
        go_ret
        exact ⟨ret_int HF.out.symm, hbw⟩
      | true =>
        have hin := put (fun (he : op = 11) => by have := kn_call hkn he; rw [hr'.1] at this; exact this)
        generalize hd : needs ps (op, x) = d at *
        have HD := put hd
        clear hd
        by_cases hdp : d ≤ p
        · have HN := put (show pile vars ps ts 0 0 = pile vars ps (ts.drop (k + 1)) (p + (1 - d)) (max q (p + (1 - d))) by
            rw [hpile.out, hstep.out, if_pos ⟨hkn, hdp⟩, show p + 1 - d = p + (1 - d) by omega])
          go_wp2_with fail
          refine (l2Known_any _ _ _ _ _ _ ps _ hr'.1 hm).mono ?_
          rintro e w1 ⟨rfl, hb1⟩
          have hcell := fun j => hb1.cell (p := ⟨wr.heap.size, j, none⟩) (by simp)
          have hbw : Below w.heap.size w w1 := (hbel.alloc hbel.size _).trans (hb1.mono (by have := hbel.size; simp; omega))
          have hr3 := (hr2.below hb1).more (B' := w1.heap.size) hb1.size
          have hs1 : wr.heap.size < w1.heap.size := by have := hb1.size; simp at this; omega
          clear hb1 hr2 hc1 hc2
          go_wp2_with fail
          refine (l2Needs_any _ _ _ _ _ ps _ hr3 hm hin.out).mono ?_
          rintro e w2 ⟨rfl, hb2⟩
          rw [HD.out]
          have hcell2 := fun j => hb2.cell (p := ⟨wr.heap.size, j, none⟩) hs1
          have hbw2 := hbw.trans (hb2.mono hbw.size)
          have hr4 := (hr3.below hb2).more (B' := w2.heap.size) hb2.size
          clear hb2
          go_wp2_with fail
          refine (l2Needs_any _ _ _ _ _ ps _ hr4 hm hin.out).mono ?_
          rintro e w3 ⟨rfl, hb3⟩
          rw [HD.out]
          have hbw3 := hbw2.trans (hb3.mono hbw2.size)
          clear hb3
          go_wp2_with (go_at_call 140; refine (l1Most_any _ _ _).mono ?_; rintro e w4 ⟨rfl, rfl⟩)
          go_roundw
          case rel => exact ⟨k + 1, p + (1 - d), max q (p + (1 - d)), by omega, by go_num, rfl, rfl, by omega, by omega, by omega, HN, hbw3⟩
          case measure => simp [intOf]; omega
        · have HF := put (high_none (by rw [hpile.out, hstep.out, if_neg (fun h => hdp h.2)]))
          have hdp' : p < d := by omega
          go_wp2_with fail
          refine (l2Known_any _ _ _ _ _ _ ps _ hr'.1 hm).mono ?_
          rintro e w1 ⟨rfl, hb1⟩
          have hcell := fun j => hb1.cell (p := ⟨wr.heap.size, j, none⟩) (by simp)
          have hbw : Below w.heap.size w w1 := (hbel.alloc hbel.size _).trans (hb1.mono (by have := hbel.size; simp; omega))
          have hr3 := (hr2.below hb1).more (B' := w1.heap.size) hb1.size
          clear hb1 hr2 hc1 hc2
          go_wp2_with fail
          refine (l2Needs_any _ _ _ _ _ ps _ hr3 hm hin.out).mono ?_
          rintro e w2 ⟨rfl, hb2⟩
          rw [HD.out]
          have hbw2 := hbw.trans (hb2.mono hbw.size)
          clear hb2
          go_wp2
          go_ret
          exact ⟨ret_int HF.out.symm, hbw2⟩
    · have hend := put (high_some (hpile.out.trans (pile_done (by rw [hr.1]; omega))))
      rw [hr.1] at hend
      clear hpile
      by_cases hp1 : p = 1
      · subst hp1
        by_cases hl : n ≤ 12
        · go_wp2
          go_ret
          exact ⟨ret_int (by rw [hend.out]; simp [hl]), hbel⟩
        · have hl' : 12 < n := by omega
          go_wp2
          go_ret
          exact ⟨ret_int (by rw [hend.out]; simp [hl]), hbel⟩
      · have hp1' := bne_of hp1
        go_wp2
        go_ret
        exact ⟨ret_int (by rw [hend.out]; simp [hp1]), hbel⟩

theorem highAns_is {ts : List Token} {vars : Int} {ps : List Int} (h0 : 0 ≤ vars) (h6 : vars ≤ 6) (hp : parB ps = true) : (highAns ts vars ps).2 = decide (0 < high vars ps ts) := by
  unfold highAns
  by_cases h : 0 < high vars ps ts
  · rw [if_pos ⟨h0, h6, (parB_iff _).1 hp, h⟩]; simp [h]
  · rw [if_neg (fun hg => h hg.2.2.2)]; simp [h]
theorem highAns_yes {ts : List Token} {vars : Int} {ps : List Int} (h : (highAns ts vars ps).2 = true) : highAns ts vars ps = (high vars ps ts, true) ∧ parB ps = true := by
  unfold highAns at h ⊢
  split at h
  · rename_i hg; rw [if_pos hg]; exact ⟨rfl, (parB_iff _).2 hg.2.2.1⟩
  · cases h
theorem highAns_not {ts : List Token} {vars : Int} {ps : List Int} (h : (highAns ts vars ps).2 = false) : highAns ts vars ps = (0, false) := by
  unfold highAns at h ⊢
  split at h
  · cases h
  · rename_i hg; rw [if_neg hg]

set_option maxHeartbeats 400000 in
theorem specGoodExpr_any (A : Option Addr) (n c : Nat) (ts : List Token) (vars : Int) (A' : Option Addr) (m c' : Nat) (ps : List Int) (w : World) (hr : ReadsT w w.heap.size A n ts) (hr' : Reads w w.heap.size .i64 A' m ps)
    (hn : n ≤ 1048576) (hm : m ≤ 1048576) :
    Calls Try.prog 118 #[.slice A n c, .int .i64 vars, .slice A' m c'] w fun e w' => e = .returned (.bool (highAns ts vars ps).2) ∧ Below w.heap.size w w' := by
  cases hv : within vars 0 6 with
  | false =>
    have HF := put (highAns_vars (ts := ts) (ps := ps) (vars := vars) (fun h => by rw [(within_iff _ _ _).2 h] at hv; cases hv))
    go_enter Try.func118, Try.ntmps118
    go_wp2_with fail
    refine (l1In_any _ _ _ _).mono ?_
    rintro e w1 ⟨rfl, rfl⟩
    go_wp2
    go_ret
    exact ⟨ret_bool (by rw [HF.out]), Below.refl _ _⟩
  | true =>
    obtain ⟨h0, h6⟩ := (within_iff _ _ _).1 hv
    cases hp : parB ps with
    | false =>
      have HF := put (highAns_par (ts := ts) (vars := vars) hp)
      go_enter Try.func118, Try.ntmps118
      go_wp2_with fail
      refine (l1In_any _ _ _ _).mono ?_
      rintro e w1 ⟨rfl, rfl⟩
      go_wp2_with fail
      refine (l2Params_any _ _ _ ps _ hr' hm).mono ?_
      rintro e w2 ⟨rfl, rfl⟩
      go_wp2
      go_ret
      exact ⟨ret_bool (by rw [HF.out]), Below.refl _ _⟩
    | true =>
      have HF := put (highAns_is (ts := ts) h0 h6 hp)
      go_enter Try.func118, Try.ntmps118
      go_wp2_with fail
      refine (l1In_any _ _ _ _).mono ?_
      rintro e w1 ⟨rfl, rfl⟩
      go_wp2_with fail
      refine (l2Params_any _ _ _ ps _ hr' hm).mono ?_
      rintro e w2 ⟨rfl, rfl⟩
      go_wp2_with fail
      refine (l2High_any _ _ _ ts _ _ _ _ ps _ hr hr' hn hm hp).mono ?_
      rintro e w3 ⟨rfl, hb3⟩
      go_wp2
      go_ret
      exact ⟨ret_bool HF.out.symm, hb3⟩

end Go.Proofs.Ytfdijeeilfhjeaa
namespace Go.Proofs.Ytfdijeeilfhjeaa
open Go.RowKit Exs

/-- Whether an expression is good, as both sides say it. -/
def ge (ts : List Token) (vars : Int) (ps : List Int) : Bool := (highAns ts vars ps).2

def hasEx (s : St) : Bool := decide (s.kind ≠ 3 ∧ s.kind ≠ 6)
def manyN (kind vars : Int) : Int := if kind = 1 then vars else if kind = 3 then 5 else 1

set_option maxHeartbeats 400000 in
theorem hasExpr_any (s : St) (A1 : Option Addr) (n1 c1 : Nat) (A2 : Option Addr) (n2 c2 : Nat) (A3 : Option Addr) (n3 c3 : Nat) (w : World) :
    Calls Try.prog 98 #[stV s A1 n1 c1 A2 n2 c2 A3 n3 c3] w fun e w' => e = .returned (.bool (hasEx s)) ∧ Below w.heap.size w w' := by
  unfold stV
  go_enter Try.func98, Try.ntmps98
  go_wp2
  all_goals go_ret
  all_goals refine ⟨ret_bool ?_, (Below.refl _ _).alloc (Nat.le_refl _) _⟩
  all_goals rw [Bool.eq_iff_iff]
  all_goals simp [hasEx]
  all_goals (try omega)

set_option maxHeartbeats 400000 in
theorem manyNamed_any (kind vars : Int) (w : World) : Calls Try.prog 115 #[.int .i64 kind, .int .i64 vars] w fun e w' => e = .returned (.int .i64 (manyN kind vars)) ∧ Below w.heap.size w w' := by
  go_enter Try.func115, Try.ntmps115
  go_wp2
  all_goals go_ret
  all_goals refine ⟨ret_int ?_, Below.refl _ _⟩
  all_goals simp only [beq_iff_eq, beq_eq_false_iff_ne] at *
  all_goals simp [manyN, *]

def fieldsB (s : St) (vars : Int) : Bool :=
  decide (1 ≤ s.kind ∧ s.kind ≤ 9 ∧ (0 < s.th.length → s.kind = 7 ∨ s.kind = 8) ∧ (0 < s.el.length → s.kind = 7) ∧ (s.kind = 3 ∨ s.kind = 6 → s.ex.length = 0) ∧ 0 ≤ s.n ∧ s.n < manyN s.kind vars)
theorem fieldsB_iff (s : St) (vars : Int) : fieldsB s vars = true ↔ (1 ≤ s.kind ∧ s.kind ≤ 9 ∧ (0 < s.th.length → s.kind = 7 ∨ s.kind = 8) ∧ (0 < s.el.length → s.kind = 7) ∧ (s.kind = 3 ∨ s.kind = 6 → s.ex.length = 0) ∧ 0 ≤ s.n ∧ s.n < manyN s.kind vars) := by
  unfold fieldsB; exact decide_eq_true_iff
theorem hasEx_iff (s : St) : hasEx s = true ↔ s.kind ≠ 3 ∧ s.kind ≠ 6 := by simp [hasEx]

end Go.Proofs.Ytfdijeeilfhjeaa
namespace Go.Proofs.Ytfdijeeilfhjeaa
open Go.RowKit Exs

/-- Whether the first ones, all of them. -/
theorem all_more {α : Type} {p : α → Bool} {xs : List α} {k : Nat} {x : α} (h : xs[k]? = some x) (ha : (xs.take k).all p = true) (hx : p x = true) : (xs.take (k + 1)).all p = true := by
  rw [takeA_more h]; simp [List.all_append, ha, hx]
theorem all_no {α : Type} {p : α → Bool} {xs : List α} {k : Nat} {x : α} (h : xs[k]? = some x) (hx : p x = false) : xs.all p = false := by
  rw [List.all_eq_false]; exact ⟨x, mem_of_at h, by simp [hx]⟩

def exB (vars : Int) (ps : List Int) (s : St) : Bool := !hasEx s || ge s.ex vars ps
def exprsB (f : Fc) (ps : List Int) : Bool := f.stmts.all (exB f.vars ps)

set_option maxHeartbeats 1000000 in
set_option maxRecDepth 100000 in
theorem goodExprs_any (f : Fc) (A1 : Option Addr) (n1 c1 : Nat) (A2 : Option Addr) (n2 c2 : Nat) (A' : Option Addr) (m c' : Nat) (ps : List Int) (w : World) (hr : IsFc w w.heap.size f A1 n1 A2 n2) (hs : SmallF f) (hp : Reads w w.heap.size .i64 A' m ps) (hm : m ≤ 1048576) :
    Calls Try.prog 76 #[fcV f A1 n1 c1 A2 n2 c2, .slice A' m c'] w fun e w' => e = .returned (.bool (exprsB f ps)) ∧ Below w.heap.size w w' := by
  obtain ⟨l1, l2, l3⟩ := hs
  rw [hr.stmts.1] at l2
  unfold fcV
  have hb0 : Below w.heap.size w (w.alloc (.cells #[.int .i64 f.params, .int .i64 f.vars, .slice A1 n1 c1, .slice A2 n2 c2] 58)) := (Below.refl _ _).alloc (Nat.le_refl _) _
  have hk0 := Keep.new w #[.int .i64 f.params, .int .i64 f.vars, .slice A1 n1 c1, .slice A2 n2 c2] 58
  go_enter Try.func76, Try.ntmps76
  go_wp2
  go_loopw [10] (fun i wr => ∃ k : Nat, k ≤ n2 ∧ i = .int .i64 k ∧ Hid ((f.stmts.take k).all (exB f.vars ps) = true) ∧ Keep wr w.heap.size #[.int .i64 f.params, .int .i64 f.vars, .slice A1 n1 c1, .slice A2 n2 c2] 58 ∧ Below w.heap.size w wr) (fun i _ => n2 - (intOf i).toNat)
  case atStart => exact ⟨0, Nat.zero_le _, rfl, put (by simp), hk0, hb0⟩
  case round =>
    obtain ⟨k, hk, rfl, hall, hkeep, hbel⟩ := hrel
    clear hk0 hb0
    by_cases hlt : k < n2
    · obtain ⟨b, off, s, B1, m1, d1, B2, m2, d2, B3, m3, d3, hA, hb, g0, g1, g2, g3, g4, r1, r2, r3, hx⟩ := (hr.stmts.below hbel).at_ hlt
      subst hA
      have hsm := l3 _ (mem_of_at hx.out)
      have q1 := hkeep.cell 1
      simp at q1
      go_wp2_with fail
      have hbA := hbel.alloc hbel.size (.cells #[.int .i64 s.kind, .int .i64 s.n, .slice B1 m1 d1, .slice B2 m2 d2, .slice B3 m3 d3] 106)
      have hkA := Keep.new wr #[.int .i64 s.kind, .int .i64 s.n, .slice B1 m1 d1, .slice B2 m2 d2, .slice B3 m3 d3] 106
      have hkB := hkeep.alloc (.cells #[.int .i64 s.kind, .int .i64 s.n, .slice B1 m1 d1, .slice B2 m2 d2, .slice B3 m3 d3] 106)
      refine (hasExpr_any s _ _ _ _ _ _ _ _ _ _).mono ?_
      rintro e W1 ⟨rfl, hb1⟩
      have hb1' : Below w.heap.size w W1 := hbA.trans (hb1.mono hbA.size)
      replace hkA := hkA.below hb1
      replace hkB := hkB.below hb1
      have p2 := hkA.cell 2
      have p1 := hkB.cell 1
      simp at p1 p2
      cases hh : hasEx s with
      | false =>
        have hy := put (show exB f.vars ps s = true by simp [exB, hh])
        clear hh
        go_wp2
        go_roundw
        case rel => exact ⟨k + 1, by omega, by go_num, put (all_more hx.out hall.out hy.out), hkB, hb1'⟩
        case measure => simp [intOf]; omega
      | true =>
        have he := put (show exB f.vars ps s = ge s.ex f.vars ps by simp [exB, hh])
        clear hh
        have hwW : Below w.heap.size wr W1 := ((Below.refl _ wr).alloc hbel.size _).trans (hb1.mono (by have := hbel.size; simp; omega))
        have hm1 : m1 ≤ 1048576 := by have := hsm.1; rw [r1.1] at this; exact this
        have hr1 := (r1.below hwW).more hb1'.size
        clear r1 r2 r3 g0 g1 g2 g3 g4 hwW
        go_wp2_with fail
        refine (goodExpr_any B1 m1 d1 s.ex f.vars A' m c' ps W1 hr1 (hp.now hb1') hm1 hm).mono ?_
        rintro e W2 ⟨rfl, hb2⟩
        have hb2' : Below w.heap.size w W2 := hb1'.trans (hb2.mono hb1'.size)
        replace hkB := hkB.below hb2
        rw [show (highAns s.ex f.vars ps).2 = ge s.ex f.vars ps from rfl]
        cases hg : ge s.ex f.vars ps with
        | true =>
          have hy := put (he.out.trans hg)
          clear hg he
          go_wp2
          go_roundw
          case rel => exact ⟨k + 1, by omega, by go_num, put (all_more hx.out hall.out hy.out), hkB, hb2'⟩
          case measure => simp [intOf]; omega
        | false =>
          have hn := put (all_no hx.out (he.out.trans hg))
          clear hg he
          go_wp2
          go_ret
          exact ⟨ret_bool hn.out.symm, hb2'⟩
    · have hfin := put (show f.stmts.all (exB f.vars ps) = true by have := hall.out; rwa [List.take_of_length_le (by rw [hr.stmts.1]; omega)] at this)
      go_wp2
      go_ret
      exact ⟨ret_bool hfin.out.symm, hbel⟩

def putB (ps : List Int) (s : St) : Bool := decide (s.kind = 3 → s.n < ps.length ∧ ps.getD s.n.toNat 0 = 0)
def putsB (f : Fc) (ps : List Int) : Bool := f.stmts.all (putB ps)

set_option maxHeartbeats 1000000 in
set_option maxRecDepth 100000 in
theorem goodPutsOff_any (f : Fc) (A1 : Option Addr) (n1 c1 : Nat) (A2 : Option Addr) (n2 c2 : Nat) (A' : Option Addr) (m c' : Nat) (ps : List Int) (w : World) (hr : IsFc w w.heap.size f A1 n1 A2 n2) (hs : SmallF f) (hp : Reads w w.heap.size .i64 A' m ps)
    (hpos : ∀ s ∈ f.stmts, s.kind = 3 → 0 ≤ s.n) :
    Calls Try.prog 77 #[fcV f A1 n1 c1 A2 n2 c2, .slice A' m c'] w fun e w' => e = .returned (.bool (putsB f ps)) ∧ Below w.heap.size w w' := by
  obtain ⟨l1, l2, l3⟩ := hs
  rw [hr.stmts.1] at l2
  unfold fcV
  have hb0 : Below w.heap.size w (w.alloc (.cells #[.int .i64 f.params, .int .i64 f.vars, .slice A1 n1 c1, .slice A2 n2 c2] 58)) := (Below.refl _ _).alloc (Nat.le_refl _) _
  go_enter Try.func77, Try.ntmps77
  go_wp2
  go_loopw [10] (fun i wr => ∃ k : Nat, k ≤ n2 ∧ i = .int .i64 k ∧ Hid ((f.stmts.take k).all (putB ps) = true) ∧ Below w.heap.size w wr) (fun i _ => n2 - (intOf i).toNat)
  case atStart => exact ⟨0, Nat.zero_le _, rfl, put (by simp), hb0⟩
  case round =>
    obtain ⟨k, hk, rfl, hall, hbel⟩ := hrel
    clear hb0
    by_cases hlt : k < n2
    · obtain ⟨b, off, s, B1, m1, d1, B2, m2, d2, B3, m3, d3, hA, hb, g0, g1, g2, g3, g4, r1, r2, r3, hx⟩ := (hr.stmts.below hbel).at_ hlt
      subst hA
      have hps := put (hpos _ (mem_of_at hx.out))
      have hbA := hbel.alloc hbel.size (.cells #[.int .i64 s.kind, .int .i64 s.n, .slice B1 m1 d1, .slice B2 m2 d2, .slice B3 m3 d3] 106)
      clear r1 r2 r3 hpos
      have HD := put (show putB ps s = decide (s.kind = 3 → s.n < ps.length ∧ ps.getD s.n.toNat 0 = 0) from rfl)
      have HM := put (fun h => all_more hx.out hall.out (p := putB ps) h)
      have HN := put (fun h => all_no hx.out (p := putB ps) h)
      generalize putB ps s = pb at HD HM HN
      clear hx hall
      obtain ⟨kd, nn, ex, th, el⟩ := s
      simp only at HD hps hbA g0 g1 g2 g3 g4
      by_cases h3 : kd = 3
      · subst h3
        have hn0 := hps.out rfl
        clear hps
        by_cases hlen : nn < m
        · obtain ⟨j, rfl⟩ : ∃ j : Nat, nn = j := ⟨nn.toNat, by omega⟩
          obtain ⟨b', off', x, hA', hb', hcx, hxx⟩ := (hp.below hbel).at_ (j := j) (by omega)
          subst hA'
          have hv := put (show ps[j]?.getD 0 = x by rw [hxx.out]; rfl)
          have hcx' : (wr.alloc (.cells #[.int .i64 3, .int .i64 j, .slice B1 m1 d1, .slice B2 m2 d2, .slice B3 m3 d3] 106)).cell? ⟨b', off' + j, none⟩ = some (.int .i64 x) := by
            rw [← hcx]; exact ((Below.refl _ wr).alloc hbel.size _).cell hb'
          clear hxx
          by_cases h0 : x = 0
          · subst h0
            have hy := put (HM.out (by rw [HD.out]; simp [hv.out]; rw [hp.1]; omega))
            clear HD HM HN hv
            go_wp2
            go_roundw
            case rel => exact ⟨k + 1, by omega, by go_num, hy, hbA⟩
            case measure => simp [intOf]; omega
          · have hn := put (HN.out (by rw [HD.out]; simp [hv.out, h0]))
            have h0' := bne_of h0
            clear HD HM HN hv
            go_wp2
            go_ret
            exact ⟨ret_bool hn.out.symm, hbA⟩
        · have hn := put (HN.out (by rw [HD.out]; simp; intro h; rw [hp.1] at h; omega))
          have hle : (m : Int) ≤ nn := by omega
          clear HD HM HN
          go_wp2
          go_ret
          exact ⟨ret_bool hn.out.symm, hbA⟩
      · have hy := put (HM.out (by rw [HD.out]; simp [h3]))
        have h3' := beq_of h3
        clear HD HM HN
        go_wp2
        go_roundw
        case rel => exact ⟨k + 1, by omega, by go_num, hy, hbA⟩
        case measure => simp [intOf]; omega
    · have hfin := put (show f.stmts.all (putB ps) = true by have := hall.out; rwa [List.take_of_length_le (by rw [hr.stmts.1]; omega)] at this)
      go_wp2
      go_ret
      exact ⟨ret_bool hfin.out.symm, hbel⟩

def paramsL (fs : List Fc) : List Int := fs.map Fc.params

set_option maxHeartbeats 1000000 in
set_option maxRecDepth 100000 in
theorem paramsIn_any (A : Option Addr) (n c : Nat) (fs : List Fc) (w : World) (hr : ReadsF w w.heap.size A n fs) (hn : n ≤ 1048576) :
    Calls Try.prog 73 #[.agg #[.slice A n c]] w fun e w' => ∃ g, e = .returned (.slice (some ⟨g, 0, none⟩) n n) ∧ w.heap.size ≤ g ∧ Room w' g 3 n .i64 (paramsL fs) ∧ Below w.heap.size w w' := by
  have hmk := fun W => run_make_row' (P := Try.prog) 22 3 (.int .i64 0) 8 Try.underlying22 Try.info3 rfl .i64 .i64 n (by omega) (by omega) W
  have hb0 : Below w.heap.size w (w.alloc (.cells #[.slice A n c] 44)) := (Below.refl _ _).alloc (Nat.le_refl _) _
  have hroom0 := Room.made (w.alloc (.cells #[.slice A n c] 44)) 3 n .i64
  rw [World.size_alloc] at hroom0
  go_enter Try.func73, Try.ntmps73
  go_wp2
  go_loopw [13] (fun i wr => ∃ k : Nat, k ≤ n ∧ i = .int .i64 k ∧ Room wr (w.heap.size + 1) 3 n .i64 (paramsL (fs.take k)) ∧ Below w.heap.size w wr) (fun i _ => n - (intOf i).toNat)
  case atStart => exact ⟨0, Nat.zero_le _, rfl, hroom0, hb0.alloc (by simp) _⟩
  case round =>
    obtain ⟨k, hk, rfl, hroom, hbel⟩ := hrel
    clear hmk hroom0 hb0
    by_cases hlt : k < n
    · obtain ⟨b, off, f, B1, m1, d1, B2, m2, d2, hA, hb, g0, g1, g2, g3, r1, r2, hx⟩ := (hr.below hbel).at_ hlt
      subst hA
      have hlen : (paramsL (fs.take k)).length = k := by simp [paramsL]; rw [hr.1]; omega
      have hroomA := hroom.same (SameFrom.of_below ((Below.refl _ wr).alloc (Nat.le_refl _) (.cells #[.int .i64 f.params, .int .i64 f.vars, .slice B1 m1 d1, .slice B2 m2 d2] 58)))
      obtain ⟨x0, hx0⟩ := hroomA.at_ k hlt
      have hf0 := hroomA.frozen k
      have hpush := (hroom.push (by rw [hlen]; exact hlt) f.params).same (SameFrom.of_below ((Below.refl _ _).alloc (Nat.le_refl _) (.cells #[.int .i64 f.params, .int .i64 f.vars, .slice B1 m1 d1, .slice B2 m2 d2] 58)))
      rw [hlen, show paramsL (fs.take k) ++ [f.params] = paramsL (fs.take (k + 1)) by rw [takeA_more hx.out]; simp [paramsL]] at hpush
      have HP := put hpush
      have hlt' := hroom.lt
      clear hpush hlen hroomA hroom r1 r2
      go_wp2
      go_roundw
      case rel => exact ⟨k + 1, by omega, by go_num, HP.out, (hbel.setCell (by simp) _).alloc (by rw [size_set]; exact hbel.size) _⟩
      case measure => simp [intOf]; omega
    · have hfin := put (show fs.take k = fs from List.take_of_length_le (by rw [hr.1]; omega))
      go_wp2
      go_ret
      exact ⟨_, rfl, by omega, by rw [hfin.out] at hroom; exact hroom, hbel⟩

end Go.Proofs.Ytfdijeeilfhjeaa
namespace Go.Proofs.Ytfdijeeilfhjeaa
open Go.RowKit Exs

theorem Nums.belowNew {w w' : World} {B : Nat} {e : TypeId} {k : IntKind} {v : Value} {xs : List Int} (h : Nums w B e k v xs) (hb : Below w.heap.size w w') : Nums w' B e k v xs := by
  obtain ⟨h1, h2⟩ := h
  refine ⟨h1, ?_⟩
  rcases h2 with h2 | ⟨g, cap, cur, hv, hg, hh, r⟩
  · exact Or.inl h2
  · exact Or.inr ⟨g, cap, cur, hv, hg, (hb.block g (Array.getElem?_eq_some_iff.1 hh).1).trans hh, r⟩
theorem Nums.reads {w : World} {B : Nat} {e : TypeId} {k : IntKind} {v : Value} {xs : List Int} (h : Nums w B e k v xs) : ∃ A c, v = .slice A xs.length c ∧ Reads w w.heap.size k A xs.length xs := by
  rcases h.2 with ⟨rfl, hn⟩ | ⟨g, cap, cur, rfl, _, hg, _, _, _, htk⟩
  · obtain rfl : xs = [] := List.eq_nil_of_length_eq_zero hn
    exact ⟨none, 0, rfl, rfl, fun h => absurd h (by simp)⟩
  · refine ⟨_, _, rfl, rfl, fun _ => ⟨g, 0, rfl, (Array.getElem?_eq_some_iff.1 hg).1, fun j x hx => ?_⟩⟩
    have hj : j < xs.length := (List.getElem?_eq_some_iff.1 hx).1
    have := World.ownsRow.cellAt h j (by omega)
    rw [Nat.zero_add, this]
    simp [hx]

theorem Nums.more {w : World} {B B' : Nat} {e : TypeId} {k : IntKind} {v : Value} {xs : List Int} (h : Nums w B e k v xs) (hB : B' ≤ B) : Nums w B' e k v xs := by
  obtain ⟨h1, h2⟩ := h
  refine ⟨h1, ?_⟩
  rcases h2 with h2 | ⟨g, cap, cur, hv, hg, r⟩
  · exact Or.inl h2
  · exact Or.inr ⟨g, cap, cur, hv, by omega, r⟩

set_option maxHeartbeats 1000000 in
set_option maxRecDepth 100000 in
theorem l3Params_any (A : Option Addr) (n c : Nat) (fs : List Fc) (w : World) (hr : ReadsF w w.heap.size A n fs) (hn : n ≤ 1000000) :
    Calls Try.prog 74 #[.agg #[.slice A n c]] w fun e w' => ∃ v, e = .returned v ∧ Nums w' w.heap.size 3 .i64 v (paramsL fs) ∧ Below w.heap.size w w' := by
  have hb0 : Below w.heap.size w (w.alloc (.cells #[.slice A n c] 44)) := (Below.refl _ _).alloc (Nat.le_refl _) _
  go_enter Try.func74, Try.ntmps74
  go_wp2
  go_loopw [3, 9] (fun v i wr => ∃ k : Nat, k ≤ n ∧ i = .int .i64 k ∧ Nums wr w.heap.size 3 .i64 v (paramsL (fs.take k)) ∧ Below w.heap.size w wr) (fun _ i _ => n - (intOf i).toNat)
  case atStart => exact ⟨0, Nat.zero_le _, rfl, Nums.nil _ _ _ _, hb0⟩
  case round =>
    obtain ⟨k, hk, rfl, hown, hbel⟩ := hrel
    clear hb0
    by_cases hlt : k < n
    · obtain ⟨b, off, f, B1, m1, d1, B2, m2, d2, hA, hb, g0, g1, g2, g3, r1, r2, hx⟩ := (hr.below hbel).at_ hlt
      subst hA
      have hlen : (paramsL (fs.take k)).length = k := by simp [paramsL]; rw [hr.1]; omega
      have hnext := put (show paramsL (fs.take k) ++ [f.params] = paramsL (fs.take (k + 1)) by rw [takeA_more hx.out]; simp [paramsL])
      have HL := put hlen
      generalize paramsL (fs.take k) = xs at hown hnext HL
      clear hlen r1 r2 hx
      go_wp2_with (at_builtin; refine wpList_append_one rfl _ _ 22 rfl w.heap.size 3 .i64 8 Try.info3 Try.underlying22 (by decide) _ xs rfl w ((hbel.alloc hbel.size _).alloc (by have := hbel.size; simp; omega) _) (by have := hbel.size; simp; omega) ((hown.alloc _).alloc _) (wr.heap.size + 1) f.params rfl (by simp) (by have := HL.out; omega) ?_; intro v' w1 hown1 hbel1 _)
      go_roundw
      case rel => exact ⟨k + 1, by omega, by go_num, by rw [← hnext.out]; exact hown1, hbel1⟩
      case measure => simp [intOf]; omega
    · have hfin := put (show fs.take k = fs from List.take_of_length_le (by rw [hr.1]; omega))
      go_wp2
      go_ret
      exact ⟨_, rfl, by rw [hfin.out] at hown; exact hown, hbel⟩

def sitesFrom : Nat → List St → List Int
  | _, [] => []
  | i, s :: r => if s.kind = 3 then (i : Int) :: sitesFrom (i + 1) r else sitesFrom (i + 1) r
theorem sitesFrom_snoc (s : St) : ∀ (a : List St) (i : Nat), sitesFrom i (a ++ [s]) = sitesFrom i a ++ (if s.kind = 3 then [((i + a.length : Nat) : Int)] else [])
  | [], i => by simp [sitesFrom]
  | t :: r, i => by
    have := sitesFrom_snoc s r (i + 1)
    simp only [List.cons_append, sitesFrom, this, List.length_cons]
    rw [show i + 1 + r.length = i + (r.length + 1) by omega]
    split <;> simp
def sitesL (f : Fc) : List Int := sitesFrom 0 f.stmts
theorem sitesFrom_length : ∀ (a : List St) (i : Nat), (sitesFrom i a).length ≤ a.length
  | [], i => by simp [sitesFrom]
  | t :: r, i => by
    have := sitesFrom_length r (i + 1)
    simp only [sitesFrom, List.length_cons]
    split <;> simp <;> omega

set_option maxHeartbeats 1000000 in
set_option maxRecDepth 100000 in
theorem l3Sites_any (f : Fc) (A1 : Option Addr) (n1 c1 : Nat) (A2 : Option Addr) (n2 c2 : Nat) (w : World) (hr : IsFc w w.heap.size f A1 n1 A2 n2) (hn : n2 ≤ 1000000) :
    Calls Try.prog 63 #[fcV f A1 n1 c1 A2 n2 c2] w fun e w' => ∃ v, e = .returned v ∧ Nums w' w.heap.size 3 .i64 v (sitesL f) ∧ Below w.heap.size w w' := by
  have hb0 : Below w.heap.size w (w.alloc (.cells #[.int .i64 f.params, .int .i64 f.vars, .slice A1 n1 c1, .slice A2 n2 c2] 58)) := (Below.refl _ _).alloc (Nat.le_refl _) _
  unfold fcV
  go_enter Try.func63, Try.ntmps63
  go_wp2
  go_loopw [3, 9] (fun v i wr => ∃ k : Nat, k ≤ n2 ∧ i = .int .i64 k ∧ Nums wr w.heap.size 3 .i64 v (sitesFrom 0 (f.stmts.take k)) ∧ Below w.heap.size w wr) (fun _ i _ => n2 - (intOf i).toNat)
  case atStart => exact ⟨0, Nat.zero_le _, rfl, Nums.nil _ _ _ _, hb0⟩
  case round =>
    obtain ⟨k, hk, rfl, hown, hbel⟩ := hrel
    clear hb0
    by_cases hlt : k < n2
    · obtain ⟨b, off, s, B1, m1, d1, B2, m2, d2, B3, m3, d3, hA, hb, g0, g1, g2, g3, g4, r1, r2, r3, hx⟩ := (hr.stmts.below hbel).at_ hlt
      subst hA
      have hlen : (f.stmts.take k).length = k := by rw [List.length_take, hr.stmts.1]; omega
      have HL := put (show (sitesFrom 0 (f.stmts.take k)).length ≤ k by have := sitesFrom_length (f.stmts.take k) 0; omega)
      have hnext := put (show sitesFrom 0 (f.stmts.take (k + 1)) = sitesFrom 0 (f.stmts.take k) ++ (if s.kind = 3 then [(k : Int)] else []) by rw [takeA_more hx.out, sitesFrom_snoc, hlen, Nat.zero_add])
      generalize sitesFrom 0 (f.stmts.take k) = xs at hown hnext HL
      clear hlen r1 r2 r3 hx
      by_cases h3 : s.kind = 3
      · rw [if_pos h3] at hnext
        rw [h3] at g0
        clear h3
        go_wp2_with (at_builtin; refine wpList_append_one rfl _ _ 22 rfl w.heap.size 3 .i64 8 Try.info3 Try.underlying22 (by decide) _ xs rfl w ((hbel.alloc hbel.size _).alloc (by have := hbel.size; simp; omega) _) (by have := hbel.size; simp; omega) ((hown.alloc _).alloc _) (wr.heap.size + 1) (k : Int) rfl (by simp) (by have := HL.out; omega) ?_; intro v' w1 hown1 hbel1 _)
        go_roundw
        case rel => exact ⟨k + 1, by omega, by go_num, by rw [hnext.out]; exact hown1, hbel1⟩
        case measure => simp [intOf]; omega
      · have h3' := beq_of h3
        rw [if_neg h3] at hnext
        go_wp2
        go_roundw
        case rel => exact ⟨k + 1, by omega, by go_num, by rw [hnext.out, List.append_nil]; exact hown.alloc _, hbel.alloc hbel.size _⟩
        case measure => simp [intOf]; omega
    · have hfin := put (show f.stmts.take k = f.stmts from List.take_of_length_le (by rw [hr.stmts.1]; omega))
      go_wp2
      go_ret
      exact ⟨_, rfl, by rw [hfin.out] at hown; exact hown, hbel⟩

/-- Within bounds and rising, the first k of them. -/
def risTo (lo hi : Int) (xs : List Int) (k : Nat) : Prop := ∀ (j : Nat) (x : Int), j < k → xs[j]? = some x → (lo ≤ x ∧ x ≤ hi) ∧ ∀ (i : Nat) (y : Int), i + 1 = j → xs[i]? = some y → y < x
def rises (lo hi : Int) (xs : List Int) : Prop := risTo lo hi xs xs.length
open Classical in
noncomputable def risB (lo hi : Int) (xs : List Int) : Bool := decide (rises lo hi xs)

set_option maxHeartbeats 1000000 in
set_option maxRecDepth 100000 in
theorem l1Rising_any (A : Option Addr) (n c : Nat) (xs : List Int) (lo hi : Int) (w : World) (hr : Reads w w.heap.size .i64 A n xs) (hn : n ≤ 1048576) :
    Calls Try.prog 117 #[.slice A n c, .int .i64 lo, .int .i64 hi] w fun e w' => e = .returned (.bool (risB lo hi xs)) ∧ w = w' := by
  go_enter Try.func117, Try.ntmps117
  go_wp2
  go_loopw [11] (fun i wr => ∃ k : Nat, k ≤ n ∧ i = .int .i64 k ∧ Hid (risTo lo hi xs k) ∧ wr = w) (fun i _ => n - (intOf i).toNat)
  case atStart => exact ⟨0, Nat.zero_le _, rfl, put (fun j x h => absurd h (by omega)), rfl⟩
  case round =>
    obtain ⟨k, hk, rfl, hris, rfl⟩ := hrel
    have hl := put hr.1
    by_cases hlt : k < n
    · obtain ⟨b, off, x, hA, hb, hc, hx⟩ := hr.at_ hlt
      subst hA
      have HNO := put (show ¬ ((lo ≤ x ∧ x ≤ hi) ∧ ∀ (i : Nat) (y : Int), i + 1 = k → xs[i]? = some y → y < x) → risB lo hi xs = false by
        intro h; unfold risB; simp only [decide_eq_false_iff_not]; intro hall
        exact h (hall k x (by rw [hl.out]; exact hlt) hx.out))
      have HYES := put (show ((lo ≤ x ∧ x ≤ hi) ∧ ∀ (i : Nat) (y : Int), i + 1 = k → xs[i]? = some y → y < x) → risTo lo hi xs (k + 1) by
        intro h j y hj hy
        by_cases hjk : j < k
        · exact hris.out j y hjk hy
        · obtain rfl : j = k := by omega
          rw [hx.out] at hy; injection hy with hy; subst hy; exact h)
      cases hin : within x lo hi with
      | false =>
        have hf := put (HNO.out (by intro h; rw [← within_iff] at h; rw [hin] at h; cases h.1))
        clear HNO HYES
        go_wp2_with (go_at_call 46; refine (l1In_any _ _ _ _).mono ?_; rintro e w' ⟨rfl, rfl⟩)
        go_ret
        exact ⟨ret_bool hf.out.symm, rfl⟩
      | true =>
        have hin' := put ((within_iff _ _ _).1 hin)
        by_cases h0 : k = 0
        · subst h0
          simp only [Nat.add_zero] at hc
          have hy := put (HYES.out ⟨hin'.out, fun i y h => absurd h (by omega)⟩)
          clear HNO HYES
          go_wp2_with (go_at_call 46; refine (l1In_any _ _ _ _).mono ?_; rintro e w' ⟨rfl, rfl⟩)
          go_roundw
          case rel => exact ⟨1, by omega, by go_num, hy, trivial⟩
          case measure => simp [intOf]; omega
        · obtain ⟨j, rfl⟩ : ∃ j, k = j + 1 := ⟨k - 1, by omega⟩
          obtain ⟨b', off', y, hA', hb', hc', hy⟩ := hr.at_ (j := j) (by omega)
          injection hA' with hA'
          injection hA' with hA1 hA2 _
          subst hA1 hA2
          have hjj : ((j + 1 : Nat) : Int) - 1 = (j : Int) := by omega
          by_cases hyx : y < x
          · have hyy := put (HYES.out ⟨hin'.out, fun i z h hz => by obtain rfl : i = j := (by omega); rw [hy.out] at hz; injection hz with hz; omega⟩)
            clear HNO HYES
            go_wp2_with (go_at_call 46; refine (l1In_any _ _ _ _).mono ?_; rintro e w' ⟨rfl, rfl⟩)
            go_roundw
            case rel => exact ⟨j + 1 + 1, by omega, by go_num, hyy, trivial⟩
            case measure => simp [intOf]; omega
          · have hf := put (HNO.out (by intro h; exact hyx (h.2 j y rfl hy.out)))
            have hyx' : x ≤ y := by omega
            clear HNO HYES
            go_wp2_with (go_at_call 46; refine (l1In_any _ _ _ _).mono ?_; rintro e w' ⟨rfl, rfl⟩)
            go_ret
            exact ⟨ret_bool hf.out.symm, rfl⟩
    · have hfin := put (show risB lo hi xs = true by unfold risB; simp only [decide_eq_true_eq]; intro j x hj hx; exact hris.out j x (by rw [hl.out] at hj; omega) hx)
      go_wp2
      go_ret
      exact ⟨ret_bool hfin.out.symm, rfl⟩

end Go.Proofs.Ytfdijeeilfhjeaa
namespace Go.Proofs.Ytfdijeeilfhjeaa
open Go.RowKit Exs

set_option maxHeartbeats 1000000 in
set_option maxRecDepth 100000 in
theorem markStmts_ink (A : Option Addr) (n c : Nat) (ss : List St) (k : Int) (L : Nat) (wc w0 w : World) (m : MStmts wc L A n ss) (hw : Below wc.heap.size wc w0) (hi : Inked L wc.heap.size w0 w) (hn : n ≤ 1048576) (hs : ∀ x ∈ ss, SmallS x) (hk0 : 0 ≤ k) (hk1 : k + (inkSs ss : Int) ≤ 1000000000) :
    Calls Try.prog 67 #[.slice A n c, .int .i64 k] w fun e w' => e = .returned (.int .i64 (k + (inkSs ss : Int))) ∧ Inked L wc.heap.size w0 w' := by
  obtain ⟨g, rfl, hL, hroom, hl⟩ := m
  have hgl := hroom.lt
  obtain ⟨cs, hg0, _, hcs⟩ := hroom
  have hg := (hw.block g hgl).trans hg0
  have HLT := put hgl
  clear hg0 hgl
  have HL := put hl
  have HG := put hg
  have HC := put hcs
  have HK := put hk1
  clear hg hcs hl hk1
  go_enter Try.func67, Try.ntmps67
  go_wp2
  go_loopw [1, 5] (fun u i wr => ∃ j : Nat, j ≤ n ∧ i = .int .i64 j ∧ u = .int .i64 (k + (inkSs (ss.take j) : Int)) ∧ Inked L wc.heap.size w0 wr) (fun _ i _ => n - (intOf i).toNat)
  case atStart => exact ⟨0, Nat.zero_le _, rfl, by simp [inkSs], hi⟩
  case round =>
    clear hi
    obtain ⟨j, hj, rfl, rfl, hi⟩ := hrel
    by_cases hlt : j < n
    · have hx : ss[j]? = some (ss[j]'(by rw [HL.out]; exact hlt)) := List.getElem?_eq_getElem _
      generalize ss[j]'(by rw [HL.out]; exact hlt) = s at hx
      obtain ⟨A1, n1, c1, A2, n2, c2, A3, n3, c3, g0, g1, g2, g3, g4, ms⟩ := HC.out j s hx
      have hss := hs s (mem_of_at hx)
      have l1 : n1 ≤ 1048576 := by obtain ⟨_, _, _, _, e⟩ := ms.ex; rw [← e]; exact hss.1
      have l2 : n2 ≤ 1048576 := by obtain ⟨_, _, _, _, e⟩ := ms.th; rw [← e]; exact hss.2.1
      have l3 : n3 ≤ 1048576 := by obtain ⟨_, _, _, _, e⟩ := ms.el; rw [← e]; exact hss.2.2
      have hstep := inkSs_step hx
      have hval : inkS s = 2 + 2 * n1 + n2 + n3 := by
        obtain ⟨_, _, _, _, e1⟩ := ms.ex; obtain ⟨_, _, _, _, e2⟩ := ms.th; obtain ⟨_, _, _, _, e3⟩ := ms.el
        unfold inkS; rw [e1, e2, e3]
      have hbd : k + ((inkSs (ss.take j) : Nat) : Int) + 2 + 2 * (n1 : Int) + (n2 : Int) + (n3 : Int) ≤ 1000000000 := by have := HK.out; have := hstep.2; omega
      have HN := put (show (k + ((inkSs (ss.take j) : Nat) : Int) + 1 + 1 + 2 * (n1 : Int) + (n2 : Int) + (n3 : Int)) = k + ((inkSs (ss.take (j + 1)) : Nat) : Int) by rw [hstep.1, hval]; omega)
      generalize inkSs (ss.take j) = T at hbd HN
      clear hstep hval
      obtain ⟨y, hy⟩ := hi.num HG.out g0
      obtain ⟨y', hy'⟩ := hi.num HG.out g1
      have hfr := hi.frozen HG.out (j * 5)
      have hfr' := hi.frozen HG.out (j * 5 + 1)
      have hi2 := (hi.set hL HLT.out HG.out g0 (k + (T : Int))).set hL HLT.out HG.out g1 (k + (T : Int) + 1)
      have q2 := hi.slc HG.out g2
      clear g0 g1 hx
      have M1 := put (ms.ex.from (show L ≤ g + 1 by omega))
      have M2 := put (ms.th.from (show L ≤ g + 1 by omega))
      have M3 := put (ms.el.from (show L ≤ g + 1 by omega))
      have G2 := put g2
      have G3 := put g3
      have G4 := put g4
      clear g2 g3 g4 ms hi
      go_wp2_with fail
      generalize (wr.setCell ⟨g, j * 5, none⟩ (.int .i64 (k + (T : Int)))).setCell ⟨g, j * 5 + 1, none⟩ (.int .i64 (k + (T : Int) + 1)) = W at hi2 ⊢
      clear hy hy' hfr hfr' q2
      refine (markToks_ink A1 n1 c1 s.ex (k + (T : Int) + 1 + 1) L wc w0 W M1.out hw hi2 l1 (by omega) (by omega)).mono ?_
      rintro e W1 ⟨rfl, hi3⟩
      have q3 := hi3.slc HG.out G3.out
      clear hi2
      go_wp2_with fail
      clear q3
      refine (markInts_ink A2 n2 c2 s.th (k + (T : Int) + 1 + 1 + 2 * (n1 : Int)) L wc w0 W1 M2.out hw hi3 l2 (by omega) (by omega)).mono ?_
      rintro e W2 ⟨rfl, hi4⟩
      have q4 := hi4.slc HG.out G4.out
      clear hi3
      go_wp2_with fail
      clear q4
      refine (markInts_ink A3 n3 c3 s.el (k + (T : Int) + 1 + 1 + 2 * (n1 : Int) + (n2 : Int)) L wc w0 W2 M3.out hw hi4 l3 (by omega) (by omega)).mono ?_
      rintro e W3 ⟨rfl, hi5⟩
      clear hi4
      go_wp2
      go_roundw
      case rel => exact ⟨j + 1, by omega, by go_num, by rw [HN.out], hi5⟩
      case measure => simp [intOf]; omega
    · have hfin := put (show ss.take j = ss from List.take_of_length_le (by rw [HL.out]; omega))
      go_wp2
      go_ret
      exact ⟨ret_int (by rw [hfin.out]), hi⟩

set_option maxHeartbeats 400000 in
theorem markFunc_ink (f : Fc) (A1 : Option Addr) (n1 c1 : Nat) (A2 : Option Addr) (n2 c2 : Nat) (k : Int) (L : Nat) (wc w : World) (m : MFc wc L f A1 n1 A2 n2) (hL : L ≤ wc.heap.size) (hw : Below wc.heap.size wc w) (hs : SmallF f) (hk0 : 0 ≤ k) (hk1 : k + (inkF f : Int) ≤ 1000000000) :
    Calls Try.prog 26 #[fcV f A1 n1 c1 A2 n2 c2, .int .i64 k] w fun e w' => e = .returned (.int .i64 (k + (inkF f : Int))) ∧ Inked L wc.heap.size w w' := by
  have hi1 := (Inked.refl L wc.heap.size w).alloc (Nat.le_trans hL hw.size) (.cells #[.int .i64 f.params, .int .i64 f.vars, .slice A1 n1 c1, .slice A2 n2 c2] 58)
  have hw1 := hw.alloc hw.size (.cells #[.int .i64 f.params, .int .i64 f.vars, .slice A1 n1 c1, .slice A2 n2 c2] 58)
  have hk := Keep.new w #[.int .i64 f.params, .int .i64 f.vars, .slice A1 n1 c1, .slice A2 n2 c2] 58
  have e1 : f.body.length = n1 := by obtain ⟨_, _, _, _, e⟩ := m.body; exact e
  have l1 : n1 ≤ 1048576 := by rw [← e1]; exact hs.1
  have l2 : n2 ≤ 1048576 := by obtain ⟨_, _, _, _, e⟩ := m.stmts; rw [← e]; exact hs.2.1
  have hval : ((inkF f : Nat) : Int) = (n1 : Int) + ((inkSs f.stmts : Nat) : Int) := by unfold inkF; rw [e1]; omega
  have hsz := hw.size
  rw [hval] at hk1 ⊢
  clear hval e1
  have HK := put hk1
  unfold fcV
  go_enter Try.func26, Try.ntmps26
  go_wp2_with fail
  generalize w.alloc (.cells #[.int .i64 f.params, .int .i64 f.vars, .slice A1 n1 c1, .slice A2 n2 c2] 58) = W at hi1 hw1 hk ⊢
  refine (markInts_ink A1 n1 c1 f.body k L wc W W m.body hw1 (Inked.refl _ _ _) l1 hk0 (by have := HK.out; omega)).mono ?_
  rintro e w1 ⟨rfl, hi2⟩
  have y : w1.cell? ⟨w.heap.size, 3, none⟩ = some (.slice A2 n2 c2) := by
    have h1 : Keep w1 w.heap.size #[.int .i64 f.params, .int .i64 f.vars, .slice A1 n1 c1, .slice A2 n2 c2] 58 := (hi2.above _ hsz hk.lt).trans hk
    simpa using h1.cell 3
  go_wp2_with fail
  refine (markStmts_ink A2 n2 c2 f.stmts (k + (n1 : Int)) L wc W w1 m.stmts hw1 hi2 l2 hs.2.2 (by omega) (by have := HK.out; omega)).mono ?_
  rintro e w2 ⟨rfl, hi3⟩
  go_wp2
  go_ret
  exact ⟨ret_int (by omega), hi1.trans hi3⟩

end Go.Proofs.Ytfdijeeilfhjeaa
namespace Go.Proofs.Ytfdijeeilfhjeaa
open Go.RowKit Exs

/-- The numbers 1, 2, .. -/
def ups (n : Nat) : List Int := (List.range n).map fun j => ((j + 1 : Nat) : Int)
theorem ups_more (n : Nat) : ups (n + 1) = ups n ++ [(n : Int) + 1] := by simp [ups, List.range_succ]
theorem ups_length (n : Nat) : (ups n).length = n := by simp [ups]
theorem ups_get {n i : Nat} (h : i < n) : (ups n).getD i 0 = (i : Int) + 1 := by
  simp [ups, List.getD, h]
theorem Room.none_ {w : World} {g : Nat} {t : TypeId} {c : Nat} {k : IntKind} {xs : List Int} (h : Room w g t c k xs) : Room w g t c k [] := by
  obtain ⟨cs, h1, h2, _⟩ := h
  exact ⟨cs, h1, h2, rfl⟩

theorem Nums.of_room {w : World} {B g : Nat} {t : TypeId} {c : Nat} {k : IntKind} {xs : List Int} (h : Room w g t c k xs) (hB : B ≤ g) (hl : xs.length ≤ c) (hc : c ≤ maxLen) : Nums w B t k (.slice (some ⟨g, 0, none⟩) xs.length c) xs := by
  obtain ⟨cs, h1, h2, h3⟩ := h
  exact ⟨by simp, .inr ⟨g, c, cs, rfl, hB, h1, hl, hc, by simpa using h2, by simpa using h3⟩⟩
theorem Nums.to_room {w : World} {B : Nat} {t : TypeId} {k : IntKind} {v : Value} {xs : List Int} (h : Nums w B t k v xs) : (v = .slice none 0 0 ∧ xs = []) ∨ ∃ g c, v = .slice (some ⟨g, 0, none⟩) xs.length c ∧ B ≤ g ∧ Room w g t c k xs ∧ xs.length ≤ c ∧ c ≤ maxLen := by
  rcases h.2 with ⟨rfl, hn⟩ | ⟨g, cap, cur, rfl, hB, hg, hnc, hm, hcs, htk⟩
  · exact .inl ⟨rfl, List.eq_nil_of_length_eq_zero hn⟩
  · exact .inr ⟨g, cap, rfl, hB, ⟨cur, hg, by simpa using hcs, by simpa using htk⟩, hnc, hm⟩
theorem Nums.inked {w w' : World} {B L R : Nat} {t : TypeId} {k : IntKind} {v : Value} {xs : List Int} (h : Nums w B t k v xs) (hR : R ≤ B) (hi : Inked L R w w') : Nums w' B t k v xs := by
  obtain ⟨h1, h2⟩ := h
  refine ⟨h1, ?_⟩
  rcases h2 with h2 | ⟨g, cap, cur, hv, hg, hh, r⟩
  · exact Or.inl h2
  · exact Or.inr ⟨g, cap, cur, hv, hg, (hi.above g (by omega) (Array.getElem?_eq_some_iff.1 hh).1).trans hh, r⟩

set_option maxHeartbeats 400000 in
set_option maxRecDepth 100000 in
theorem markNums_any (v : Value) (xs : List Int) (B : Nat) (w : World) (h : Nums w B 3 .i64 v xs) (hn : xs.length ≤ 1048576) :
    Calls Try.prog 27 #[v, .int .i64 1] w fun e w' => e = .returned (.int .i64 ((xs.length : Int) + 1)) ∧ Nums w' B 3 .i64 v (ups xs.length) ∧ Below B w w' := by
  rcases h.to_room with ⟨rfl, rfl⟩ | ⟨g, c, rfl, hB, hroom, hl, hc⟩
  · go_enter Try.func27, Try.ntmps27
    go_wp2
    refine wp_loop_rounds 1 ?_
    rw [rounds_succ]
    go_wp2
    go_ret
    exact ⟨rfl, h, Below.refl _ _⟩
  · clear h
    have HC := put hc
    obtain ⟨n, hxn⟩ : ∃ n, xs.length = n := ⟨_, rfl⟩
    rw [hxn] at hl hn ⊢
    have hr0 := hroom.none_
    clear hroom hc hxn
    go_enter Try.func27, Try.ntmps27
    go_wp2
    go_loopw [1, 5] (fun u i wr => ∃ k : Nat, k ≤ n ∧ i = .int .i64 k ∧ u = .int .i64 ((k : Int) + 1) ∧ Room wr g 3 c .i64 (ups k) ∧ Below B w wr) (fun _ i _ => n - (intOf i).toNat)
    case atStart => exact ⟨0, Nat.zero_le _, rfl, rfl, hr0, Below.refl _ _⟩
    case round =>
      obtain ⟨k, hk, rfl, rfl, hroom, hb⟩ := hrel
      clear hr0
      by_cases hlt : k < n
      · obtain ⟨c0, hc0⟩ := hroom.at_ k (by omega)
        have hfr := hroom.frozen k
        have hpush := hroom.push (by rw [ups_length]; omega) ((k : Int) + 1)
        rw [ups_length, ← ups_more] at hpush
        have HP := put hpush
        have HB := put (hb.setCell (p := ⟨g, k, none⟩) hB (.int .i64 ((k : Int) + 1)))
        clear hpush
        go_wp2
        go_roundw
        case rel => exact ⟨k + 1, by omega, by go_num, by go_num, HP.out, HB.out⟩
        case measure => simp [intOf]; omega
      · obtain rfl : k = n := by omega
        go_wp2
        go_ret
        exact ⟨rfl, by have := Nums.of_room hroom hB (by rw [ups_length]; exact hl) HC.out; rwa [ups_length] at this, hb⟩

set_option maxHeartbeats 400000 in
set_option maxRecDepth 100000 in
theorem heldNums_any (v : Value) (n : Nat) (B : Nat) (w : World) (h : Nums w B 3 .i64 v (ups n)) (hn : n ≤ 1048576) :
    Calls Try.prog 28 #[v, .int .i64 1] w fun e w' => e = .returned (.int .i64 ((n : Int) + 1)) ∧ w = w' := by
  rcases h.to_room with ⟨rfl, hu⟩ | ⟨g, c, rfl, hB, hroom, hl, hc⟩
  · obtain rfl : n = 0 := by rw [← ups_length n, hu]; rfl
    go_enter Try.func28, Try.ntmps28
    go_wp2
    refine wp_loop_rounds 1 ?_
    rw [rounds_succ]
    go_wp2
    go_ret
    exact ⟨rfl, rfl⟩
  · rw [ups_length] at hl ⊢
    clear hc hl h
    go_enter Try.func28, Try.ntmps28
    go_wp2
    go_loop [1, 5] (fun u i => ∃ k : Nat, k ≤ n ∧ i = .int .i64 k ∧ u = .int .i64 ((k : Int) + 1)) (fun _ i => n - (intOf i).toNat)
    case atStart => exact ⟨0, Nat.zero_le _, rfl, rfl⟩
    case round =>
      obtain ⟨k, hk, rfl, rfl⟩ := hrel
      by_cases hlt : k < n
      · have hc := hroom.cell k (by rw [ups_length]; exact hlt)
        rw [ups_get hlt] at hc
        go_wp2
        go_round
        case rel => exact ⟨k + 1, by omega, by go_num, by go_num⟩
        case measure => simp [intOf]; omega
      · obtain rfl : k = n := by omega
        go_wp2
        go_ret
        exact ⟨rfl, rfl⟩

/-- Rows of one list are the same for the laws' comparing. -/
theorem eqNums_any (v v' : Value) (xs : List Int) (B B' : Nat) (w : World) (h : Nums w B 3 .i64 v xs) (h' : Nums w B' 3 .i64 v' xs) (hn : xs.length ≤ 1048576) :
    Calls Try.prog 24 #[v, v'] w fun e w' => e = .returned (.bool true) ∧ ∃ q, w' = w.drewN q := by
  obtain ⟨A, c, rfl, hr⟩ := h.reads
  obtain ⟨A', c', rfl, hr'⟩ := h'.reads
  exact eqInts_same A A' _ c c' xs w hr hr' hn
theorem Nums.drewN {w : World} {B : Nat} {t : TypeId} {k : IntKind} {v : Value} {xs : List Int} (h : Nums w B t k v xs) (q : Nat) : Nums (w.drewN q) B t k v xs := h
/-- A row that lies below L, while all below L stays. -/
theorem Nums.under {w w' : World} {B L : Nat} {t : TypeId} {k : IntKind} {v : Value} {xs : List Int} (h : Nums w B t k v xs) (hL : w.heap.size ≤ L) (hb : Below L w w') : Nums w' B t k v xs := h.belowNew (hb.mono hL)

end Go.Proofs.Ytfdijeeilfhjeaa

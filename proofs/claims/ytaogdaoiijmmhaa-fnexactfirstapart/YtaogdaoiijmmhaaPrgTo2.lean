/-
  The laws' copying of programs: contracts.
-/
import Derived.Test.YtaogdaoiijmmhaaPrgTo
namespace Go.Proofs.Ytaogdaoiijmmhaa
open Go.RowKit Exs

/-- Block g of the world holds just these cells, none frozen. -/
def Keep (w : World) (g : Nat) (cs : Array Value) (t : TypeId) : Prop := w.heap[g]? = some (.cells cs t (0, 0))
section
variable {w w' : World} {g g' i : Nat} {cs : Array Value} {t : TypeId} {v : Value}
theorem Keep.new (w : World) (cs : Array Value) (t : TypeId) : Keep (w.alloc (.cells cs t)) w.heap.size cs t := heap_alloc_new _ _
theorem Keep.lt (h : Keep w g cs t) : g < w.heap.size := (Array.getElem?_eq_some_iff.1 h).1
theorem Keep.alloc (h : Keep w g cs t) (o : Obj) : Keep (w.alloc o) g cs t := (Below.heap_alloc _ _ _ h.lt).trans h
theorem Keep.below (h : Keep w g cs t) (hb : Below w.heap.size w w') : Keep w' g cs t := (hb.block g h.lt).trans h
theorem Keep.set (h : Keep w g cs t) (i : Nat) (v : Value) : Keep (w.setCell ⟨g, i, none⟩ v) g (cs.setIfInBounds i v) t := heap_set h
theorem Keep.other (h : Keep w g cs t) (hg : g ≠ g') (i : Nat) (v : Value) : Keep (w.setCell ⟨g', i, none⟩ v) g cs t := (Below.heap_setCell _ _ _ _ hg).trans h
theorem Keep.cell (h : Keep w g cs t) (i : Nat) : w.cell? ⟨g, i, none⟩ = cs[i]? := cell_of_row w g i cs t (0, 0) h
theorem Keep.frozen (h : Keep w g cs t) (i : Nat) : w.frozen? ⟨g, i, none⟩ = false := by
  unfold Keep at h
  simp [World.frozen?, h]
end

theorem toInts_m (A : Option Addr) (n c : Nat) (xs : List Int) (w : World) (hr : Reads w w.heap.size .i64 A n xs) (hn : n ≤ 1048576) :
    Calls Try.prog 16 #[.slice A n c] w fun e w' => ∃ B, e = .returned (.slice B n n) ∧ MInts w' w.heap.size B n xs ∧ Below w.heap.size w w' :=
  (toInts_any A n c xs w hr hn).mono fun _ _ ⟨he, hroom, hb⟩ => ⟨_, he, ⟨_, rfl, Nat.le_refl _, hroom, hr.1⟩, hb⟩
theorem toToks_m (A : Option Addr) (n c : Nat) (xs : List Token) (w : World) (hr : ReadsT w w.heap.size A n xs) (hn : n ≤ 1048576) :
    Calls Try.prog 64 #[.slice A n c] w fun e w' => ∃ B, e = .returned (.slice B n n) ∧ MToks w' w.heap.size B n xs ∧ Below w.heap.size w w' :=
  (toToks_any A n c xs w hr hn).mono fun _ _ ⟨he, hroom, hb⟩ => ⟨_, he, ⟨_, rfl, Nat.le_refl _, hroom, hr.1⟩, hb⟩

set_option maxHeartbeats 1000000 in
set_option maxRecDepth 100000 in
theorem toStmt_any (s : St) (A1 : Option Addr) (n1 c1 : Nat) (A2 : Option Addr) (n2 c2 : Nat) (A3 : Option Addr) (n3 c3 : Nat) (w : World) (hr : IsSt w w.heap.size s A1 n1 A2 n2 A3 n3) (hs : SmallS s) :
    Calls Try.prog 58 #[stV s A1 n1 c1 A2 n2 c2 A3 n3 c3] w fun e w' => ∃ B1 B2 B3, e = .returned (stV s B1 n1 n1 B2 n2 n2 B3 n3 n3) ∧ MSt w' w.heap.size s B1 n1 B2 n2 B3 n3 ∧ Below w.heap.size w w' := by
  obtain ⟨l1, l2, l3⟩ := hs
  rw [hr.ex.1] at l1; rw [hr.th.1] at l2; rw [hr.el.1] at l3
  unfold stV
  go_enter Try.func58, Try.ntmps58
  go_wp2_with fail
  have hb0 : Below w.heap.size w (((w.alloc (.cells #[.int .i64 s.kind, .int .i64 s.n, .slice A1 n1 c1, .slice A2 n2 c2, .slice A3 n3 c3] 90)).alloc (.cells #[.int .i64 0, .int .i64 0, .slice none 0 0, .slice none 0 0, .slice none 0 0] 68)).alloc (.cells #[.int .i64 s.kind, .int .i64 s.n, .slice none 0 0, .slice none 0 0, .slice none 0 0] 68)) :=
    (((Below.refl _ _).alloc (Nat.le_refl _) _).alloc (by simp) _).alloc (by simp; omega) _
  have hx0 : Keep (((w.alloc (.cells #[.int .i64 s.kind, .int .i64 s.n, .slice A1 n1 c1, .slice A2 n2 c2, .slice A3 n3 c3] 90)).alloc (.cells #[.int .i64 0, .int .i64 0, .slice none 0 0, .slice none 0 0, .slice none 0 0] 68)).alloc (.cells #[.int .i64 s.kind, .int .i64 s.n, .slice none 0 0, .slice none 0 0, .slice none 0 0] 68)) w.heap.size #[.int .i64 s.kind, .int .i64 s.n, .slice A1 n1 c1, .slice A2 n2 c2, .slice A3 n3 c3] 90 := ((Keep.new _ _ _).alloc _).alloc _
  have hy0 : Keep (((w.alloc (.cells #[.int .i64 s.kind, .int .i64 s.n, .slice A1 n1 c1, .slice A2 n2 c2, .slice A3 n3 c3] 90)).alloc (.cells #[.int .i64 0, .int .i64 0, .slice none 0 0, .slice none 0 0, .slice none 0 0] 68)).alloc (.cells #[.int .i64 s.kind, .int .i64 s.n, .slice none 0 0, .slice none 0 0, .slice none 0 0] 68)) (w.heap.size + 1) #[.int .i64 0, .int .i64 0, .slice none 0 0, .slice none 0 0, .slice none 0 0] 68 := by
    have := Keep.new (w.alloc (.cells #[.int .i64 s.kind, .int .i64 s.n, .slice A1 n1 c1, .slice A2 n2 c2, .slice A3 n3 c3] 90)) #[.int .i64 0, .int .i64 0, .slice none 0 0, .slice none 0 0, .slice none 0 0] 68
    rw [World.size_alloc] at this
    exact this.alloc _
  have hz0 : Keep (((w.alloc (.cells #[.int .i64 s.kind, .int .i64 s.n, .slice A1 n1 c1, .slice A2 n2 c2, .slice A3 n3 c3] 90)).alloc (.cells #[.int .i64 0, .int .i64 0, .slice none 0 0, .slice none 0 0, .slice none 0 0] 68)).alloc (.cells #[.int .i64 s.kind, .int .i64 s.n, .slice none 0 0, .slice none 0 0, .slice none 0 0] 68)) (w.heap.size + 1 + 1) #[.int .i64 s.kind, .int .i64 s.n, .slice none 0 0, .slice none 0 0, .slice none 0 0] 68 := by
    have := Keep.new ((w.alloc (.cells #[.int .i64 s.kind, .int .i64 s.n, .slice A1 n1 c1, .slice A2 n2 c2, .slice A3 n3 c3] 90)).alloc (.cells #[.int .i64 0, .int .i64 0, .slice none 0 0, .slice none 0 0, .slice none 0 0] 68)) #[.int .i64 s.kind, .int .i64 s.n, .slice none 0 0, .slice none 0 0, .slice none 0 0] 68
    rw [World.size_alloc, World.size_alloc] at this
    exact this
  generalize hW0 : ((w.alloc (.cells #[.int .i64 s.kind, .int .i64 s.n, .slice A1 n1 c1, .slice A2 n2 c2, .slice A3 n3 c3] 90)).alloc (.cells #[.int .i64 0, .int .i64 0, .slice none 0 0, .slice none 0 0, .slice none 0 0] 68)).alloc (.cells #[.int .i64 s.kind, .int .i64 s.n, .slice none 0 0, .slice none 0 0, .slice none 0 0] 68) = W0 at hb0 hx0 hy0 hz0 ⊢
  clear hW0
  refine (toToks_m A1 n1 c1 s.ex _ (hr.ex.now hb0) l1).mono ?_
  rintro e V0 ⟨B1, rfl, m1, hc0⟩
  have s0 := hb0.size
  have t0 := hc0.size
  have l0z := hz0.lt
  replace hx0 := hx0.below hc0
  replace hy0 := hy0.below hc0
  replace hz0 := hz0.below hc0
  replace hb0 : Below w.heap.size w V0 := hb0.trans (hc0.mono hb0.size)
  replace m1 := m1.same ((SameFrom.setCell V0 (w.heap.size + 1 + 1) 2 (.slice B1 n1 n1)).mono (by omega))
  have hx1 := hx0.other (g' := w.heap.size + 1 + 1) (by omega) 2 (.slice B1 n1 n1)
  have hy1 := hy0.other (g' := w.heap.size + 1 + 1) (by omega) 2 (.slice B1 n1 n1)
  have hz1 := hz0.set 2 (.slice B1 n1 n1)
  have q2 := hz0.cell 2
  have q3 := hz0.frozen 2
  simp at q2
  have hb1 : Below w.heap.size w (V0.setCell ⟨w.heap.size + 1 + 1, 2, none⟩ (.slice B1 n1 n1)) := hb0.setCell (by simp; omega) _
  have q1 := hx0.cell 3
  simp at q1
  clear hx0 hy0 hz0 hb0 hc0
  go_wp2_with fail
  generalize hW : V0.setCell ⟨w.heap.size + 1 + 1, 2, none⟩ (.slice B1 n1 n1) = W1 at m1 hx1 hy1 hz1 hb1 ⊢
  clear hW q1 q2 q3
  refine (toInts_m A2 n2 c2 s.th _ (hr.th.now hb1) l2).mono ?_
  rintro e V1 ⟨B2, rfl, m2, hc1⟩
  have s1 := hb1.size
  have t1 := hc1.size
  have l1z := hz1.lt
  replace m1 := m1.same (SameFrom.of_below hc1)
  replace hx1 := hx1.below hc1
  replace hy1 := hy1.below hc1
  replace hz1 := hz1.below hc1
  replace hb1 : Below w.heap.size w V1 := hb1.trans (hc1.mono hb1.size)
  replace m1 := m1.same ((SameFrom.setCell V1 (w.heap.size + 1 + 1) 3 (.slice B2 n2 n2)).mono (by omega))
  replace m2 := m2.same ((SameFrom.setCell V1 (w.heap.size + 1 + 1) 3 (.slice B2 n2 n2)).mono (by omega))
  have hx2 := hx1.other (g' := w.heap.size + 1 + 1) (by omega) 3 (.slice B2 n2 n2)
  have hy2 := hy1.other (g' := w.heap.size + 1 + 1) (by omega) 3 (.slice B2 n2 n2)
  have hz2 := hz1.set 3 (.slice B2 n2 n2)
  have q2 := hz1.cell 3
  have q3 := hz1.frozen 3
  simp at q2
  have hb2 : Below w.heap.size w (V1.setCell ⟨w.heap.size + 1 + 1, 3, none⟩ (.slice B2 n2 n2)) := hb1.setCell (by simp; omega) _
  have q1 := hx1.cell 4
  simp at q1
  clear hx1 hy1 hz1 hb1 hc1
  go_wp2_with fail
  generalize hW : V1.setCell ⟨w.heap.size + 1 + 1, 3, none⟩ (.slice B2 n2 n2) = W2 at m1 m2 hx2 hy2 hz2 hb2 ⊢
  clear hW q1 q2 q3
  refine (toInts_m A3 n3 c3 s.el _ (hr.el.now hb2) l3).mono ?_
  rintro e V2 ⟨B3, rfl, m3, hc2⟩
  have s2 := hb2.size
  have t2 := hc2.size
  have l2z := hz2.lt
  replace m1 := m1.same (SameFrom.of_below hc2)
  replace m2 := m2.same (SameFrom.of_below hc2)
  replace hx2 := hx2.below hc2
  replace hy2 := hy2.below hc2
  replace hz2 := hz2.below hc2
  replace hb2 : Below w.heap.size w V2 := hb2.trans (hc2.mono hb2.size)
  replace m1 := m1.same ((SameFrom.setCell V2 (w.heap.size + 1 + 1) 4 (.slice B3 n3 n3)).mono (by omega))
  replace m2 := m2.same ((SameFrom.setCell V2 (w.heap.size + 1 + 1) 4 (.slice B3 n3 n3)).mono (by omega))
  replace m3 := m3.same ((SameFrom.setCell V2 (w.heap.size + 1 + 1) 4 (.slice B3 n3 n3)).mono (by omega))
  have hx3 := hx2.other (g' := w.heap.size + 1 + 1) (by omega) 4 (.slice B3 n3 n3)
  have hy3 := hy2.other (g' := w.heap.size + 1 + 1) (by omega) 4 (.slice B3 n3 n3)
  have hz3 := hz2.set 4 (.slice B3 n3 n3)
  have q2 := hz2.cell 4
  have q3 := hz2.frozen 4
  simp at q2
  have hb3 : Below w.heap.size w (V2.setCell ⟨w.heap.size + 1 + 1, 4, none⟩ (.slice B3 n3 n3)) := hb2.setCell (by simp; omega) _
  have z0 := hz2.cell 0
  have z1 := hz2.cell 1
  have z2 := hz2.cell 2
  have z3 := hz2.cell 3
  have y0 := hy2.cell 0
  have f0 := hy2.frozen 0
  have y1 := hy2.cell 1
  have f1 := hy2.frozen 1
  have y2 := hy2.cell 2
  have f2 := hy2.frozen 2
  have y3 := hy2.cell 3
  have f3 := hy2.frozen 3
  have y4 := hy2.cell 4
  have f4 := hy2.frozen 4
  simp at z0 z1 z2 z3 y0 y1 y2 y3 y4
  clear hx2 hy2 hz2 hb2 hc2 hx3
  go_wp2
  replace m1 := m1.same ((SameFrom.setCell _ (w.heap.size + 1) 0 (.int .i64 s.kind)).mono (by omega))
  replace m1 := m1.same ((SameFrom.setCell _ (w.heap.size + 1) 1 (.int .i64 s.n)).mono (by omega))
  replace m1 := m1.same ((SameFrom.setCell _ (w.heap.size + 1) 2 (.slice B1 n1 n1)).mono (by omega))
  replace m1 := m1.same ((SameFrom.setCell _ (w.heap.size + 1) 3 (.slice B2 n2 n2)).mono (by omega))
  replace m1 := m1.same ((SameFrom.setCell _ (w.heap.size + 1) 4 (.slice B3 n3 n3)).mono (by omega))
  replace m2 := m2.same ((SameFrom.setCell _ (w.heap.size + 1) 0 (.int .i64 s.kind)).mono (by omega))
  replace m2 := m2.same ((SameFrom.setCell _ (w.heap.size + 1) 1 (.int .i64 s.n)).mono (by omega))
  replace m2 := m2.same ((SameFrom.setCell _ (w.heap.size + 1) 2 (.slice B1 n1 n1)).mono (by omega))
  replace m2 := m2.same ((SameFrom.setCell _ (w.heap.size + 1) 3 (.slice B2 n2 n2)).mono (by omega))
  replace m2 := m2.same ((SameFrom.setCell _ (w.heap.size + 1) 4 (.slice B3 n3 n3)).mono (by omega))
  replace m3 := m3.same ((SameFrom.setCell _ (w.heap.size + 1) 0 (.int .i64 s.kind)).mono (by omega))
  replace m3 := m3.same ((SameFrom.setCell _ (w.heap.size + 1) 1 (.int .i64 s.n)).mono (by omega))
  replace m3 := m3.same ((SameFrom.setCell _ (w.heap.size + 1) 2 (.slice B1 n1 n1)).mono (by omega))
  replace m3 := m3.same ((SameFrom.setCell _ (w.heap.size + 1) 3 (.slice B2 n2 n2)).mono (by omega))
  replace m3 := m3.same ((SameFrom.setCell _ (w.heap.size + 1) 4 (.slice B3 n3 n3)).mono (by omega))
  have hyF := (((((hy3.set 0 (.int .i64 s.kind)).set 1 (.int .i64 s.n)).set 2 (.slice B1 n1 n1)).set 3 (.slice B2 n2 n2)).set 4 (.slice B3 n3 n3))
  have r0 := hyF.cell 0
  have r1 := hyF.cell 1
  have r2 := hyF.cell 2
  have r3 := hyF.cell 3
  have r4 := hyF.cell 4
  simp at r0 r1 r2 r3 r4
  have hbF := (((((hb3.setCell (p := ⟨w.heap.size + 1, 0, none⟩) (Nat.le_succ _) (.int .i64 s.kind)).setCell (p := ⟨w.heap.size + 1, 1, none⟩) (Nat.le_succ _) (.int .i64 s.n)).setCell (p := ⟨w.heap.size + 1, 2, none⟩) (Nat.le_succ _) (.slice B1 n1 n1)).setCell (p := ⟨w.heap.size + 1, 3, none⟩) (Nat.le_succ _) (.slice B2 n2 n2)).setCell (p := ⟨w.heap.size + 1, 4, none⟩) (Nat.le_succ _) (.slice B3 n3 n3))
  clear hyF z0 y0 f0 z1 y1 f1 z2 y2 f2 z3 y3 f3 y4 f4
  exact bodyPost_ret (v := .agg #[.int .i64 s.kind, .int .i64 s.n, .slice B1 n1 n1, .slice B2 n2 n2, .slice B3 n3 n3]) (by simp [results, Try.results58, go_sem, r0, r1, r2, r3, r4]) rfl ⟨B1, B2, B3, rfl, ⟨m1.from (by omega), m2.from (by omega), m3.from (by omega)⟩, hbF⟩

theorem Try.info68 : (Try.prog.info? 68).map (fun i => (i.zero, i.size, i.bytes)) = some (some (.agg #[.int .i64 0, .int .i64 0, .slice none 0 0, .slice none 0 0, .slice none 0 0]), 5, 88) := by kernel_rfl
theorem Try.info51 : (Try.prog.info? 51).map (fun i => (i.zero, i.size, i.bytes)) = some (some (.agg #[.int .i64 0, .int .i64 0, .slice none 0 0, .slice none 0 0]), 4, 64) := by kernel_rfl
theorem RoomS.made (w : World) (n : Nat) (z : Array Value) (m : Nat) (hm : m = n * 5) : RoomS (w.alloc (.cells (madeCells z m) 68)) w.heap.size n [] :=
  ⟨_, heap_alloc_new _ _, by rw [size_madeCells]; omega, fun j s hj => by simp at hj⟩
theorem RoomF.made (w : World) (n : Nat) (z : Array Value) (m : Nat) (hm : m = n * 4) : RoomF (w.alloc (.cells (madeCells z m) 51)) w.heap.size n [] :=
  ⟨_, heap_alloc_new _ _, by rw [size_madeCells]; omega, fun j s hj => by simp at hj⟩

set_option maxHeartbeats 1000000 in
set_option maxRecDepth 100000 in
theorem toStmts_any (A : Option Addr) (n c : Nat) (ss : List St) (w : World) (hr : ReadsS w w.heap.size A n ss) (hn : n ≤ 1048576) (hs : ∀ s ∈ ss, SmallS s) :
    Calls Try.prog 46 #[.slice A n c] w fun e w' => ∃ B, e = .returned (.slice B n n) ∧ MStmts w' w.heap.size B n ss ∧ Below w.heap.size w w' := by
  have hmk := fun W => run_make_rows (P := Try.prog) 49 68 (.agg #[.int .i64 0, .int .i64 0, .slice none 0 0, .slice none 0 0, .slice none 0 0]) 5 88 Try.underlying49 Try.info68 n (by omega) (by omega) W
  go_enter Try.func46, Try.ntmps46
  go_wp2
  go_loopw [4] (fun i wr => ∃ k : Nat, k ≤ n ∧ i = .int .i64 k ∧ RoomS wr w.heap.size n (ss.take k) ∧ Below w.heap.size w wr) (fun i _ => n - (intOf i).toNat)
  case atStart => exact ⟨0, Nat.zero_le _, rfl, RoomS.made w n _ _ rfl, (Below.refl _ _).alloc (Nat.le_refl _) _⟩
  case round =>
    obtain ⟨k, hk, rfl, hroom, hbel⟩ := hrel
    clear hmk
    by_cases hlt : k < n
    · obtain ⟨b, off, s, A1, n1, c1, A2, n2, c2, A3, n3, c3, rfl, hb, g0, g1, g2, g3, g4, r1, r2, r3, hx⟩ := (hr.below hbel).at_ hlt
      go_wp2_with fail
      refine (toStmt_any s _ _ _ _ _ _ _ _ _ _ (IsSt.more ⟨r1, r2, r3⟩ hbel.size) (hs _ (mem_of_at hx.out))).mono ?_
      rintro e w1 ⟨B1, B2, B3, rfl, hm, hb1⟩
      have hroom1 := hroom.same (SameFrom.of_below hb1)
      have hbel1 : Below w.heap.size w w1 := hbel.trans (hb1.mono hbel.size)
      obtain ⟨d0, hd0⟩ := hroom1.at_ (k * 5) (by omega)
      obtain ⟨d1, hd1⟩ := hroom1.at_ (k * 5 + 1) (by omega)
      obtain ⟨d2, hd2⟩ := hroom1.at_ (k * 5 + 2) (by omega)
      obtain ⟨d3, hd3⟩ := hroom1.at_ (k * 5 + 3) (by omega)
      obtain ⟨d4, hd4⟩ := hroom1.at_ (k * 5 + 4) (by omega)
      have hf0 := hroom1.frozen (k * 5)
      have hf1 := hroom1.frozen (k * 5 + 1)
      have hf2 := hroom1.frozen (k * 5 + 2)
      have hf3 := hroom1.frozen (k * 5 + 3)
      have hf4 := hroom1.frozen (k * 5 + 4)
      have hlen : (ss.take k).length = k := by rw [List.length_take, hr.1]; omega
      have hpush := hroom1.push (by rw [hlen]; exact hlt) s B1 n1 n1 B2 n2 n2 B3 n3 n3 (hm.from hroom.lt)
      rw [hlen, ← takeA_more hx.out] at hpush
      have HP := put hpush; clear hpush hlen g0 g1 g2 g3 g4 hb1 hroom hroom1 hm r1 r2 r3
      unfold stV
      go_wp2
      go_roundw
      case rel => exact ⟨k + 1, by omega, by go_num, HP.out, ((((hbel1.setCell (by simp) _).setCell (by simp) _).setCell (by simp) _).setCell (by simp) _).setCell (by simp) _⟩
      case measure => simp [intOf]; omega
    · have hfin := put (show ss.take k = ss from List.take_of_length_le (by rw [hr.1]; omega))
      go_wp2
      go_ret
      exact ⟨_, rfl, ⟨_, rfl, Nat.le_refl _, by rw [hfin.out] at hroom; exact hroom, hr.1⟩, hbel⟩

set_option maxHeartbeats 1000000 in
set_option maxRecDepth 100000 in
theorem toFunc_any (f : Fc) (A1 : Option Addr) (n1 c1 : Nat) (A2 : Option Addr) (n2 c2 : Nat) (w : World) (hr : IsFc w w.heap.size f A1 n1 A2 n2) (hs : SmallF f) :
    Calls Try.prog 33 #[fcV f A1 n1 c1 A2 n2 c2] w fun e w' => ∃ B1 B2, e = .returned (fcV f B1 n1 n1 B2 n2 n2) ∧ MFc w' w.heap.size f B1 n1 B2 n2 ∧ Below w.heap.size w w' := by
  obtain ⟨l1, l2, l3⟩ := hs
  rw [hr.body.1] at l1; rw [hr.stmts.1] at l2
  unfold fcV
  go_enter Try.func33, Try.ntmps33
  go_wp2_with fail
  have hb0 : Below w.heap.size w (((w.alloc (.cells #[.int .i64 f.params, .int .i64 f.vars, .slice A1 n1 c1, .slice A2 n2 c2] 62)).alloc (.cells #[.int .i64 0, .int .i64 0, .slice none 0 0, .slice none 0 0] 51)).alloc (.cells #[.int .i64 f.params, .int .i64 f.vars, .slice none 0 0, .slice none 0 0] 51)) :=
    (((Below.refl _ _).alloc (Nat.le_refl _) _).alloc (by simp) _).alloc (by simp; omega) _
  have hx0 : Keep (((w.alloc (.cells #[.int .i64 f.params, .int .i64 f.vars, .slice A1 n1 c1, .slice A2 n2 c2] 62)).alloc (.cells #[.int .i64 0, .int .i64 0, .slice none 0 0, .slice none 0 0] 51)).alloc (.cells #[.int .i64 f.params, .int .i64 f.vars, .slice none 0 0, .slice none 0 0] 51)) w.heap.size #[.int .i64 f.params, .int .i64 f.vars, .slice A1 n1 c1, .slice A2 n2 c2] 62 := ((Keep.new _ _ _).alloc _).alloc _
  have hy0 : Keep (((w.alloc (.cells #[.int .i64 f.params, .int .i64 f.vars, .slice A1 n1 c1, .slice A2 n2 c2] 62)).alloc (.cells #[.int .i64 0, .int .i64 0, .slice none 0 0, .slice none 0 0] 51)).alloc (.cells #[.int .i64 f.params, .int .i64 f.vars, .slice none 0 0, .slice none 0 0] 51)) (w.heap.size + 1) #[.int .i64 0, .int .i64 0, .slice none 0 0, .slice none 0 0] 51 := by
    have := Keep.new (w.alloc (.cells #[.int .i64 f.params, .int .i64 f.vars, .slice A1 n1 c1, .slice A2 n2 c2] 62)) #[.int .i64 0, .int .i64 0, .slice none 0 0, .slice none 0 0] 51
    rw [World.size_alloc] at this
    exact this.alloc _
  have hz0 : Keep (((w.alloc (.cells #[.int .i64 f.params, .int .i64 f.vars, .slice A1 n1 c1, .slice A2 n2 c2] 62)).alloc (.cells #[.int .i64 0, .int .i64 0, .slice none 0 0, .slice none 0 0] 51)).alloc (.cells #[.int .i64 f.params, .int .i64 f.vars, .slice none 0 0, .slice none 0 0] 51)) (w.heap.size + 1 + 1) #[.int .i64 f.params, .int .i64 f.vars, .slice none 0 0, .slice none 0 0] 51 := by
    have := Keep.new ((w.alloc (.cells #[.int .i64 f.params, .int .i64 f.vars, .slice A1 n1 c1, .slice A2 n2 c2] 62)).alloc (.cells #[.int .i64 0, .int .i64 0, .slice none 0 0, .slice none 0 0] 51)) #[.int .i64 f.params, .int .i64 f.vars, .slice none 0 0, .slice none 0 0] 51
    rw [World.size_alloc, World.size_alloc] at this
    exact this
  generalize hW0 : ((w.alloc (.cells #[.int .i64 f.params, .int .i64 f.vars, .slice A1 n1 c1, .slice A2 n2 c2] 62)).alloc (.cells #[.int .i64 0, .int .i64 0, .slice none 0 0, .slice none 0 0] 51)).alloc (.cells #[.int .i64 f.params, .int .i64 f.vars, .slice none 0 0, .slice none 0 0] 51) = W0 at hb0 hx0 hy0 hz0 ⊢
  clear hW0
  refine (toInts_m A1 n1 c1 f.body _ (hr.body.now hb0) l1).mono ?_
  rintro e V0 ⟨B1, rfl, m1, hc0⟩
  have s0 := hb0.size
  have t0 := hc0.size
  have l0z := hz0.lt
  replace hx0 := hx0.below hc0
  replace hy0 := hy0.below hc0
  replace hz0 := hz0.below hc0
  replace hb0 : Below w.heap.size w V0 := hb0.trans (hc0.mono hb0.size)
  replace m1 := m1.same ((SameFrom.setCell V0 (w.heap.size + 1 + 1) 2 (.slice B1 n1 n1)).mono (by omega))
  have hx1 := hx0.other (g' := w.heap.size + 1 + 1) (by omega) 2 (.slice B1 n1 n1)
  have hy1 := hy0.other (g' := w.heap.size + 1 + 1) (by omega) 2 (.slice B1 n1 n1)
  have hz1 := hz0.set 2 (.slice B1 n1 n1)
  have q2 := hz0.cell 2
  have q3 := hz0.frozen 2
  simp at q2
  have hb1 : Below w.heap.size w (V0.setCell ⟨w.heap.size + 1 + 1, 2, none⟩ (.slice B1 n1 n1)) := hb0.setCell (by simp; omega) _
  have q1 := hx0.cell 3
  simp at q1
  clear hx0 hy0 hz0 hb0 hc0
  go_wp2_with fail
  generalize hW : V0.setCell ⟨w.heap.size + 1 + 1, 2, none⟩ (.slice B1 n1 n1) = W1 at m1 hx1 hy1 hz1 hb1 ⊢
  clear hW q1 q2 q3
  refine (toStmts_any A2 n2 c2 f.stmts _ (hr.stmts.now hb1) l2 l3).mono ?_
  rintro e V1 ⟨B2, rfl, m2, hc1⟩
  have s1 := hb1.size
  have t1 := hc1.size
  have l1z := hz1.lt
  replace m1 := m1.same (SameFrom.of_below hc1)
  replace hx1 := hx1.below hc1
  replace hy1 := hy1.below hc1
  replace hz1 := hz1.below hc1
  replace hb1 : Below w.heap.size w V1 := hb1.trans (hc1.mono hb1.size)
  replace m1 := m1.same ((SameFrom.setCell V1 (w.heap.size + 1 + 1) 3 (.slice B2 n2 n2)).mono (by omega))
  replace m2 := m2.same ((SameFrom.setCell V1 (w.heap.size + 1 + 1) 3 (.slice B2 n2 n2)).mono (by omega))
  have hx2 := hx1.other (g' := w.heap.size + 1 + 1) (by omega) 3 (.slice B2 n2 n2)
  have hy2 := hy1.other (g' := w.heap.size + 1 + 1) (by omega) 3 (.slice B2 n2 n2)
  have hz2 := hz1.set 3 (.slice B2 n2 n2)
  have q2 := hz1.cell 3
  have q3 := hz1.frozen 3
  simp at q2
  have hb2 : Below w.heap.size w (V1.setCell ⟨w.heap.size + 1 + 1, 3, none⟩ (.slice B2 n2 n2)) := hb1.setCell (by simp; omega) _
  have z0 := hz1.cell 0
  have z1 := hz1.cell 1
  have z2 := hz1.cell 2
  have y0 := hy1.cell 0
  have f0 := hy1.frozen 0
  have y1 := hy1.cell 1
  have f1 := hy1.frozen 1
  have y2 := hy1.cell 2
  have f2 := hy1.frozen 2
  have y3 := hy1.cell 3
  have f3 := hy1.frozen 3
  simp at z0 z1 z2 y0 y1 y2 y3
  clear hx1 hy1 hz1 hb1 hc1 hx2
  go_wp2
  replace m1 := m1.same ((SameFrom.setCell _ (w.heap.size + 1) 0 (.int .i64 f.params)).mono (by omega))
  replace m1 := m1.same ((SameFrom.setCell _ (w.heap.size + 1) 1 (.int .i64 f.vars)).mono (by omega))
  replace m1 := m1.same ((SameFrom.setCell _ (w.heap.size + 1) 2 (.slice B1 n1 n1)).mono (by omega))
  replace m1 := m1.same ((SameFrom.setCell _ (w.heap.size + 1) 3 (.slice B2 n2 n2)).mono (by omega))
  replace m2 := m2.same ((SameFrom.setCell _ (w.heap.size + 1) 0 (.int .i64 f.params)).mono (by omega))
  replace m2 := m2.same ((SameFrom.setCell _ (w.heap.size + 1) 1 (.int .i64 f.vars)).mono (by omega))
  replace m2 := m2.same ((SameFrom.setCell _ (w.heap.size + 1) 2 (.slice B1 n1 n1)).mono (by omega))
  replace m2 := m2.same ((SameFrom.setCell _ (w.heap.size + 1) 3 (.slice B2 n2 n2)).mono (by omega))
  have hyF := ((((hy2.set 0 (.int .i64 f.params)).set 1 (.int .i64 f.vars)).set 2 (.slice B1 n1 n1)).set 3 (.slice B2 n2 n2))
  have r0 := hyF.cell 0
  have r1 := hyF.cell 1
  have r2 := hyF.cell 2
  have r3 := hyF.cell 3
  simp at r0 r1 r2 r3
  have hbF := ((((hb2.setCell (p := ⟨w.heap.size + 1, 0, none⟩) (Nat.le_succ _) (.int .i64 f.params)).setCell (p := ⟨w.heap.size + 1, 1, none⟩) (Nat.le_succ _) (.int .i64 f.vars)).setCell (p := ⟨w.heap.size + 1, 2, none⟩) (Nat.le_succ _) (.slice B1 n1 n1)).setCell (p := ⟨w.heap.size + 1, 3, none⟩) (Nat.le_succ _) (.slice B2 n2 n2))
  clear hyF z0 y0 f0 z1 y1 f1 z2 y2 f2 y3 f3
  exact bodyPost_ret (v := .agg #[.int .i64 f.params, .int .i64 f.vars, .slice B1 n1 n1, .slice B2 n2 n2]) (by simp [results, Try.results33, go_sem, r0, r1, r2, r3]) rfl ⟨B1, B2, rfl, ⟨m1.from (by omega), m2.from (by omega)⟩, hbF⟩

set_option maxHeartbeats 1000000 in
set_option maxRecDepth 100000 in
theorem toFuncs_any (A : Option Addr) (n c : Nat) (fs : List Fc) (w : World) (hr : ReadsF w w.heap.size A n fs) (hn : n ≤ 1048576) (hs : ∀ f ∈ fs, SmallF f) :
    Calls Try.prog 23 #[.slice A n c] w fun e w' => ∃ B, e = .returned (.slice B n n) ∧ MFuncs w' w.heap.size B n fs ∧ Below w.heap.size w w' := by
  have hmk := fun W => run_make_rows (P := Try.prog) 37 51 (.agg #[.int .i64 0, .int .i64 0, .slice none 0 0, .slice none 0 0]) 4 64 Try.underlying37 Try.info51 n (by omega) (by omega) W
  go_enter Try.func23, Try.ntmps23
  go_wp2
  go_loopw [4] (fun i wr => ∃ k : Nat, k ≤ n ∧ i = .int .i64 k ∧ RoomF wr w.heap.size n (fs.take k) ∧ Below w.heap.size w wr) (fun i _ => n - (intOf i).toNat)
  case atStart => exact ⟨0, Nat.zero_le _, rfl, RoomF.made w n _ _ rfl, (Below.refl _ _).alloc (Nat.le_refl _) _⟩
  case round =>
    obtain ⟨k, hk, rfl, hroom, hbel⟩ := hrel
    clear hmk
    by_cases hlt : k < n
    · obtain ⟨b, off, f, A1, n1, c1, A2, n2, c2, rfl, hb, g0, g1, g2, g3, r1, r2, hx⟩ := (hr.below hbel).at_ hlt
      go_wp2_with fail
      refine (toFunc_any f _ _ _ _ _ _ _ (IsFc.more ⟨r1, r2⟩ hbel.size) (hs _ (mem_of_at hx.out))).mono ?_
      rintro e w1 ⟨B1, B2, rfl, hm, hb1⟩
      have hroom1 := hroom.same (SameFrom.of_below hb1)
      have hbel1 : Below w.heap.size w w1 := hbel.trans (hb1.mono hbel.size)
      obtain ⟨d0, hd0⟩ := hroom1.at_ (k * 4) (by omega)
      obtain ⟨d1, hd1⟩ := hroom1.at_ (k * 4 + 1) (by omega)
      obtain ⟨d2, hd2⟩ := hroom1.at_ (k * 4 + 2) (by omega)
      obtain ⟨d3, hd3⟩ := hroom1.at_ (k * 4 + 3) (by omega)
      have hf0 := hroom1.frozen (k * 4)
      have hf1 := hroom1.frozen (k * 4 + 1)
      have hf2 := hroom1.frozen (k * 4 + 2)
      have hf3 := hroom1.frozen (k * 4 + 3)
      have hlen : (fs.take k).length = k := by rw [List.length_take, hr.1]; omega
      have hpush := hroom1.push (by rw [hlen]; exact hlt) f B1 n1 n1 B2 n2 n2 (hm.from hroom.lt)
      rw [hlen, ← takeA_more hx.out] at hpush
      have HP := put hpush; clear hpush hlen g0 g1 g2 g3 hb1 hroom hroom1 hm r1 r2
      unfold fcV
      go_wp2
      go_roundw
      case rel => exact ⟨k + 1, by omega, by go_num, HP.out, (((hbel1.setCell (by simp) _).setCell (by simp) _).setCell (by simp) _).setCell (by simp) _⟩
      case measure => simp [intOf]; omega
    · have hfin := put (show fs.take k = fs from List.take_of_length_le (by rw [hr.1]; omega))
      go_wp2
      go_ret
      exact ⟨_, rfl, ⟨_, rfl, Nat.le_refl _, by rw [hfin.out] at hroom; exact hroom, hr.1⟩, hbel⟩

structure Pg where
  funcs : List Fc
def pgV (_ : Pg) (A : Option Addr) (n c : Nat) : Value := .agg #[.slice A n c]
structure IsPg (w : World) (B : Nat) (p : Pg) (A : Option Addr) (n : Nat) : Prop where
  funcs : ReadsF w B A n p.funcs
structure MPg (w : World) (L : Nat) (p : Pg) (A : Option Addr) (n : Nat) : Prop where
  funcs : MFuncs w L A n p.funcs
theorem MFuncs.from {w : World} {L L' : Nat} {A : Option Addr} {n : Nat} {xs : List Fc} (h : MFuncs w L A n xs) (hL : L' ≤ L) : MFuncs w L' A n xs := by
  obtain ⟨g, e, hg, r, hl⟩ := h; exact ⟨g, e, by omega, r, hl⟩
def SmallPg (p : Pg) : Prop := SmallP p.funcs

set_option maxHeartbeats 1000000 in
set_option maxRecDepth 100000 in
theorem toPg_any (p : Pg) (A1 : Option Addr) (n1 c1 : Nat) (w : World) (hr : IsPg w w.heap.size p A1 n1) (hs : SmallPg p) :
    Calls Try.prog 12 #[pgV p A1 n1 c1] w fun e w' => ∃ B1, e = .returned (pgV p B1 n1 n1) ∧ MPg w' w.heap.size p B1 n1 ∧ Below w.heap.size w w' := by
  obtain ⟨l1, l2⟩ := hs
  rw [hr.funcs.1] at l1
  unfold pgV
  go_enter Try.func12, Try.ntmps12
  go_wp2_with fail
  have hb0 : Below w.heap.size w (((w.alloc (.cells #[.slice A1 n1 c1] 34)).alloc (.cells #[.slice none 0 0] 39)).alloc (.cells #[.slice none 0 0] 39)) :=
    (((Below.refl _ _).alloc (Nat.le_refl _) _).alloc (by simp) _).alloc (by simp; omega) _
  have hx0 : Keep (((w.alloc (.cells #[.slice A1 n1 c1] 34)).alloc (.cells #[.slice none 0 0] 39)).alloc (.cells #[.slice none 0 0] 39)) w.heap.size #[.slice A1 n1 c1] 34 := ((Keep.new _ _ _).alloc _).alloc _
  have hy0 : Keep (((w.alloc (.cells #[.slice A1 n1 c1] 34)).alloc (.cells #[.slice none 0 0] 39)).alloc (.cells #[.slice none 0 0] 39)) (w.heap.size + 1) #[.slice none 0 0] 39 := by
    have := Keep.new (w.alloc (.cells #[.slice A1 n1 c1] 34)) #[.slice none 0 0] 39
    rw [World.size_alloc] at this
    exact this.alloc _
  have hz0 : Keep (((w.alloc (.cells #[.slice A1 n1 c1] 34)).alloc (.cells #[.slice none 0 0] 39)).alloc (.cells #[.slice none 0 0] 39)) (w.heap.size + 1 + 1) #[.slice none 0 0] 39 := by
    have := Keep.new ((w.alloc (.cells #[.slice A1 n1 c1] 34)).alloc (.cells #[.slice none 0 0] 39)) #[.slice none 0 0] 39
    rw [World.size_alloc, World.size_alloc] at this
    exact this
  generalize hW0 : ((w.alloc (.cells #[.slice A1 n1 c1] 34)).alloc (.cells #[.slice none 0 0] 39)).alloc (.cells #[.slice none 0 0] 39) = W0 at hb0 hx0 hy0 hz0 ⊢
  clear hW0
  refine (toFuncs_any A1 n1 c1 p.funcs _ (hr.funcs.now hb0) l1 l2).mono ?_
  rintro e V0 ⟨B1, rfl, m1, hc0⟩
  have s0 := hb0.size
  have t0 := hc0.size
  have l0z := hz0.lt
  replace hx0 := hx0.below hc0
  replace hy0 := hy0.below hc0
  replace hz0 := hz0.below hc0
  replace hb0 : Below w.heap.size w V0 := hb0.trans (hc0.mono hb0.size)
  replace m1 := m1.same ((SameFrom.setCell V0 (w.heap.size + 1 + 1) 0 (.slice B1 n1 n1)).mono (by omega))
  have hx1 := hx0.other (g' := w.heap.size + 1 + 1) (by omega) 0 (.slice B1 n1 n1)
  have hy1 := hy0.other (g' := w.heap.size + 1 + 1) (by omega) 0 (.slice B1 n1 n1)
  have hz1 := hz0.set 0 (.slice B1 n1 n1)
  have q2 := hz0.cell 0
  have q3 := hz0.frozen 0
  simp at q2
  have hb1 : Below w.heap.size w (V0.setCell ⟨w.heap.size + 1 + 1, 0, none⟩ (.slice B1 n1 n1)) := hb0.setCell (by simp; omega) _
  have y0 := hy0.cell 0
  have f0 := hy0.frozen 0
  simp at  y0
  clear hx0 hy0 hz0 hb0 hc0 hx1
  go_wp2
  replace m1 := m1.same ((SameFrom.setCell _ (w.heap.size + 1) 0 (.slice B1 n1 n1)).mono (by omega))
  have hyF := (hy1.set 0 (.slice B1 n1 n1))
  have r0 := hyF.cell 0
  simp at r0
  have hbF := (hb1.setCell (p := ⟨w.heap.size + 1, 0, none⟩) (Nat.le_succ _) (.slice B1 n1 n1))
  clear hyF  y0 f0
  exact bodyPost_ret (v := .agg #[.slice B1 n1 n1]) (by simp [results, Try.results12, go_sem, r0]) rfl ⟨B1, rfl, ⟨m1.from (by omega)⟩, hbF⟩

theorem toProg_any (A : Option Addr) (n c : Nat) (fs : List Fc) (w : World) (hr : ReadsF w w.heap.size A n fs) (hs : SmallP fs) :
    Calls Try.prog 12 #[.agg #[.slice A n c]] w fun e w' => ∃ B, e = .returned (.agg #[.slice B n n]) ∧ MFuncs w' w.heap.size B n fs ∧ Below w.heap.size w w' :=
  (toPg_any ⟨fs⟩ A n c w ⟨hr⟩ hs).mono fun _ _ ⟨B, he, hm, hb⟩ => ⟨B, he, hm.funcs, hb⟩

end Go.Proofs.Ytaogdaoiijmmhaa

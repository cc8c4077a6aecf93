/-
  Texts joined: CoTo2 CoInk Own Put.
-/
import Derived.Test.YtpbkkjiikhjanaaDoorJKit
/-
  The laws' copying of images: contracts.
-/
namespace Go.Proofs.YtpbkkjiikhjanaaDoor
open Go.RowKit Exs

/-- Block g of the world holds just these cells, none frozen. -/
def Keep (w : World) (g : Nat) (cs : Array Value) (t : TypeId) : Prop := w.heap[g]? = some (.cells cs t (0, 0))
section
variable {w w' : World} {g g' i : Nat} {cs : Array Value} {t : TypeId} {v : Value}
theorem Keep.new (w : World) (cs : Array Value) (t : TypeId) : Keep (w.alloc (.cells cs t)) w.heap.size cs t := heap_alloc_new _ _
theorem Keep.lt (h : Keep w g cs t) : g < w.heap.size := (Array.getElem?_eq_some_iff.1 h).1
theorem Keep.alloc (h : Keep w g cs t) (o : Obj) : Keep (w.alloc o) g cs t := (Below.heap_alloc _ _ _ h.lt).trans h
theorem Keep.below (h : Keep w g cs t) (hb : Below w.heap.size w w') : Keep w' g cs t := (hb.block g h.lt).trans h
theorem Keep.set (h : Keep w g cs t) (i : Nat) (v : Value) : Keep (w.setCell ⟨g, i, none⟩ v) g (cs.setIfInBounds i v) t := heap_set h
theorem Keep.other (h : Keep w g cs t) (hg : g ≠ g') (i : Nat) (v : Value) : Keep (w.setCell ⟨g', i, none⟩ v) g cs t := (Below.heap_setCell _ _ _ _ hg).trans h
theorem Keep.cell (h : Keep w g cs t) (i : Nat) : w.cell? ⟨g, i, none⟩ = cs[i]? := cell_of_row w g i cs t (0, 0) h
theorem Keep.frozen (h : Keep w g cs t) (i : Nat) : w.frozen? ⟨g, i, none⟩ = false := by
  unfold Keep at h
  simp [World.frozen?, h]
end

theorem toInts_m (A : Option Addr) (n c : Nat) (xs : List Int) (w : World) (hr : Reads w w.heap.size .i64 A n xs) (hn : n ≤ 1048576) :
    Calls Tryd.prog 20 #[.slice A n c] w fun e w' => ∃ B, e = .returned (.slice B n n) ∧ MInts w' w.heap.size B n xs ∧ Below w.heap.size w w' :=
  (toInts_any A n c xs w hr hn).mono fun _ _ ⟨he, hroom, hb⟩ => ⟨_, he, ⟨_, rfl, Nat.le_refl _, hroom, hr.1⟩, hb⟩
theorem toToks_m (A : Option Addr) (n c : Nat) (xs : List Token) (w : World) (hr : ReadsT w w.heap.size A n xs) (hn : n ≤ 1048576) :
    Calls Tryd.prog 52 #[.slice A n c] w fun e w' => ∃ B, e = .returned (.slice B n n) ∧ MToks w' w.heap.size B n xs ∧ Below w.heap.size w w' :=
  (toToks_any A n c xs w hr hn).mono fun _ _ ⟨he, hroom, hb⟩ => ⟨_, he, ⟨_, rfl, Nat.le_refl _, hroom, hr.1⟩, hb⟩

set_option maxHeartbeats 400000 in
theorem toRow_any (x y z : Int) (w : World) : Calls Tryd.prog 77 #[.agg #[.int .i64 x, .int .i64 y, .int .i64 z]] w fun e w' => e = .returned (.agg #[.int .i64 x, .int .i64 y, .int .i64 z]) ∧ Below w.heap.size w w' := by
  go_enter Tryd.func77, Tryd.ntmps77
  go_wp2
  exact bodyPost_ret (v := .agg #[.int .i64 x, .int .i64 y, .int .i64 z]) (by simp [results, Tryd.results77, go_sem]) rfl ⟨rfl, (((Below.refl _ _).alloc (Nat.le_refl _) _).alloc (by simp) _).alloc (by simp; omega) _⟩

theorem Tryd.info115 : (Tryd.prog.info? 115).map (fun i => (i.zero, i.size, i.bytes)) = some (some (.agg #[.int .i64 0, .int .i64 0, .int .i64 0]), 3, 24) := by kernel_rfl
theorem Tryd.info76 : (Tryd.prog.info? 76).map (fun i => (i.zero, i.size, i.bytes)) = some (some (.agg #[.int .i64 0, .int .i64 0, .slice none 0 0, .slice none 0 0, .slice none 0 0]), 5, 88) := by kernel_rfl

theorem Room.madeR (w : World) (t : TypeId) (n : Nat) (z : Array Value) (m : Nat) (hm : m = n * 3) : Room (w.alloc (.cells (madeCells z m) t)) w.heap.size t (3 * n) .i64 (flat3 []) :=
  ⟨_, heap_alloc_new _ _, by rw [size_madeCells]; omega, rfl⟩
theorem Room.pushR {w : World} {g : Nat} {t : TypeId} {n : Nat} {ts : List Row3} (h : Room w g t (3 * n) .i64 (flat3 ts)) (hc : ts.length < n) (x y z : Int) :
    Room (((w.setCell ⟨g, ts.length * 3, none⟩ (.int .i64 x)).setCell ⟨g, ts.length * 3 + 1, none⟩ (.int .i64 y)).setCell ⟨g, ts.length * 3 + 2, none⟩ (.int .i64 z)) g t (3 * n) .i64 (flat3 (ts ++ [(x, y, z)])) := by
  have hl := flat3_length ts
  have h1 := h.push (by omega) x
  have h2 := h1.push (by simp; omega) y
  have h3 := h2.push (by simp; omega) z
  rw [List.length_append, List.length_append, hl] at h3
  rw [List.length_append, hl] at h3
  rw [flat3_snoc]
  simpa [Nat.mul_comm] using h3

set_option maxHeartbeats 400000 in
set_option maxRecDepth 100000 in
theorem toRows_m (A : Option Addr) (n c : Nat) (ts : List Row3) (w : World) (hr : ReadsR w w.heap.size A n ts) (hn : n ≤ 1048576) :
    Calls Tryd.prog 53 #[.slice A n c] w fun e w' => ∃ B, e = .returned (.slice B n n) ∧ MRows w' w.heap.size B n ts ∧ Below w.heap.size w w' := by
  have hmk := fun W => run_make_rows (P := Tryd.prog) 74 115 (.agg #[.int .i64 0, .int .i64 0, .int .i64 0]) 3 24 Tryd.underlying74 Tryd.info115 n (by omega) (by omega) W
  go_enter Tryd.func53, Tryd.ntmps53
  go_wp2
  go_loopw [4] (fun i wr => ∃ k : Nat, k ≤ n ∧ i = .int .i64 k ∧ Room wr w.heap.size 115 (3 * n) .i64 (flat3 (ts.take k)) ∧ Below w.heap.size w wr) (fun i _ => n - (intOf i).toNat)
  case atStart => exact ⟨0, Nat.zero_le _, rfl, Room.madeR w 115 n _ _ rfl, (Below.refl _ _).alloc (Nat.le_refl _) _⟩
  case round =>
    obtain ⟨k, hk, rfl, hroom, hbel⟩ := hrel
    clear hmk
    by_cases hlt : k < n
    · obtain ⟨b, off, x, y, z, rfl, hb, hc, hc', hc'', hx⟩ := (hr.below hbel).at_ hlt
      go_wp2_with fail
      refine (toRow_any x y z _).mono ?_
      rintro e w1 ⟨rfl, hb1⟩
      have hroom1 := hroom.below hb1 hroom.lt
      have hbel1 : Below w.heap.size w w1 := hbel.trans (hb1.mono hbel.size)
      obtain ⟨c0, hc0⟩ := hroom1.at_ (k * 3) (by omega)
      obtain ⟨c1, hc1⟩ := hroom1.at_ (k * 3 + 1) (by omega)
      obtain ⟨c2, hc2⟩ := hroom1.at_ (k * 3 + 2) (by omega)
      have hf0 := hroom1.frozen (k * 3)
      have hf1 := hroom1.frozen (k * 3 + 1)
      have hf2 := hroom1.frozen (k * 3 + 2)
      have hlen : (ts.take k).length = k := by rw [List.length_take, hr.1]; omega
      have hpush := hroom1.pushR (by rw [hlen]; exact hlt) x y z
      rw [hlen, ← takeA_more hx.out] at hpush
      have HP := put hpush; clear hpush hlen hc hc' hc'' hb1
      go_wp2
      go_roundw
      case rel => exact ⟨k + 1, by omega, by go_num, HP.out, ((hbel1.setCell (by simp) _).setCell (by simp) _).setCell (by simp) _⟩
      case measure => simp [intOf]; omega
    · have hfin := put (show ts.take k = ts from List.take_of_length_le (by rw [hr.1]; omega))
      go_wp2
      go_ret
      exact ⟨_, rfl, ⟨_, rfl, Nat.le_refl _, by rw [hfin.out] at hroom; exact hroom, hr.1⟩, hbel⟩
theorem RoomC.made (w : World) (n : Nat) (z : Array Value) (m : Nat) (hm : m = n * 5) : RoomC (w.alloc (.cells (madeCells z m) 76)) w.heap.size n [] :=
  ⟨_, heap_alloc_new _ _, by rw [size_madeCells]; omega, fun j s hj => by simp at hj⟩

set_option maxHeartbeats 1000000 in
set_option maxRecDepth 100000 in
theorem toCode_any (s : Cd) (A1 : Option Addr) (n1 c1 : Nat) (A2 : Option Addr) (n2 c2 : Nat) (A3 : Option Addr) (n3 c3 : Nat) (w : World) (hr : IsCd w w.heap.size s A1 n1 A2 n2 A3 n3) (hs : SmallC s) :
    Calls Tryd.prog 32 #[cdV s A1 n1 c1 A2 n2 c2 A3 n3 c3] w fun e w' => ∃ B1 B2 B3, e = .returned (cdV s B1 n1 n1 B2 n2 n2 B3 n3 n3) ∧ MCd w' w.heap.size s B1 n1 B2 n2 B3 n3 ∧ Below w.heap.size w w' := by
  obtain ⟨l1, l2, l3⟩ := hs
  rw [hr.sites.1] at l1; rw [hr.ins.1] at l2; rw [hr.rows.1] at l3
  unfold cdV
  go_enter Tryd.func32, Tryd.ntmps32
  go_wp2_with fail
  have hb0 : Below w.heap.size w (((w.alloc (.cells #[.int .i64 s.params, .int .i64 s.vars, .slice A1 n1 c1, .slice A2 n2 c2, .slice A3 n3 c3] 67)).alloc (.cells #[.int .i64 0, .int .i64 0, .slice none 0 0, .slice none 0 0, .slice none 0 0] 76)).alloc (.cells #[.int .i64 s.params, .int .i64 s.vars, .slice none 0 0, .slice none 0 0, .slice none 0 0] 76)) :=
    (((Below.refl _ _).alloc (Nat.le_refl _) _).alloc (by simp) _).alloc (by simp; omega) _
  have hx0 : Keep (((w.alloc (.cells #[.int .i64 s.params, .int .i64 s.vars, .slice A1 n1 c1, .slice A2 n2 c2, .slice A3 n3 c3] 67)).alloc (.cells #[.int .i64 0, .int .i64 0, .slice none 0 0, .slice none 0 0, .slice none 0 0] 76)).alloc (.cells #[.int .i64 s.params, .int .i64 s.vars, .slice none 0 0, .slice none 0 0, .slice none 0 0] 76)) w.heap.size #[.int .i64 s.params, .int .i64 s.vars, .slice A1 n1 c1, .slice A2 n2 c2, .slice A3 n3 c3] 67 := ((Keep.new _ _ _).alloc _).alloc _
  have hy0 : Keep (((w.alloc (.cells #[.int .i64 s.params, .int .i64 s.vars, .slice A1 n1 c1, .slice A2 n2 c2, .slice A3 n3 c3] 67)).alloc (.cells #[.int .i64 0, .int .i64 0, .slice none 0 0, .slice none 0 0, .slice none 0 0] 76)).alloc (.cells #[.int .i64 s.params, .int .i64 s.vars, .slice none 0 0, .slice none 0 0, .slice none 0 0] 76)) (w.heap.size + 1) #[.int .i64 0, .int .i64 0, .slice none 0 0, .slice none 0 0, .slice none 0 0] 76 := by
    have := Keep.new (w.alloc (.cells #[.int .i64 s.params, .int .i64 s.vars, .slice A1 n1 c1, .slice A2 n2 c2, .slice A3 n3 c3] 67)) #[.int .i64 0, .int .i64 0, .slice none 0 0, .slice none 0 0, .slice none 0 0] 76
    rw [World.size_alloc] at this
    exact this.alloc _
  have hz0 : Keep (((w.alloc (.cells #[.int .i64 s.params, .int .i64 s.vars, .slice A1 n1 c1, .slice A2 n2 c2, .slice A3 n3 c3] 67)).alloc (.cells #[.int .i64 0, .int .i64 0, .slice none 0 0, .slice none 0 0, .slice none 0 0] 76)).alloc (.cells #[.int .i64 s.params, .int .i64 s.vars, .slice none 0 0, .slice none 0 0, .slice none 0 0] 76)) (w.heap.size + 1 + 1) #[.int .i64 s.params, .int .i64 s.vars, .slice none 0 0, .slice none 0 0, .slice none 0 0] 76 := by
    have := Keep.new ((w.alloc (.cells #[.int .i64 s.params, .int .i64 s.vars, .slice A1 n1 c1, .slice A2 n2 c2, .slice A3 n3 c3] 67)).alloc (.cells #[.int .i64 0, .int .i64 0, .slice none 0 0, .slice none 0 0, .slice none 0 0] 76)) #[.int .i64 s.params, .int .i64 s.vars, .slice none 0 0, .slice none 0 0, .slice none 0 0] 76
    rw [World.size_alloc, World.size_alloc] at this
    exact this
  generalize hW0 : ((w.alloc (.cells #[.int .i64 s.params, .int .i64 s.vars, .slice A1 n1 c1, .slice A2 n2 c2, .slice A3 n3 c3] 67)).alloc (.cells #[.int .i64 0, .int .i64 0, .slice none 0 0, .slice none 0 0, .slice none 0 0] 76)).alloc (.cells #[.int .i64 s.params, .int .i64 s.vars, .slice none 0 0, .slice none 0 0, .slice none 0 0] 76) = W0 at hb0 hx0 hy0 hz0 ⊢
  clear hW0
  refine (toInts_m A1 n1 c1 s.sites _ (hr.sites.now hb0) l1).mono ?_
  rintro e V0 ⟨B1, rfl, m1, hc0⟩
  have s0 := hb0.size
  have t0 := hc0.size
  have l0z := hz0.lt
  replace hx0 := hx0.below hc0
  replace hy0 := hy0.below hc0
  replace hz0 := hz0.below hc0
  replace hb0 : Below w.heap.size w V0 := hb0.trans (hc0.mono hb0.size)
  replace m1 := m1.same ((SameFrom.setCell V0 (w.heap.size + 1 + 1) 2 (.slice B1 n1 n1)).mono (by omega))
  have hx1 := hx0.other (g' := w.heap.size + 1 + 1) (by omega) 2 (.slice B1 n1 n1)
  have hy1 := hy0.other (g' := w.heap.size + 1 + 1) (by omega) 2 (.slice B1 n1 n1)
  have hz1 := hz0.set 2 (.slice B1 n1 n1)
  have q2 := hz0.cell 2
  have q3 := hz0.frozen 2
  simp at q2
  have hb1 : Below w.heap.size w (V0.setCell ⟨w.heap.size + 1 + 1, 2, none⟩ (.slice B1 n1 n1)) := hb0.setCell (by simp; omega) _
  have q1 := hx0.cell 3
  simp at q1
  clear hx0 hy0 hz0 hb0 hc0
  go_wp2_with fail
  generalize hW : V0.setCell ⟨w.heap.size + 1 + 1, 2, none⟩ (.slice B1 n1 n1) = W1 at m1 hx1 hy1 hz1 hb1 ⊢
  clear hW q1 q2 q3
  refine (toToks_m A2 n2 c2 s.ins _ (hr.ins.now hb1) l2).mono ?_
  rintro e V1 ⟨B2, rfl, m2, hc1⟩
  have s1 := hb1.size
  have t1 := hc1.size
  have l1z := hz1.lt
  replace m1 := m1.same (SameFrom.of_below hc1)
  replace hx1 := hx1.below hc1
  replace hy1 := hy1.below hc1
  replace hz1 := hz1.below hc1
  replace hb1 : Below w.heap.size w V1 := hb1.trans (hc1.mono hb1.size)
  replace m1 := m1.same ((SameFrom.setCell V1 (w.heap.size + 1 + 1) 3 (.slice B2 n2 n2)).mono (by omega))
  replace m2 := m2.same ((SameFrom.setCell V1 (w.heap.size + 1 + 1) 3 (.slice B2 n2 n2)).mono (by omega))
  have hx2 := hx1.other (g' := w.heap.size + 1 + 1) (by omega) 3 (.slice B2 n2 n2)
  have hy2 := hy1.other (g' := w.heap.size + 1 + 1) (by omega) 3 (.slice B2 n2 n2)
  have hz2 := hz1.set 3 (.slice B2 n2 n2)
  have q2 := hz1.cell 3
  have q3 := hz1.frozen 3
  simp at q2
  have hb2 : Below w.heap.size w (V1.setCell ⟨w.heap.size + 1 + 1, 3, none⟩ (.slice B2 n2 n2)) := hb1.setCell (by simp; omega) _
  have q1 := hx1.cell 4
  simp at q1
  clear hx1 hy1 hz1 hb1 hc1
  go_wp2_with fail
  generalize hW : V1.setCell ⟨w.heap.size + 1 + 1, 3, none⟩ (.slice B2 n2 n2) = W2 at m1 m2 hx2 hy2 hz2 hb2 ⊢
  clear hW q1 q2 q3
  refine (toRows_m A3 n3 c3 s.rows _ (hr.rows.now hb2) l3).mono ?_
  rintro e V2 ⟨B3, rfl, m3, hc2⟩
  have s2 := hb2.size
  have t2 := hc2.size
  have l2z := hz2.lt
  replace m1 := m1.same (SameFrom.of_below hc2)
  replace m2 := m2.same (SameFrom.of_below hc2)
  replace hx2 := hx2.below hc2
  replace hy2 := hy2.below hc2
  replace hz2 := hz2.below hc2
  replace hb2 : Below w.heap.size w V2 := hb2.trans (hc2.mono hb2.size)
  replace m1 := m1.same ((SameFrom.setCell V2 (w.heap.size + 1 + 1) 4 (.slice B3 n3 n3)).mono (by omega))
  replace m2 := m2.same ((SameFrom.setCell V2 (w.heap.size + 1 + 1) 4 (.slice B3 n3 n3)).mono (by omega))
  replace m3 := m3.same ((SameFrom.setCell V2 (w.heap.size + 1 + 1) 4 (.slice B3 n3 n3)).mono (by omega))
  have hx3 := hx2.other (g' := w.heap.size + 1 + 1) (by omega) 4 (.slice B3 n3 n3)
  have hy3 := hy2.other (g' := w.heap.size + 1 + 1) (by omega) 4 (.slice B3 n3 n3)
  have hz3 := hz2.set 4 (.slice B3 n3 n3)
  have q2 := hz2.cell 4
  have q3 := hz2.frozen 4
  simp at q2
  have hb3 : Below w.heap.size w (V2.setCell ⟨w.heap.size + 1 + 1, 4, none⟩ (.slice B3 n3 n3)) := hb2.setCell (by simp; omega) _
  have z0 := hz2.cell 0
  have z1 := hz2.cell 1
  have z2 := hz2.cell 2
  have z3 := hz2.cell 3
  have y0 := hy2.cell 0
  have f0 := hy2.frozen 0
  have y1 := hy2.cell 1
  have f1 := hy2.frozen 1
  have y2 := hy2.cell 2
  have f2 := hy2.frozen 2
  have y3 := hy2.cell 3
  have f3 := hy2.frozen 3
  have y4 := hy2.cell 4
  have f4 := hy2.frozen 4
  simp at z0 z1 z2 z3 y0 y1 y2 y3 y4
  clear hx2 hy2 hz2 hb2 hc2 hx3
  go_wp2
  replace m1 := m1.same ((SameFrom.setCell _ (w.heap.size + 1) 0 (.int .i64 s.params)).mono (by omega))
  replace m1 := m1.same ((SameFrom.setCell _ (w.heap.size + 1) 1 (.int .i64 s.vars)).mono (by omega))
  replace m1 := m1.same ((SameFrom.setCell _ (w.heap.size + 1) 2 (.slice B1 n1 n1)).mono (by omega))
  replace m1 := m1.same ((SameFrom.setCell _ (w.heap.size + 1) 3 (.slice B2 n2 n2)).mono (by omega))
  replace m1 := m1.same ((SameFrom.setCell _ (w.heap.size + 1) 4 (.slice B3 n3 n3)).mono (by omega))
  replace m2 := m2.same ((SameFrom.setCell _ (w.heap.size + 1) 0 (.int .i64 s.params)).mono (by omega))
  replace m2 := m2.same ((SameFrom.setCell _ (w.heap.size + 1) 1 (.int .i64 s.vars)).mono (by omega))
  replace m2 := m2.same ((SameFrom.setCell _ (w.heap.size + 1) 2 (.slice B1 n1 n1)).mono (by omega))
  replace m2 := m2.same ((SameFrom.setCell _ (w.heap.size + 1) 3 (.slice B2 n2 n2)).mono (by omega))
  replace m2 := m2.same ((SameFrom.setCell _ (w.heap.size + 1) 4 (.slice B3 n3 n3)).mono (by omega))
  replace m3 := m3.same ((SameFrom.setCell _ (w.heap.size + 1) 0 (.int .i64 s.params)).mono (by omega))
  replace m3 := m3.same ((SameFrom.setCell _ (w.heap.size + 1) 1 (.int .i64 s.vars)).mono (by omega))
  replace m3 := m3.same ((SameFrom.setCell _ (w.heap.size + 1) 2 (.slice B1 n1 n1)).mono (by omega))
  replace m3 := m3.same ((SameFrom.setCell _ (w.heap.size + 1) 3 (.slice B2 n2 n2)).mono (by omega))
  replace m3 := m3.same ((SameFrom.setCell _ (w.heap.size + 1) 4 (.slice B3 n3 n3)).mono (by omega))
  have hyF := (((((hy3.set 0 (.int .i64 s.params)).set 1 (.int .i64 s.vars)).set 2 (.slice B1 n1 n1)).set 3 (.slice B2 n2 n2)).set 4 (.slice B3 n3 n3))
  have r0 := hyF.cell 0
  have r1 := hyF.cell 1
  have r2 := hyF.cell 2
  have r3 := hyF.cell 3
  have r4 := hyF.cell 4
  simp at r0 r1 r2 r3 r4
  have hbF := (((((hb3.setCell (p := ⟨w.heap.size + 1, 0, none⟩) (Nat.le_succ _) (.int .i64 s.params)).setCell (p := ⟨w.heap.size + 1, 1, none⟩) (Nat.le_succ _) (.int .i64 s.vars)).setCell (p := ⟨w.heap.size + 1, 2, none⟩) (Nat.le_succ _) (.slice B1 n1 n1)).setCell (p := ⟨w.heap.size + 1, 3, none⟩) (Nat.le_succ _) (.slice B2 n2 n2)).setCell (p := ⟨w.heap.size + 1, 4, none⟩) (Nat.le_succ _) (.slice B3 n3 n3))
  clear hyF z0 y0 f0 z1 y1 f1 z2 y2 f2 z3 y3 f3 y4 f4
  exact bodyPost_ret (v := .agg #[.int .i64 s.params, .int .i64 s.vars, .slice B1 n1 n1, .slice B2 n2 n2, .slice B3 n3 n3]) (by simp [results, Tryd.results32, go_sem, r0, r1, r2, r3, r4]) rfl ⟨B1, B2, B3, rfl, ⟨m1.from (by omega), m2.from (by omega), m3.from (by omega)⟩, hbF⟩

set_option maxHeartbeats 1000000 in
set_option maxRecDepth 100000 in
theorem toCodes_any (A : Option Addr) (n c : Nat) (ss : List Cd) (w : World) (hr : ReadsC w w.heap.size A n ss) (hn : n ≤ 1048576) (hs : ∀ s ∈ ss, SmallC s) :
    Calls Tryd.prog 18 #[.slice A n c] w fun e w' => ∃ B, e = .returned (.slice B n n) ∧ MCds w' w.heap.size B n ss ∧ Below w.heap.size w w' := by
  have hmk := fun W => run_make_rows (P := Tryd.prog) 34 76 (.agg #[.int .i64 0, .int .i64 0, .slice none 0 0, .slice none 0 0, .slice none 0 0]) 5 88 Tryd.underlying34 Tryd.info76 n (by omega) (by omega) W
  go_enter Tryd.func18, Tryd.ntmps18
  go_wp2
  go_loopw [4] (fun i wr => ∃ k : Nat, k ≤ n ∧ i = .int .i64 k ∧ RoomC wr w.heap.size n (ss.take k) ∧ Below w.heap.size w wr) (fun i _ => n - (intOf i).toNat)
  case atStart => exact ⟨0, Nat.zero_le _, rfl, RoomC.made w n _ _ rfl, (Below.refl _ _).alloc (Nat.le_refl _) _⟩
  case round =>
    obtain ⟨k, hk, rfl, hroom, hbel⟩ := hrel
    clear hmk
    by_cases hlt : k < n
    · obtain ⟨b, off, s, A1, n1, c1, A2, n2, c2, A3, n3, c3, rfl, hb, g0, g1, g2, g3, g4, r1, r2, r3, hx⟩ := (hr.below hbel).at_ hlt
      go_wp2_with fail
      refine (toCode_any s _ _ _ _ _ _ _ _ _ _ (IsCd.more ⟨r1, r2, r3⟩ hbel.size) (hs _ (mem_of_at hx.out))).mono ?_
      rintro e w1 ⟨B1, B2, B3, rfl, hm, hb1⟩
      have hroom1 := hroom.same (SameFrom.of_below hb1)
      have hbel1 : Below w.heap.size w w1 := hbel.trans (hb1.mono hbel.size)
      obtain ⟨d0, hd0⟩ := hroom1.at_ (k * 5) (by omega)
      obtain ⟨d1, hd1⟩ := hroom1.at_ (k * 5 + 1) (by omega)
      obtain ⟨d2, hd2⟩ := hroom1.at_ (k * 5 + 2) (by omega)
      obtain ⟨d3, hd3⟩ := hroom1.at_ (k * 5 + 3) (by omega)
      obtain ⟨d4, hd4⟩ := hroom1.at_ (k * 5 + 4) (by omega)
      have hf0 := hroom1.frozen (k * 5)
      have hf1 := hroom1.frozen (k * 5 + 1)
      have hf2 := hroom1.frozen (k * 5 + 2)
      have hf3 := hroom1.frozen (k * 5 + 3)
      have hf4 := hroom1.frozen (k * 5 + 4)
      have hlen : (ss.take k).length = k := by rw [List.length_take, hr.1]; omega
      have hpush := hroom1.push (by rw [hlen]; exact hlt) s B1 n1 n1 B2 n2 n2 B3 n3 n3 (hm.from hroom.lt)
      rw [hlen, ← takeA_more hx.out] at hpush
      have HP := put hpush; clear hpush hlen g0 g1 g2 g3 g4 hb1 hroom hroom1 hm r1 r2 r3
      unfold cdV
      go_wp2
      go_roundw
      case rel => exact ⟨k + 1, by omega, by go_num, HP.out, ((((hbel1.setCell (by simp) _).setCell (by simp) _).setCell (by simp) _).setCell (by simp) _).setCell (by simp) _⟩
      case measure => simp [intOf]; omega
    · have hfin := put (show ss.take k = ss from List.take_of_length_le (by rw [hr.1]; omega))
      go_wp2
      go_ret
      exact ⟨_, rfl, ⟨_, rfl, Nat.le_refl _, by rw [hfin.out] at hroom; exact hroom, hr.1⟩, hbel⟩

structure Im where
  codes : List Cd
def imV (_ : Im) (A : Option Addr) (n c : Nat) : Value := .agg #[.slice A n c]
structure IsIm (w : World) (B : Nat) (p : Im) (A : Option Addr) (n : Nat) : Prop where
  codes : ReadsC w B A n p.codes
structure MIm (w : World) (L : Nat) (p : Im) (A : Option Addr) (n : Nat) : Prop where
  codes : MCds w L A n p.codes
def SmallIm (p : Im) : Prop := SmallI p.codes

set_option maxHeartbeats 1000000 in
set_option maxRecDepth 100000 in
theorem toIm_any (p : Im) (A1 : Option Addr) (n1 c1 : Nat) (w : World) (hr : IsIm w w.heap.size p A1 n1) (hs : SmallIm p) :
    Calls Tryd.prog 7 #[imV p A1 n1 c1] w fun e w' => ∃ B1, e = .returned (imV p B1 n1 n1) ∧ MIm w' w.heap.size p B1 n1 ∧ Below w.heap.size w w' := by
  obtain ⟨l1, l2⟩ := hs
  rw [hr.codes.1] at l1
  unfold imV
  go_enter Tryd.func7, Tryd.ntmps7
  go_wp2_with fail
  have hb0 : Below w.heap.size w (((w.alloc (.cells #[.slice A1 n1 c1] 24)).alloc (.cells #[.slice none 0 0] 36)).alloc (.cells #[.slice none 0 0] 36)) :=
    (((Below.refl _ _).alloc (Nat.le_refl _) _).alloc (by simp) _).alloc (by simp; omega) _
  have hx0 : Keep (((w.alloc (.cells #[.slice A1 n1 c1] 24)).alloc (.cells #[.slice none 0 0] 36)).alloc (.cells #[.slice none 0 0] 36)) w.heap.size #[.slice A1 n1 c1] 24 := ((Keep.new _ _ _).alloc _).alloc _
  have hy0 : Keep (((w.alloc (.cells #[.slice A1 n1 c1] 24)).alloc (.cells #[.slice none 0 0] 36)).alloc (.cells #[.slice none 0 0] 36)) (w.heap.size + 1) #[.slice none 0 0] 36 := by
    have := Keep.new (w.alloc (.cells #[.slice A1 n1 c1] 24)) #[.slice none 0 0] 36
    rw [World.size_alloc] at this
    exact this.alloc _
  have hz0 : Keep (((w.alloc (.cells #[.slice A1 n1 c1] 24)).alloc (.cells #[.slice none 0 0] 36)).alloc (.cells #[.slice none 0 0] 36)) (w.heap.size + 1 + 1) #[.slice none 0 0] 36 := by
    have := Keep.new ((w.alloc (.cells #[.slice A1 n1 c1] 24)).alloc (.cells #[.slice none 0 0] 36)) #[.slice none 0 0] 36
    rw [World.size_alloc, World.size_alloc] at this
    exact this
  generalize hW0 : ((w.alloc (.cells #[.slice A1 n1 c1] 24)).alloc (.cells #[.slice none 0 0] 36)).alloc (.cells #[.slice none 0 0] 36) = W0 at hb0 hx0 hy0 hz0 ⊢
  clear hW0
  refine (toCodes_any A1 n1 c1 p.codes _ (hr.codes.now hb0) l1 l2).mono ?_
  rintro e V0 ⟨B1, rfl, m1, hc0⟩
  have s0 := hb0.size
  have t0 := hc0.size
  have l0z := hz0.lt
  replace hx0 := hx0.below hc0
  replace hy0 := hy0.below hc0
  replace hz0 := hz0.below hc0
  replace hb0 : Below w.heap.size w V0 := hb0.trans (hc0.mono hb0.size)
  replace m1 := m1.same ((SameFrom.setCell V0 (w.heap.size + 1 + 1) 0 (.slice B1 n1 n1)).mono (by omega))
  have hx1 := hx0.other (g' := w.heap.size + 1 + 1) (by omega) 0 (.slice B1 n1 n1)
  have hy1 := hy0.other (g' := w.heap.size + 1 + 1) (by omega) 0 (.slice B1 n1 n1)
  have hz1 := hz0.set 0 (.slice B1 n1 n1)
  have q2 := hz0.cell 0
  have q3 := hz0.frozen 0
  simp at q2
  have hb1 : Below w.heap.size w (V0.setCell ⟨w.heap.size + 1 + 1, 0, none⟩ (.slice B1 n1 n1)) := hb0.setCell (by simp; omega) _
  have y0 := hy0.cell 0
  have f0 := hy0.frozen 0
  simp at  y0
  clear hx0 hy0 hz0 hb0 hc0 hx1
  go_wp2
  replace m1 := m1.same ((SameFrom.setCell _ (w.heap.size + 1) 0 (.slice B1 n1 n1)).mono (by omega))
  have hyF := (hy1.set 0 (.slice B1 n1 n1))
  have r0 := hyF.cell 0
  simp at r0
  have hbF := (hb1.setCell (p := ⟨w.heap.size + 1, 0, none⟩) (Nat.le_succ _) (.slice B1 n1 n1))
  clear hyF  y0 f0
  exact bodyPost_ret (v := .agg #[.slice B1 n1 n1]) (by simp [results, Tryd.results7, go_sem, r0]) rfl ⟨B1, rfl, ⟨m1.from (by omega)⟩, hbF⟩

theorem toImage_any (A : Option Addr) (n c : Nat) (cs : List Cd) (w : World) (hr : ReadsC w w.heap.size A n cs) (hs : SmallI cs) :
    Calls Tryd.prog 7 #[.agg #[.slice A n c]] w fun e w' => ∃ B, e = .returned (.agg #[.slice B n n]) ∧ MCds w' w.heap.size B n cs ∧ Below w.heap.size w w' :=
  (toIm_any ⟨cs⟩ A n c w ⟨hr⟩ hs).mono fun _ _ ⟨B, he, hm, hb⟩ => ⟨B, he, hm.codes, hb⟩

end Go.Proofs.YtpbkkjiikhjanaaDoor

/-
  The laws' marks on a copied image: numbers over numbers, in the copy's own blocks alone. Contracts.
-/
namespace Go.Proofs.YtpbkkjiikhjanaaDoor
open Go.RowKit Exs

/-- From block L on and below R numbers may have been written over numbers; all else is as it was. -/
structure Inked (L R : Nat) (w w' : World) : Prop where
  below : Below L w w'
  above : ∀ k, R ≤ k → k < w.heap.size → w'.heap[k]? = w.heap[k]?
  cells : ∀ (k : Nat) (cs : Array Value) (t : TypeId), w.heap[k]? = some (.cells cs t (0, 0)) → ∃ cs' : Array Value, w'.heap[k]? = some (.cells cs' t (0, 0)) ∧ cs'.size = cs.size ∧ ∀ (i : Nat) (v : Value), cs[i]? = some v → (∃ x y, v = .int .i64 x ∧ cs'[i]? = some (.int .i64 y)) ∨ cs'[i]? = some v
theorem Inked.refl (L R : Nat) (w : World) : Inked L R w w := ⟨Below.refl _ _, fun _ _ _ => rfl, fun _ cs _ h => ⟨cs, h, rfl, fun _ _ h => .inr h⟩⟩
theorem Inked.trans {L R : Nat} {a b c : World} (h : Inked L R a b) (k : Inked L R b c) : Inked L R a c := by
  refine ⟨h.below.trans k.below, fun i hi hs => (k.above i hi (by have := h.below.size; omega)).trans (h.above i hi hs), fun i cs t hc => ?_⟩
  obtain ⟨ds, h1, h2, h3⟩ := h.cells i cs t hc
  obtain ⟨es, k1, k2, k3⟩ := k.cells i ds t h1
  refine ⟨es, k1, k2.trans h2, fun j v hv => ?_⟩
  rcases h3 j v hv with ⟨x, y, rfl, hy⟩ | hy
  · rcases k3 j _ hy with ⟨_, z, _, hz⟩ | hz
    · exact .inl ⟨x, z, rfl, hz⟩
    · exact .inl ⟨x, y, rfl, hz⟩
  · exact k3 j v hy
theorem Inked.alloc {L R : Nat} {w w' : World} (h : Inked L R w w') (hL : L ≤ w'.heap.size) (o : Obj) : Inked L R w (w'.alloc o) := by
  refine ⟨h.below.alloc hL o, fun k hk hs => (Below.heap_alloc _ _ _ (by have := h.below.size; omega)).trans (h.above k hk hs), fun k cs t hc => ?_⟩
  obtain ⟨cs', h1, h2⟩ := h.cells k cs t hc
  exact ⟨cs', (Below.heap_alloc _ _ _ ((Array.getElem?_eq_some_iff.1 h1).1)).trans h1, h2⟩
theorem Inked.set {L R : Nat} {w w' : World} (h : Inked L R w w') {g i : Nat} {cs : Array Value} {t : TypeId} {x : Int} (hL : L ≤ g) (hR : g < R) (hg : w.heap[g]? = some (.cells cs t (0, 0))) (hc : cs[i]? = some (.int .i64 x)) (y : Int) :
    Inked L R w (w'.setCell ⟨g, i, none⟩ (.int .i64 y)) := by
  refine ⟨h.below.setCell hL _, fun k hk hs => (Below.heap_setCell _ _ _ _ (show k ≠ g by omega)).trans (h.above k hk hs), fun k ds u hd => ?_⟩
  obtain ⟨ds', h1, h2, h3⟩ := h.cells k ds u hd
  by_cases hkg : k = g
  · subst hkg
    rw [hg] at hd
    injection hd with hd
    injection hd with e1 e2 _
    subst e1 e2
    refine ⟨ds'.setIfInBounds i (.int .i64 y), heap_set h1, by simpa using h2, fun j v hv => ?_⟩
    by_cases hj : j = i
    · subst hj
      rw [hc] at hv
      injection hv with hv
      refine .inl ⟨x, y, hv.symm, ?_⟩
      have := (Array.getElem?_eq_some_iff.1 hc).1
      rw [Array.getElem?_setIfInBounds, if_pos rfl, if_pos (by omega)]
    · rw [Array.getElem?_setIfInBounds, if_neg (fun e => hj e.symm)]
      exact h3 j v hv
  · exact ⟨ds', (Below.heap_setCell _ _ _ _ hkg).trans h1, h2, h3⟩
theorem Inked.num {L R : Nat} {w w' : World} (h : Inked L R w w') {g i : Nat} {cs : Array Value} {t : TypeId} {x : Int} (hg : w.heap[g]? = some (.cells cs t (0, 0))) (hc : cs[i]? = some (.int .i64 x)) : ∃ y, w'.cell? ⟨g, i, none⟩ = some (.int .i64 y) := by
  obtain ⟨cs', h1, h2, h3⟩ := h.cells g cs t hg
  rw [cell_of_row w' g i cs' t (0, 0) h1]
  rcases h3 i _ hc with ⟨_, y, _, hy⟩ | hy
  · exact ⟨y, hy⟩
  · exact ⟨x, hy⟩
theorem Inked.slc {L R : Nat} {w w' : World} (h : Inked L R w w') {g i : Nat} {cs : Array Value} {t : TypeId} {A : Option Addr} {n c : Nat} (hg : w.heap[g]? = some (.cells cs t (0, 0))) (hc : cs[i]? = some (.slice A n c)) : w'.cell? ⟨g, i, none⟩ = some (.slice A n c) := by
  obtain ⟨cs', h1, h2, h3⟩ := h.cells g cs t hg
  rw [cell_of_row w' g i cs' t (0, 0) h1]
  rcases h3 i _ hc with ⟨_, y, hx, _⟩ | hy
  · cases hx
  · exact hy
theorem Inked.frozen {L R : Nat} {w w' : World} (h : Inked L R w w') {g : Nat} {cs : Array Value} {t : TypeId} (hg : w.heap[g]? = some (.cells cs t (0, 0))) (i : Nat) : w'.frozen? ⟨g, i, none⟩ = false := by
  obtain ⟨cs', h1, _⟩ := h.cells g cs t hg
  simp [World.frozen?, h1]

theorem Room.cells_ {w : World} {g : Nat} {t : TypeId} {c : Nat} {k : IntKind} {xs : List Int} (h : Room w g t c k xs) : ∃ cs : Array Value, w.heap[g]? = some (.cells cs t (0, 0)) ∧ ∀ j, j < xs.length → cs[j]? = some (.int k (xs.getD j 0)) := by
  have hc := h.cell
  obtain ⟨cs, h1, _⟩ := h
  refine ⟨cs, h1, fun j hj => ?_⟩
  rw [← hc j hj, cell_of_row w g j cs t (0, 0) h1]


def inkC (s : Cd) : Nat := 2 + s.sites.length + 2 * s.ins.length + 3 * s.rows.length
def inkCs : List Cd → Nat
  | [] => 0
  | s :: r => inkC s + inkCs r
theorem inkCs_append (a b : List Cd) : inkCs (a ++ b) = inkCs a + inkCs b := by induction a with | nil => simp [inkCs] | cons s r ih => simp [inkCs, ih]; omega
theorem inkCs_le : ∀ ss : List Cd, inkCs ss ≤ 3 * (ss.length + manyCs ss)
  | [] => by simp [inkCs]
  | s :: r => by have := inkCs_le r; simp only [inkCs, inkC, manyCs, manyC, List.length_cons]; omega
theorem inkCs_step {ss : List Cd} {k : Nat} {s : Cd} (h : ss[k]? = some s) : inkCs (ss.take (k + 1)) = inkCs (ss.take k) + inkC s ∧ inkCs (ss.take k) + inkC s ≤ inkCs ss := by
  have h1 : inkCs (ss.take (k + 1)) = inkCs (ss.take k) + inkC s := by rw [takeA_more h, inkCs_append]; simp [inkCs]
  refine ⟨h1, ?_⟩
  rw [← h1]
  conv => rhs; rw [← List.take_append_drop (k + 1) ss, inkCs_append]
  omega
end Go.Proofs.YtpbkkjiikhjanaaDoor

/-
  A row of numbers of the call's own: the laws' marks on it, what a marked program leaves of it. Contracts.
-/
namespace Go.Proofs.YtpbkkjiikhjanaaDoor
open Go.RowKit Exs

/-- The numbers 1, 2, .. -/
def ups (n : Nat) : List Int := (List.range n).map fun j => ((j + 1 : Nat) : Int)
theorem ups_more (n : Nat) : ups (n + 1) = ups n ++ [(n : Int) + 1] := by simp [ups, List.range_succ]
theorem ups_length (n : Nat) : (ups n).length = n := by simp [ups]
theorem ups_get {n i : Nat} (h : i < n) : (ups n).getD i 0 = (i : Int) + 1 := by
  simp [ups, List.getD, h]
theorem Room.none_ {w : World} {g : Nat} {t : TypeId} {c : Nat} {k : IntKind} {xs : List Int} (h : Room w g t c k xs) : Room w g t c k [] := by
  obtain ⟨cs, h1, h2, _⟩ := h
  exact ⟨cs, h1, h2, rfl⟩

theorem Nums.of_room {w : World} {B g : Nat} {t : TypeId} {c : Nat} {k : IntKind} {xs : List Int} (h : Room w g t c k xs) (hB : B ≤ g) (hl : xs.length ≤ c) (hc : c ≤ maxLen) : Nums w B t k (.slice (some ⟨g, 0, none⟩) xs.length c) xs := by
  obtain ⟨cs, h1, h2, h3⟩ := h
  exact ⟨by simp, .inr ⟨g, c, cs, rfl, hB, h1, hl, hc, by simpa using h2, by simpa using h3⟩⟩
theorem Nums.to_room {w : World} {B : Nat} {t : TypeId} {k : IntKind} {v : Value} {xs : List Int} (h : Nums w B t k v xs) : (v = .slice none 0 0 ∧ xs = []) ∨ ∃ g c, v = .slice (some ⟨g, 0, none⟩) xs.length c ∧ B ≤ g ∧ Room w g t c k xs ∧ xs.length ≤ c ∧ c ≤ maxLen := by
  rcases h.2 with ⟨rfl, hn⟩ | ⟨g, cap, cur, rfl, hB, hg, hnc, hm, hcs, htk⟩
  · exact .inl ⟨rfl, List.eq_nil_of_length_eq_zero hn⟩
  · exact .inr ⟨g, cap, rfl, hB, ⟨cur, hg, by simpa using hcs, by simpa using htk⟩, hnc, hm⟩
theorem Nums.inked {w w' : World} {B L R : Nat} {t : TypeId} {k : IntKind} {v : Value} {xs : List Int} (h : Nums w B t k v xs) (hR : R ≤ B) (hi : Inked L R w w') : Nums w' B t k v xs := by
  obtain ⟨h1, h2⟩ := h
  refine ⟨h1, ?_⟩
  rcases h2 with h2 | ⟨g, cap, cur, hv, hg, hh, r⟩
  · exact Or.inl h2
  · exact Or.inr ⟨g, cap, cur, hv, hg, (hi.above g (by omega) (Array.getElem?_eq_some_iff.1 hh).1).trans hh, r⟩

/-- Rows of one list are the same for the laws' comparing. -/
theorem eqNums_any (v v' : Value) (xs : List Int) (B B' : Nat) (w : World) (h : Nums w B 3 .i64 v xs) (h' : Nums w B' 3 .i64 v' xs) (hn : xs.length ≤ 1048576) :
    Calls Tryd.prog 26 #[v, v'] w fun e w' => e = .returned (.bool true) ∧ ∃ q, w' = w.drewN q := by
  obtain ⟨A, c, rfl, hr⟩ := h.reads
  obtain ⟨A', c', rfl, hr'⟩ := h'.reads
  exact eqInts_same A A' _ c c' xs w hr hr' hn
theorem Nums.drewN {w : World} {B : Nat} {t : TypeId} {k : IntKind} {v : Value} {xs : List Int} (h : Nums w B t k v xs) (q : Nat) : Nums (w.drewN q) B t k v xs := h
/-- A row that lies below L, while all below L stays. -/
theorem Nums.under {w w' : World} {B L : Nat} {t : TypeId} {k : IntKind} {v : Value} {xs : List Int} (h : Nums w B t k v xs) (hL : w.heap.size ≤ L) (hb : Below L w w') : Nums w' B t k v xs := h.belowNew (hb.mono hL)

end Go.Proofs.YtpbkkjiikhjanaaDoor

/-
  The reference's l1Put: its contract, and plain maths of it.
-/
namespace Go.Proofs.YtpbkkjiikhjanaaDoor
open Go.RowKit Exs

theorem run_append_none {P : Program} (w : World) (t ty e : TypeId) (i : TypeInfo) (ht : P.underlying t = some (.slice e)) (hi : P.info? e = some i) (b : Addr) (n cap : Nat) (hn : n ≤ cap) :
    (Builtin.append_ #[t, t] ty #[.slice (some b) n cap, .slice none 0 0]).run P w = .ok (.slice (some b) n cap) w := by
  simp [Builtin.append_, run_underlying ht, sizeOf, typeInfo, zeroValue, hi, Builtin.lenOf, hn, run_firstCells_none, storeCells, Result.andThen]


/-- 'append(xs, ys...)' of a row of numbers that is not nil and a slice that is read. -/
theorem wpList_append_reads {P : Program} {w : World} {ops : Array Oper} {rest : List Oper} {o : Oper} {a : Act} {Q : Exit → Act → World → Prop} (hgd : o.guard = none) (s x : Operand) (t : TypeId)
    (ho : o.op = .call { callee := .builtin .append, args := #[s, x], argTypes := #[t, t] })
    (B : Nat) (e : TypeId) (k : IntKind) (bytes : Nat) (hinfo : (P.info? e).map (fun i => (i.zero, i.size, i.bytes)) = some (some (.int k 0), 1, bytes)) (ht : P.underlying t = some (.slice e)) (hby : bytes ≤ 8)
    (v : Value) (xs : List Int) (hs : a.eval s = v) (hB : B ≤ w.heap.size) (hown : Nums w B e k v xs) (hv : v ≠ .slice none 0 0)
    (A : Option Addr) (m c : Nat) (us : List Int) (hx : a.eval x = .slice A m c) (hc : A = none → c = 0) (hu : Reads w w.heap.size k A m us) (hlen : xs.length ≤ 100000) (hlen' : m ≤ 100000)
    (h : ∀ v' w', Nums w' B e k v' (xs ++ us) → Below B w w' → v' ≠ .slice none 0 0 → wpList P ops Q rest (a.put o.dst v') w') : wpList P ops Q (o :: rest) a w := by
  obtain ⟨i0, hi, hz0, hz1, hz2⟩ := info_parts hinfo
  refine wpList_plain hgd fun K hK => ?_
  cases A with
  | none =>
    obtain rfl := hc rfl
    obtain rfl : m = 0 := by
      rcases Nat.eq_zero_or_pos m with h0 | h0
      · exact h0
      · obtain ⟨_, _, hA, _⟩ := hu.2 h0; cases hA
    obtain rfl : us = [] := List.eq_nil_of_length_eq_zero hu.1
    rcases hown.2 with ⟨h1, _⟩ | ⟨g', cap', cur', rfl, _, _, hc', _⟩
    · exact absurd h1 hv
    · unfold Oper.wp execOp
      have hr := run_append_none (P := P) w t o.type e i0 ht hi ⟨g', 0, none⟩ xs.length cap' hc'
      simp only [ho, resolve, invoke, builtin, Sem.run_bind, Sem.run_pure, Result.andThen_ok, List.map_toArray, List.map_cons, List.map_nil, hs, hx, hr]
      exact hK _ _ (h _ _ (by simpa using hown) (Below.refl _ _) hv)
  | some ad =>
    refine wp_append_own w s x t ho B e i0 (.int k 0) 1 bytes ht hi hz0 hz1 hz2 rfl (by decide) v xs.length _ hs hown ad m c (us.map (Value.int k)) hx (by simp [hu.1]) ?_ (nums_oneCell k us) ?_ ?_ hB ?_
    · intro j y hj
      have hjl : j < us.length := by have := (List.getElem?_eq_some_iff.1 hj).1; simpa using this
      obtain ⟨b, off, hA, _, hcell⟩ := hu.2 (by rw [← hu.1]; omega)
      injection hA with hA
      subst hA
      have hadd : (⟨b, off, none⟩ : Addr).add j = ⟨b, off + j, none⟩ := by unfold Addr.add; split <;> simp_all
      have hx' := hcell j _ (List.getElem?_eq_getElem hjl)
      rw [hadd, hx']
      simp [List.getElem?_eq_getElem hjl] at hj
      rw [hj]
    · unfold maxLen; omega
    · have : (xs.length + m) * bytes ≤ (xs.length + m) * 8 := Nat.mul_le_mul_left _ hby
      omega
    · intro v' w' h1 h2 h3
      refine hK _ _ (h v' w' (by unfold Nums; simpa [hu.1] using h1) ((Below.refl B w).grown h2 hB fun j hj => (World.ownsRow.lt hown j hj).1) (fun e => hv (h3.1 e).1))

def putL (l : List Int) (n : Int) : List Int :=
  match l with
  | [] => [n]
  | x :: r => if x < n then x :: putL r n else if x = n then x :: r else n :: x :: r
theorem putL_at {n : Int} : ∀ {l : List Int} {k : Nat}, (∀ (i : Nat) (x : Int), i < k → l[i]? = some x → x < n) → k ≤ l.length → (∀ x, l[k]? = some x → ¬ x < n) →
    putL l n = if l[k]? = some n then l else l.take k ++ [n] ++ l.drop k
  | [], k, _, hk, _ => by obtain rfl : k = 0 := by simpa using hk
                          simp [putL]
  | x :: r, 0, _, _, h => by
    have h0 := h x rfl
    simp only [putL, if_neg h0, List.getElem?_cons_zero, Option.some.injEq]
    split <;> simp
  | x :: r, k + 1, ha, hk, h => by
    have h0 := ha 0 x (by omega) rfl
    have ih := putL_at (n := n) (l := r) (k := k) (fun i y hi hy => ha (i + 1) y (by omega) (by simpa using hy)) (by simpa using hk) (fun y hy => h y (by simpa using hy))
    simp only [putL, if_pos h0, ih, List.getElem?_cons_succ]
    split <;> simp
theorem putL_length (n : Int) : ∀ l : List Int, (putL l n).length ≤ l.length + 1
  | [] => by simp [putL]
  | x :: r => by
    have := putL_length n r
    simp only [putL]
    split
    · simp; omega
    · split <;> simp

theorem Reads.take_ {w : World} {B : Nat} {k : IntKind} {A : Option Addr} {n : Nat} {xs : List Int} (h : Reads w B k A n xs) {j : Nat} (hj : j ≤ n) : Reads w B k A j (xs.take j) :=
  ⟨by rw [List.length_take, h.1]; omega, fun h0 => by
    obtain ⟨b, off, rfl, hb, hc⟩ := h.2 (by omega)
    refine ⟨b, off, rfl, hb, fun i x hx => hc i x ?_⟩
    rw [List.getElem?_take] at hx
    split at hx
    · exact hx
    · cases hx⟩
theorem Reads.drop_ {w : World} {B : Nat} {k : IntKind} {b off : Nat} {n : Nat} {xs : List Int} (h : Reads w B k (some ⟨b, off, none⟩) n xs) {j : Nat} (hj : j ≤ n) : Reads w B k (some ⟨b, off + j, none⟩) (n - j) (xs.drop j) :=
  ⟨by rw [List.length_drop, h.1], fun h0 => by
    obtain ⟨b', off', hA, hb, hc⟩ := h.2 (by omega)
    injection hA with hA
    injection hA with h1 h2 _
    subst h1 h2
    refine ⟨b, off + j, rfl, hb, fun i x hx => ?_⟩
    rw [List.getElem?_drop] at hx
    rw [Nat.add_assoc]
    exact hc _ x hx⟩
theorem Nums.empty (w : World) (e : TypeId) (k : IntKind) : Nums (w.alloc (.cells #[] e)) w.heap.size e k (.slice (some ⟨w.heap.size, 0, none⟩) 0 0) [] :=
  Nums.of_room (xs := []) ⟨#[], heap_alloc_new _ _, rfl, rfl⟩ (Nat.le_refl _) (Nat.le_refl _) (by unfold maxLen; omega)

set_option maxHeartbeats 1000000 in
set_option maxRecDepth 100000 in
theorem l1Put_any (v : Value) (l : List Int) (n : Int) (B : Nat) (w : World) (h : Nums w B 3 .i64 v l) (hB : B ≤ w.heap.size) (hl : l.length ≤ 1000) :
    Calls Tryd.prog 99 #[v, .int .i64 n] w fun e w' => ∃ v', e = .returned v' ∧ Nums w' B 3 .i64 v' (putL l n) ∧ Below w.heap.size w w' := by
  rcases h.to_room with ⟨rfl, rfl⟩ | ⟨g, c, rfl, hBg, hroom, hlc, hc⟩
  · go_enter Tryd.func99, Tryd.ntmps99
    go_wp2
    refine wp_loop_rounds 1 ?_
    rw [rounds_succ]
    have hb0 : Below w.heap.size w (w.alloc (.cells #[] 3)) := (Below.refl _ _).alloc (Nat.le_refl _) _
    have hn0 := Nums.empty w 3 .i64
    go_wp2_with (at_builtin; first
      | (refine wpList_append_reads rfl _ _ 26 rfl w.heap.size 3 .i64 8 Tryd.info3 Tryd.underlying26 (by decide) (.slice (some ⟨w.heap.size, 0, none⟩) 0 0) [] rfl (by simp) hn0 (by simp) none 0 0 [] rfl (fun _ => rfl) ⟨rfl, fun h => absurd h (by omega)⟩ (by simp) (by omega) ?_; intro v1 w1 hn1 hb1 hv1)
      | (refine wpList_append_one rfl _ _ 26 rfl w.heap.size 3 .i64 8 Tryd.info3 Tryd.underlying26 (by decide) v1 [] rfl w ((hb0.trans hb1).alloc (Nat.le_trans hb0.size hb1.size) _) (by have := hb0.size; have := hb1.size; simp at *; omega) (Nums.alloc hn1 _) w1.heap.size n rfl (by simp) (by simp) ?_; intro v2 w2 hn2 hb2 hs2)
      | (refine wpList_append_reads rfl _ _ 26 rfl w.heap.size 3 .i64 8 Tryd.info3 Tryd.underlying26 (by decide) v2 [n] rfl (by have := hb2.size; omega) hn2 (fun e => by subst e; have := hn2.2; simp at this) none 0 0 [] rfl (fun _ => rfl) ⟨rfl, fun h => absurd h (by omega)⟩ (by simp) (by omega) ?_; intro v3 w3 hn3 hb3 hv3))
    go_ret
    exact ⟨_, rfl, hn3.more hB, hb2.trans hb3⟩
  · obtain ⟨A, c', hv, hrd⟩ := h.reads
    injection hv with hv1 hv2 hv3
    subst hv1 hv3
    clear hv2 hroom
    have HP := put h
    have HBG := put hBg
    obtain ⟨m, hm⟩ : ∃ m, l.length = m := ⟨_, rfl⟩
    rw [hm] at hl hlc hrd HP ⊢
    have HM := put hm
    clear h hm hBg hc
    go_enter Tryd.func99, Tryd.ntmps99
    go_wp2
    go_loopw [5] (fun i wr => ∃ j : Nat, j ≤ m ∧ i = .int .i64 j ∧ Hid (∀ (i : Nat) (x : Int), i < j → l[i]? = some x → x < n) ∧ wr = w) (fun i _ => m - (intOf i).toNat)
    case atStart => exact ⟨0, Nat.zero_le _, rfl, put (fun i x h => absurd h (by omega)), rfl⟩
    case round =>
      obtain ⟨j, hj, rfl, hall, rfl⟩ := hrel
      have hb0 : Below wr.heap.size wr (wr.alloc (.cells #[] 3)) := (Below.refl _ _).alloc (Nat.le_refl _) _
      have hn0 := Nums.empty wr 3 .i64
      have hrd0 := hrd.now hb0
      by_cases hlt : j < m
      · obtain ⟨b, off, x, hA, hb, hcx, hx⟩ := hrd.at_ hlt
        injection hA with hA
        injection hA with h1 h2 _
        subst h1 h2
        rw [Nat.zero_add] at hcx
        by_cases hxn : x < n
        · have hall2 := put (show ∀ (i : Nat) (y : Int), i < j + 1 → l[i]? = some y → y < n from fun i y hi hy => by
            by_cases hij : i < j
            · exact hall.out i y hij hy
            · obtain rfl : i = j := by omega
              rw [hx.out] at hy; injection hy with hy; subst hy; exact hxn)
          clear hb0 hn0 hrd0
          go_wp2
          go_roundw
          case rel => exact ⟨j + 1, by omega, by go_num, hall2, trivial⟩
          case measure => simp [intOf]; omega
        · have hput := put (putL_at hall.out (by rw [HM.out]; exact hj) (fun y hy => by rw [hx.out] at hy; injection hy with hy; subst hy; exact hxn))
          by_cases hxe : x = n
          · subst hxe
            rw [hx.out, if_pos rfl] at hput
            clear hb0 hn0 hrd0 hxn
            go_wp2
            go_ret
            exact ⟨_, rfl, by rw [hput.out]; exact HP.out, Below.refl _ _⟩
          · rw [hx.out, if_neg (fun e => hxe (by injection e))] at hput
            have hxe' := beq_of hxe
            have hjc : j < c := by omega
            have RT := put (hrd0.take_ (Nat.le_of_lt hlt))
            have RD := put (hrd.drop_ (Nat.le_of_lt hlt))
            rw [Nat.zero_add] at RD
            have HLT := put (show (l.take j).length ≤ 1000 by rw [List.length_take]; omega)
            clear hxe hrd0 hrd
            go_wp2_with (at_builtin; first
              | (refine wpList_append_reads rfl _ _ 26 rfl wr.heap.size 3 .i64 8 Tryd.info3 Tryd.underlying26 (by decide) (.slice (some ⟨wr.heap.size, 0, none⟩) 0 0) [] rfl (by simp) hn0 (by simp) (some ⟨g, 0, none⟩) j c (l.take j) rfl (fun e => by cases e) RT.out (by simp) (by omega) ?_; intro v1 w1 hn1 hb1 hv1)
              | (refine wpList_append_one rfl _ _ 26 rfl wr.heap.size 3 .i64 8 Tryd.info3 Tryd.underlying26 (by decide) v1 ([] ++ l.take j) rfl wr ((hb0.trans hb1).alloc (Nat.le_trans hb0.size hb1.size) _) (by have := hb0.size; have := hb1.size; simp at *; omega) (Nums.alloc hn1 _) w1.heap.size n rfl (by simp) (by have := HLT.out; simp at *; omega) ?_; intro v2 w2 hn2 hb2 hs2)
              | (refine wpList_append_reads rfl _ _ 26 rfl wr.heap.size 3 .i64 8 Tryd.info3 Tryd.underlying26 (by decide) v2 ([] ++ l.take j ++ [n]) rfl (by have := hb2.size; omega) hn2 (fun e => by subst e; have := hn2.2; simp at this) (some ⟨g, j, none⟩) (m - j) (c - j) (l.drop j) rfl (fun e => by cases e) (RD.out.now hb2) (by have := HLT.out; simp at *; omega) (by omega) ?_; intro v3 w3 hn3 hb3 hv3))
            go_ret
            exact ⟨_, rfl, by rw [hput.out]; exact hn3.more hB, hb2.trans hb3⟩
      · obtain rfl : j = m := by omega
        have hput := put (putL_at hall.out (by rw [HM.out]; exact hj) (fun y hy => by have := (List.getElem?_eq_some_iff.1 hy).1; rw [HM.out] at this; omega))
        have hnone : l[j]? = none := List.getElem?_eq_none (by rw [HM.out]; exact Nat.le_refl _)
        rw [hnone, if_neg (by simp)] at hput
        have RT := put (hrd0.take_ (Nat.le_refl _))
        have HLT := put (show (l.take j).length ≤ 1000 by rw [List.length_take]; omega)
        have hdrop := put (show l.drop j = [] from List.drop_eq_nil_of_le (by rw [HM.out]; exact Nat.le_refl _))
        rw [hdrop.out] at hput
        clear hnone hrd0 hrd
        rcases (show j < c ∨ j = c by omega) with hjc | hjc
        · go_wp2_with (at_builtin; first
            | (refine wpList_append_reads rfl _ _ 26 rfl wr.heap.size 3 .i64 8 Tryd.info3 Tryd.underlying26 (by decide) (.slice (some ⟨wr.heap.size, 0, none⟩) 0 0) [] rfl (by simp) hn0 (by simp) (some ⟨g, 0, none⟩) j c (l.take j) rfl (fun e => by cases e) RT.out (by simp) (by omega) ?_; intro v1 w1 hn1 hb1 hv1)
            | (refine wpList_append_one rfl _ _ 26 rfl wr.heap.size 3 .i64 8 Tryd.info3 Tryd.underlying26 (by decide) v1 ([] ++ l.take j) rfl wr ((hb0.trans hb1).alloc (Nat.le_trans hb0.size hb1.size) _) (by have := hb0.size; have := hb1.size; simp at *; omega) (Nums.alloc hn1 _) w1.heap.size n rfl (by simp) (by have := HLT.out; simp at *; omega) ?_; intro v2 w2 hn2 hb2 hs2)
            | (refine wpList_append_reads rfl _ _ 26 rfl wr.heap.size 3 .i64 8 Tryd.info3 Tryd.underlying26 (by decide) v2 ([] ++ l.take j ++ [n]) rfl (by have := hb2.size; omega) hn2 (fun e => by subst e; have := hn2.2; simp at this) (some ⟨g, j, none⟩) 0 (c - j) [] rfl (fun e => by cases e) ⟨rfl, fun h => absurd h (by omega)⟩ (by have := HLT.out; simp at *; omega) (by omega) ?_; intro v3 w3 hn3 hb3 hv3))
          go_ret
          exact ⟨_, rfl, by rw [hput.out]; exact hn3.more hB, hb2.trans hb3⟩
        · subst hjc
          go_wp2_with (at_builtin; first
            | (refine wpList_append_reads rfl _ _ 26 rfl wr.heap.size 3 .i64 8 Tryd.info3 Tryd.underlying26 (by decide) (.slice (some ⟨wr.heap.size, 0, none⟩) 0 0) [] rfl (by simp) hn0 (by simp) (some ⟨g, 0, none⟩) j j (l.take j) rfl (fun e => by cases e) RT.out (by simp) (by omega) ?_; intro v1 w1 hn1 hb1 hv1)
            | (refine wpList_append_one rfl _ _ 26 rfl wr.heap.size 3 .i64 8 Tryd.info3 Tryd.underlying26 (by decide) v1 ([] ++ l.take j) rfl wr ((hb0.trans hb1).alloc (Nat.le_trans hb0.size hb1.size) _) (by have := hb0.size; have := hb1.size; simp at *; omega) (Nums.alloc hn1 _) w1.heap.size n rfl (by simp) (by have := HLT.out; simp at *; omega) ?_; intro v2 w2 hn2 hb2 hs2)
            | (refine wpList_append_reads rfl _ _ 26 rfl wr.heap.size 3 .i64 8 Tryd.info3 Tryd.underlying26 (by decide) v2 ([] ++ l.take j ++ [n]) rfl (by have := hb2.size; omega) hn2 (fun e => by subst e; have := hn2.2; simp at this) (some ⟨g, 0, none⟩) 0 0 [] rfl (fun e => by cases e) ⟨rfl, fun h => absurd h (by omega)⟩ (by have := HLT.out; simp at *; omega) (by omega) ?_; intro v3 w3 hn3 hb3 hv3))
          go_ret
          exact ⟨_, rfl, by rw [hput.out]; exact hn3.more hB, hb2.trans hb3⟩

end Go.Proofs.YtpbkkjiikhjanaaDoor

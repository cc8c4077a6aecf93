/-
  NewVm of both sides: the frame that it makes.
-/
import Derived.Test.YtcpjddkhclaafaaDoorMkF
import Derived.Laws.OwnMore
namespace Go.Proofs.YtcpjddkhclaafaaDoor
open Go.RowKit Go.Deep Exs

theorem infoInt' : (Tryd.prog.info? 3).map (fun i => (i.zero, i.size, i.bytes)) = some (some (.int .i64 0), 1, 8) := by kernel_rfl
theorem infoBool' : (Tryd.prog.info? 4).map (fun i => (i.zero, i.size, i.bytes)) = some (some (.bool false), 1, 1) := by kernel_rfl
def zs (n : Nat) : List Int := List.replicate n 0
def fs (n : Nat) : List Bool := List.replicate n false
theorem Room.zeros (w : World) (n : Nat) : Room (w.alloc (.cells (madeCells #[.int .i64 0] n) 3)) w.heap.size 3 n .i64 (zs n) :=
  ⟨_, heap_alloc_new _ _, size_madeCells _ _, by rw [toList_madeCells_one]; simp [zs]⟩
theorem RoomV.falses (w : World) (n : Nat) : RoomV (w.alloc (.cells (madeCells #[.bool false] n) 4)) w.heap.size 4 n ((fs n).map Value.bool) :=
  ⟨_, heap_alloc_new _ _, size_madeCells _ _, fun j v hj => by rw [← Array.getElem?_toList, toList_madeCells_one]; simpa [fs] using hj⟩
theorem made_both (W : World) (nv nl : Nat) : Room ((W.alloc (.cells (madeCells #[.int .i64 0] nv) 3)).alloc (.cells (madeCells #[.bool false] nl) 4)) W.heap.size 3 nv .i64 (zs nv) ∧
    RoomV ((W.alloc (.cells (madeCells #[.int .i64 0] nv) 3)).alloc (.cells (madeCells #[.bool false] nl) 4)) (W.heap.size + 1) 4 nl ((fs nl).map Value.bool) := by
  have h1 := Room.zeros W nv
  have h2 := RoomV.falses (W.alloc (.cells (madeCells #[.int .i64 0] nv) 3)) nl
  rw [World.size_alloc] at h2
  exact ⟨h1.below ((Below.refl _ _).alloc (Nat.le_refl _) _) h1.lt, h2⟩
theorem made_both' (W : World) (nv nl : Nat) : Room ((W.alloc (.cells (madeCells #[.bool false] nl) 4)).alloc (.cells (madeCells #[.int .i64 0] nv) 3)) (W.heap.size + 1) 3 nv .i64 (zs nv) ∧
    RoomV ((W.alloc (.cells (madeCells #[.bool false] nl) 4)).alloc (.cells (madeCells #[.int .i64 0] nv) 3)) W.heap.size 4 nl ((fs nl).map Value.bool) := by
  have h1 := RoomV.falses W nl
  have h2 := Room.zeros (W.alloc (.cells (madeCells #[.bool false] nl) 4)) nv
  rw [World.size_alloc] at h2
  exact ⟨h2, h1.below ((Below.refl _ _).alloc (Nat.le_refl _) _) h1.lt⟩

set_option maxHeartbeats 2000000 in
set_option maxRecDepth 100000 in
/-- The reference's frame: the struct's value, its rows. -/
theorem l8Frame_any (c : Cd) (A1 : Option Addr) (n1 c1 : Nat) (A2 : Option Addr) (n2 c2 : Nat) (A3 : Option Addr) (n3 c3 : Nat) (nv : Nat) (hnv : c.vars = (nv : Int)) (w : World) (h1 : nv ≤ 1000) (h2 : n1 ≤ 1000) :
    Calls Tryd.prog 33 #[.agg #[.int .i64 c.params, .int .i64 c.vars, .slice A1 n1 c1, .slice A2 n2 c2, .slice A3 n3 c3], .int .i64 0] w fun e w' => ∃ gv gl, e = .returned (.agg #[.int .i64 0, .int .i64 0, .int .i64 0, .slice none 0 0, .slice (some ⟨gv, 0, none⟩) nv nv, .slice (some ⟨gl, 0, none⟩) n1 n1, .int .i64 0, .int .i64 0, .int .i64 0, .int .i64 1, .bool false]) ∧ Room w' gv 3 nv .i64 (zs nv) ∧ RoomV w' gl 4 n1 ((fs n1).map Value.bool) ∧ w.heap.size ≤ gv ∧ w.heap.size ≤ gl ∧ gv ≠ gl ∧ Below w.heap.size w w' := by
  rw [show (#[.int .i64 c.params, .int .i64 c.vars, .slice A1 n1 c1, .slice A2 n2 c2, .slice A3 n3 c3] : Array Value) = #[.int .i64 c.params, .int .i64 (nv : Int), .slice A1 n1 c1, .slice A2 n2 c2, .slice A3 n3 c3] by rw [hnv]]
  have hmk := fun W => run_make_rows (P := Tryd.prog) 27 3 (.int .i64 0) 1 8 Tryd.underlying27 infoInt' nv (by omega) (by omega) W
  have hmb := fun W => run_make_rows (P := Tryd.prog) 46 4 (.bool false) 1 1 Tryd.underlying46 infoBool' n1 (by omega) (by omega) W
  go_enter Tryd.func33, Tryd.ntmps33
  go_wp2
  clear hnv
  have HA := put (made_both ((w.alloc (.cells #[.int .i64 c.params, .int .i64 (nv : Int), .slice A1 n1 c1, .slice A2 n2 c2, .slice A3 n3 c3] 67)).alloc (.cells #[.int .i64 0, .int .i64 0, .int .i64 0, .slice none 0 0, .slice (some ⟨w.heap.size + 1 + 1, 0, none⟩) nv nv, .slice (some ⟨w.heap.size + 1 + 1 + 1, 0, none⟩) n1 n1, .int .i64 0, .int .i64 0, .int .i64 0, .int .i64 1, .bool false] 48)) nv n1)
  have HB := put (made_both' ((w.alloc (.cells #[.int .i64 c.params, .int .i64 (nv : Int), .slice A1 n1 c1, .slice A2 n2 c2, .slice A3 n3 c3] 67)).alloc (.cells #[.int .i64 0, .int .i64 0, .int .i64 0, .slice none 0 0, .slice (some ⟨w.heap.size + 1 + 1 + 1, 0, none⟩) nv nv, .slice (some ⟨w.heap.size + 1 + 1, 0, none⟩) n1 n1, .int .i64 0, .int .i64 0, .int .i64 0, .int .i64 1, .bool false] 48)) nv n1)
  rw [World.size_alloc, World.size_alloc] at HA HB
  have BA := put (((((Below.refl w.heap.size w).alloc (Nat.le_refl _) (.cells #[.int .i64 c.params, .int .i64 (nv : Int), .slice A1 n1 c1, .slice A2 n2 c2, .slice A3 n3 c3] 67)).alloc (by simp) (.cells #[.int .i64 0, .int .i64 0, .int .i64 0, .slice none 0 0, .slice (some ⟨w.heap.size + 1 + 1, 0, none⟩) nv nv, .slice (some ⟨w.heap.size + 1 + 1 + 1, 0, none⟩) n1 n1, .int .i64 0, .int .i64 0, .int .i64 0, .int .i64 1, .bool false] 48)).alloc (by simp; omega) (.cells (madeCells #[.int .i64 0] nv) 3)).alloc (by simp; omega) (.cells (madeCells #[.bool false] n1) 4))
  have BB := put (((((Below.refl w.heap.size w).alloc (Nat.le_refl _) (.cells #[.int .i64 c.params, .int .i64 (nv : Int), .slice A1 n1 c1, .slice A2 n2 c2, .slice A3 n3 c3] 67)).alloc (by simp) (.cells #[.int .i64 0, .int .i64 0, .int .i64 0, .slice none 0 0, .slice (some ⟨w.heap.size + 1 + 1 + 1, 0, none⟩) nv nv, .slice (some ⟨w.heap.size + 1 + 1, 0, none⟩) n1 n1, .int .i64 0, .int .i64 0, .int .i64 0, .int .i64 1, .bool false] 48)).alloc (by simp; omega) (.cells (madeCells #[.bool false] n1) 4)).alloc (by simp; omega) (.cells (madeCells #[.int .i64 0] nv) 3))
  go_region_law (fail)
  all_goals (
    clear hmk hmb
    go_wp2
    first
    | exact bodyPost_ret (v := .agg #[.int .i64 0, .int .i64 0, .int .i64 0, .slice none 0 0, .slice (some ⟨w.heap.size + 1 + 1, 0, none⟩) nv nv, .slice (some ⟨w.heap.size + 1 + 1 + 1, 0, none⟩) n1 n1, .int .i64 0, .int .i64 0, .int .i64 0, .int .i64 1, .bool false]) (by simp [results, Tryd.results33, go_sem]) rfl ⟨w.heap.size + 1 + 1, w.heap.size + 1 + 1 + 1, rfl, HA.out.1, HA.out.2, by omega, by omega, by omega, BA.out.drew⟩
    | exact bodyPost_ret (v := .agg #[.int .i64 0, .int .i64 0, .int .i64 0, .slice none 0 0, .slice (some ⟨w.heap.size + 1 + 1 + 1, 0, none⟩) nv nv, .slice (some ⟨w.heap.size + 1 + 1, 0, none⟩) n1 n1, .int .i64 0, .int .i64 0, .int .i64 0, .int .i64 1, .bool false]) (by simp [results, Tryd.results33, go_sem]) rfl ⟨w.heap.size + 1 + 1 + 1, w.heap.size + 1 + 1, rfl, HB.out.1, HB.out.2, by omega, by omega, by omega, BB.out.drew⟩)

end Go.Proofs.YtcpjddkhclaafaaDoor

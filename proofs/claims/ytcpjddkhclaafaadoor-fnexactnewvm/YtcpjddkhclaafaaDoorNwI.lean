/-
  The program's newFrame.
-/
import Derived.Test.YtcpjddkhclaafaaDoorNwF
import Derived.Test.YtcpjddkhclaafaaDoorSz1
namespace Go.Proofs.YtcpjddkhclaafaaDoor
open Go.RowKit Go.Deep Exs

theorem One.drew {w : World} {B gf gv gl nv nl : Nat} {fc : Array Value} {xs : List Int} {bs : List Bool} (h : One w B gf gv gl nv nl fc xs bs) : One w.drew B gf gv gl nv nl fc xs bs :=
  ⟨h.fr, h.vr, h.lr, h.xl, h.bl, h.bf, h.bv, h.bb, h.fv, h.fl, h.vl⟩

set_option maxHeartbeats 4000000 in
set_option maxRecDepth 100000 in
theorem newFrame_any (A : Option Addr) (n c : Nat) (cs : List Cd) (s : Cd) (nv : Nat) (w : World) (hr : ReadsC w w.heap.size A n cs) (hn : 0 < n) (hs : cs[0]? = some s) (hv : s.vars = (nv : Int)) (h6 : nv ≤ 6) (h4 : s.sites.length ≤ 4) :
    Calls Tryd.prog 18 #[.agg #[.slice A n c], .int .i64 0] w fun e w' => ∃ gf gv gl, e = .returned (.pointer (some ⟨gf, 0, none⟩)) ∧ One w' w.heap.size gf gv gl nv s.sites.length #[.int .i64 0, .int .i64 0, .int .i64 0, .slice none 0 0, .slice (some ⟨gv, 0, none⟩) nv nv, .slice (some ⟨gl, 0, none⟩) s.sites.length s.sites.length, .int .i64 0, .int .i64 0, .int .i64 0, .int .i64 1, .bool false] (zs nv) (fs s.sites.length) ∧ Below w.heap.size w w' := by
  obtain ⟨b, off, s', A1, n1, c1, A2, n2, c2, A3, n3, c3, rfl, hb, g0, g1, g2, g3, g4, r1, r2, r3, hx⟩ := hr.at_ (j := 0) hn
  obtain rfl : s' = s := by have := hx.out; rw [hs] at this; injection this with this; exact this.symm
  have hl1 : n1 ≤ 4 := by rw [← r1.1]; exact h4
  have en : s'.sites.length = n1 := r1.1
  rw [en]
  simp only [Nat.zero_mul, Nat.add_zero] at g0 g1 g2 g3 g4
  clear r1 r2 r3 hx hr hs h4 en
  rw [hv] at g1
  clear hv
  have hmk := fun W => run_make_rows (P := Tryd.prog) 27 3 (.int .i64 0) 1 8 Tryd.underlying27 infoInt' nv (by omega) (by omega) W
  have hmb := fun W => run_make_rows (P := Tryd.prog) 46 4 (.bool false) 1 1 Tryd.underlying46 infoBool' n1 (by omega) (by omega) W
  have hn' : (0 : Int) < (n : Int) := by omega
  have hb0 : Below w.heap.size w (w.alloc (.cells #[.slice (some ⟨b, off, none⟩) n c] 35)) := (Below.refl _ _).alloc (Nat.le_refl _) _
  have q0 := (hb0.cell (p := ⟨b, off, none⟩) hb).trans g0
  have q1 := (hb0.cell (p := ⟨b, off + 1, none⟩) hb).trans g1
  have q2 := (hb0.cell (p := ⟨b, off + 2, none⟩) hb).trans g2
  have q3 := (hb0.cell (p := ⟨b, off + 3, none⟩) hb).trans g3
  have q4 := (hb0.cell (p := ⟨b, off + 4, none⟩) hb).trans g4
  have HA := put (made_both ((w.alloc (.cells #[.slice (some ⟨b, off, none⟩) n c] 35)).alloc (.cells #[.int .i64 s'.params, .int .i64 (nv : Int), .slice A1 n1 c1, .slice A2 n2 c2, .slice A3 n3 c3] 67)) nv n1)
  have HB := put (made_both' ((w.alloc (.cells #[.slice (some ⟨b, off, none⟩) n c] 35)).alloc (.cells #[.int .i64 s'.params, .int .i64 (nv : Int), .slice A1 n1 c1, .slice A2 n2 c2, .slice A3 n3 c3] 67)) nv n1)
  rw [World.size_alloc, World.size_alloc] at HA HB
  have BA := put (((((Below.refl w.heap.size w).alloc (Nat.le_refl _) (.cells #[.slice (some ⟨b, off, none⟩) n c] 35)).alloc (by simp) (.cells #[.int .i64 s'.params, .int .i64 (nv : Int), .slice A1 n1 c1, .slice A2 n2 c2, .slice A3 n3 c3] 67)).alloc (by simp; omega) (.cells (madeCells #[.int .i64 0] nv) 3)).alloc (by simp; omega) (.cells (madeCells #[.bool false] n1) 4))
  have BB := put (((((Below.refl w.heap.size w).alloc (Nat.le_refl _) (.cells #[.slice (some ⟨b, off, none⟩) n c] 35)).alloc (by simp) (.cells #[.int .i64 s'.params, .int .i64 (nv : Int), .slice A1 n1 c1, .slice A2 n2 c2, .slice A3 n3 c3] 67)).alloc (by simp; omega) (.cells (madeCells #[.bool false] n1) 4)).alloc (by simp; omega) (.cells (madeCells #[.int .i64 0] nv) 3))
  have SA := put (show ((((w.alloc (.cells #[.slice (some ⟨b, off, none⟩) n c] 35)).alloc (.cells #[.int .i64 s'.params, .int .i64 (nv : Int), .slice A1 n1 c1, .slice A2 n2 c2, .slice A3 n3 c3] 67)).alloc (.cells (madeCells #[.int .i64 0] nv) 3)).alloc (.cells (madeCells #[.bool false] n1) 4)).heap.size = w.heap.size + 1 + 1 + 1 + 1 by simp)
  have SB := put (show ((((w.alloc (.cells #[.slice (some ⟨b, off, none⟩) n c] 35)).alloc (.cells #[.int .i64 s'.params, .int .i64 (nv : Int), .slice A1 n1 c1, .slice A2 n2 c2, .slice A3 n3 c3] 67)).alloc (.cells (madeCells #[.bool false] n1) 4)).alloc (.cells (madeCells #[.int .i64 0] nv) 3)).heap.size = w.heap.size + 1 + 1 + 1 + 1 by simp)
  have EA : ∀ W : World, Room W (w.heap.size + 1 + 1) 3 nv .i64 (zs nv) → RoomV W (w.heap.size + 1 + 1 + 1) 4 n1 ((fs n1).map Value.bool) → Below w.heap.size w W → W.heap.size = w.heap.size + 1 + 1 + 1 + 1 → One (W.alloc (.cells #[.int .i64 0, .int .i64 0, .int .i64 0, .slice none 0 0, .slice (some ⟨w.heap.size + 1 + 1, 0, none⟩) nv nv, .slice (some ⟨w.heap.size + 1 + 1 + 1, 0, none⟩) n1 n1, .int .i64 0, .int .i64 0, .int .i64 0, .int .i64 1, .bool false] 48)) w.heap.size (w.heap.size + 1 + 1 + 1 + 1) (w.heap.size + 1 + 1) (w.heap.size + 1 + 1 + 1) nv n1 #[.int .i64 0, .int .i64 0, .int .i64 0, .slice none 0 0, .slice (some ⟨w.heap.size + 1 + 1, 0, none⟩) nv nv, .slice (some ⟨w.heap.size + 1 + 1 + 1, 0, none⟩) n1 n1, .int .i64 0, .int .i64 0, .int .i64 0, .int .i64 1, .bool false] (zs nv) (fs n1) ∧ Below w.heap.size w (W.alloc (.cells #[.int .i64 0, .int .i64 0, .int .i64 0, .slice none 0 0, .slice (some ⟨w.heap.size + 1 + 1, 0, none⟩) nv nv, .slice (some ⟨w.heap.size + 1 + 1 + 1, 0, none⟩) n1 n1, .int .i64 0, .int .i64 0, .int .i64 0, .int .i64 1, .bool false] 48)) := by
    intro W h1 h2 h3 h5
    have k := Keep.new W #[.int .i64 0, .int .i64 0, .int .i64 0, .slice none 0 0, .slice (some ⟨w.heap.size + 1 + 1, 0, none⟩) nv nv, .slice (some ⟨w.heap.size + 1 + 1 + 1, 0, none⟩) n1 n1, .int .i64 0, .int .i64 0, .int .i64 0, .int .i64 1, .bool false] 48
    rw [h5] at k
    exact ⟨⟨k, h1.below ((Below.refl _ _).alloc (Nat.le_refl _) _) h1.lt, h2.below ((Below.refl _ _).alloc (Nat.le_refl _) _) h2.lt, by simp [zs], by simp [fs], by omega, by omega, by omega, by omega, by omega, by omega⟩, h3.alloc (by omega) _⟩
  have EB : ∀ W : World, Room W (w.heap.size + 1 + 1 + 1) 3 nv .i64 (zs nv) → RoomV W (w.heap.size + 1 + 1) 4 n1 ((fs n1).map Value.bool) → Below w.heap.size w W → W.heap.size = w.heap.size + 1 + 1 + 1 + 1 → One (W.alloc (.cells #[.int .i64 0, .int .i64 0, .int .i64 0, .slice none 0 0, .slice (some ⟨w.heap.size + 1 + 1 + 1, 0, none⟩) nv nv, .slice (some ⟨w.heap.size + 1 + 1, 0, none⟩) n1 n1, .int .i64 0, .int .i64 0, .int .i64 0, .int .i64 1, .bool false] 48)) w.heap.size (w.heap.size + 1 + 1 + 1 + 1) (w.heap.size + 1 + 1 + 1) (w.heap.size + 1 + 1) nv n1 #[.int .i64 0, .int .i64 0, .int .i64 0, .slice none 0 0, .slice (some ⟨w.heap.size + 1 + 1 + 1, 0, none⟩) nv nv, .slice (some ⟨w.heap.size + 1 + 1, 0, none⟩) n1 n1, .int .i64 0, .int .i64 0, .int .i64 0, .int .i64 1, .bool false] (zs nv) (fs n1) ∧ Below w.heap.size w (W.alloc (.cells #[.int .i64 0, .int .i64 0, .int .i64 0, .slice none 0 0, .slice (some ⟨w.heap.size + 1 + 1 + 1, 0, none⟩) nv nv, .slice (some ⟨w.heap.size + 1 + 1, 0, none⟩) n1 n1, .int .i64 0, .int .i64 0, .int .i64 0, .int .i64 1, .bool false] 48)) := by
    intro W h1 h2 h3 h5
    have k := Keep.new W #[.int .i64 0, .int .i64 0, .int .i64 0, .slice none 0 0, .slice (some ⟨w.heap.size + 1 + 1 + 1, 0, none⟩) nv nv, .slice (some ⟨w.heap.size + 1 + 1, 0, none⟩) n1 n1, .int .i64 0, .int .i64 0, .int .i64 0, .int .i64 1, .bool false] 48
    rw [h5] at k
    exact ⟨⟨k, h1.below ((Below.refl _ _).alloc (Nat.le_refl _) _) h1.lt, h2.below ((Below.refl _ _).alloc (Nat.le_refl _) _) h2.lt, by simp [zs], by simp [fs], by omega, by omega, by omega, by omega, by omega, by omega⟩, h3.alloc (by omega) _⟩
  have FAA := put (EA _ HA.out.1 HA.out.2 BA.out SA.out)
  have FBB := put (EB _ HB.out.1 HB.out.2 BB.out SB.out)
  clear EA EB HA HB BA BB SA SB hb0
  go_enter Tryd.func18, Tryd.ntmps18
  go_wp2
  go_region_law (fail)
  all_goals (
    clear hmk hmb
    go_wp2
    first
    | (go_ret; exact ⟨w.heap.size + 1 + 1 + 1 + 1, w.heap.size + 1 + 1, w.heap.size + 1 + 1 + 1, rfl, FAA.out.1.drew, FAA.out.2.drew⟩)
    | (go_ret; exact ⟨w.heap.size + 1 + 1 + 1 + 1, w.heap.size + 1 + 1 + 1, w.heap.size + 1 + 1, rfl, FBB.out.1.drew, FBB.out.2.drew⟩))

end Go.Proofs.YtcpjddkhclaafaaDoor

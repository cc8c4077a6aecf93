/-
  NewVm of both sides where the image is good.
-/
import Derived.Test.YtcpjddkhclaafaaDoorNwF
import Derived.Test.YtcpjddkhclaafaaDoorSz1
import Derived.Test.YtcpjddkhclaafaaDoorNwVS
namespace Go.Proofs.YtcpjddkhclaafaaDoor
open Go.RowKit Go.Deep Exs

theorem One.drew {w : World} {B gf gv gl nv nl : Nat} {fc : Array Value} {xs : List Int} {bs : List Bool} (h : One w B gf gv gl nv nl fc xs bs) : One w.drew B gf gv gl nv nl fc xs bs :=
  ⟨h.fr, h.vr, h.lr, h.xl, h.bl, h.bf, h.bv, h.bb, h.fv, h.fl, h.vl⟩

set_option maxHeartbeats 4000000 in
set_option maxRecDepth 100000 in
theorem newFrame_any (A : Option Addr) (n c : Nat) (cs : List Cd) (s : Cd) (nv : Nat) (w : World) (hr : ReadsC w w.heap.size A n cs) (hn : 0 < n) (hs : cs[0]? = some s) (hv : s.vars = (nv : Int)) (h6 : nv ≤ 6) (h4 : s.sites.length ≤ 4) :
    Calls Tryd.prog 18 #[.agg #[.slice A n c], .int .i64 0] w fun e w' => ∃ gf gv gl, e = .returned (.pointer (some ⟨gf, 0, none⟩)) ∧ One w' w.heap.size gf gv gl nv s.sites.length #[.int .i64 0, .int .i64 0, .int .i64 0, .slice none 0 0, .slice (some ⟨gv, 0, none⟩) nv nv, .slice (some ⟨gl, 0, none⟩) s.sites.length s.sites.length, .int .i64 0, .int .i64 0, .int .i64 0, .int .i64 1, .bool false] (zs nv) (fs s.sites.length) ∧ Below w.heap.size w w' := by
  obtain ⟨b, off, s', A1, n1, c1, A2, n2, c2, A3, n3, c3, rfl, hb, g0, g1, g2, g3, g4, r1, r2, r3, hx⟩ := hr.at_ (j := 0) hn
  obtain rfl : s' = s := by have := hx.out; rw [hs] at this; injection this with this; exact this.symm
  have hl1 : n1 ≤ 4 := by rw [← r1.1]; exact h4
  have en : s'.sites.length = n1 := r1.1
  rw [en]
  simp only [Nat.zero_mul, Nat.add_zero] at g0 g1 g2 g3 g4
  clear r1 r2 r3 hx hr hs h4 en
  rw [hv] at g1
  clear hv
  have hmk := fun W => run_make_rows (P := Tryd.prog) 27 3 (.int .i64 0) 1 8 Tryd.underlying27 infoInt' nv (by omega) (by omega) W
  have hmb := fun W => run_make_rows (P := Tryd.prog) 46 4 (.bool false) 1 1 Tryd.underlying46 infoBool' n1 (by omega) (by omega) W
  have hn' : (0 : Int) < (n : Int) := by omega
  have hb0 : Below w.heap.size w (w.alloc (.cells #[.slice (some ⟨b, off, none⟩) n c] 35)) := (Below.refl _ _).alloc (Nat.le_refl _) _
  have q0 := (hb0.cell (p := ⟨b, off, none⟩) hb).trans g0
  have q1 := (hb0.cell (p := ⟨b, off + 1, none⟩) hb).trans g1
  have q2 := (hb0.cell (p := ⟨b, off + 2, none⟩) hb).trans g2
  have q3 := (hb0.cell (p := ⟨b, off + 3, none⟩) hb).trans g3
  have q4 := (hb0.cell (p := ⟨b, off + 4, none⟩) hb).trans g4
  have HA := put (made_both ((w.alloc (.cells #[.slice (some ⟨b, off, none⟩) n c] 35)).alloc (.cells #[.int .i64 s'.params, .int .i64 (nv : Int), .slice A1 n1 c1, .slice A2 n2 c2, .slice A3 n3 c3] 67)) nv n1)
  have HB := put (made_both' ((w.alloc (.cells #[.slice (some ⟨b, off, none⟩) n c] 35)).alloc (.cells #[.int .i64 s'.params, .int .i64 (nv : Int), .slice A1 n1 c1, .slice A2 n2 c2, .slice A3 n3 c3] 67)) nv n1)
  rw [World.size_alloc, World.size_alloc] at HA HB
  have BA := put (((((Below.refl w.heap.size w).alloc (Nat.le_refl _) (.cells #[.slice (some ⟨b, off, none⟩) n c] 35)).alloc (by simp) (.cells #[.int .i64 s'.params, .int .i64 (nv : Int), .slice A1 n1 c1, .slice A2 n2 c2, .slice A3 n3 c3] 67)).alloc (by simp; omega) (.cells (madeCells #[.int .i64 0] nv) 3)).alloc (by simp; omega) (.cells (madeCells #[.bool false] n1) 4))
  have BB := put (((((Below.refl w.heap.size w).alloc (Nat.le_refl _) (.cells #[.slice (some ⟨b, off, none⟩) n c] 35)).alloc (by simp) (.cells #[.int .i64 s'.params, .int .i64 (nv : Int), .slice A1 n1 c1, .slice A2 n2 c2, .slice A3 n3 c3] 67)).alloc (by simp; omega) (.cells (madeCells #[.bool false] n1) 4)).alloc (by simp; omega) (.cells (madeCells #[.int .i64 0] nv) 3))
  have SA := put (show ((((w.alloc (.cells #[.slice (some ⟨b, off, none⟩) n c] 35)).alloc (.cells #[.int .i64 s'.params, .int .i64 (nv : Int), .slice A1 n1 c1, .slice A2 n2 c2, .slice A3 n3 c3] 67)).alloc (.cells (madeCells #[.int .i64 0] nv) 3)).alloc (.cells (madeCells #[.bool false] n1) 4)).heap.size = w.heap.size + 1 + 1 + 1 + 1 by simp)
  have SB := put (show ((((w.alloc (.cells #[.slice (some ⟨b, off, none⟩) n c] 35)).alloc (.cells #[.int .i64 s'.params, .int .i64 (nv : Int), .slice A1 n1 c1, .slice A2 n2 c2, .slice A3 n3 c3] 67)).alloc (.cells (madeCells #[.bool false] n1) 4)).alloc (.cells (madeCells #[.int .i64 0] nv) 3)).heap.size = w.heap.size + 1 + 1 + 1 + 1 by simp)
  have EA : ∀ W : World, Room W (w.heap.size + 1 + 1) 3 nv .i64 (zs nv) → RoomV W (w.heap.size + 1 + 1 + 1) 4 n1 ((fs n1).map Value.bool) → Below w.heap.size w W → W.heap.size = w.heap.size + 1 + 1 + 1 + 1 → One (W.alloc (.cells #[.int .i64 0, .int .i64 0, .int .i64 0, .slice none 0 0, .slice (some ⟨w.heap.size + 1 + 1, 0, none⟩) nv nv, .slice (some ⟨w.heap.size + 1 + 1 + 1, 0, none⟩) n1 n1, .int .i64 0, .int .i64 0, .int .i64 0, .int .i64 1, .bool false] 48)) w.heap.size (w.heap.size + 1 + 1 + 1 + 1) (w.heap.size + 1 + 1) (w.heap.size + 1 + 1 + 1) nv n1 #[.int .i64 0, .int .i64 0, .int .i64 0, .slice none 0 0, .slice (some ⟨w.heap.size + 1 + 1, 0, none⟩) nv nv, .slice (some ⟨w.heap.size + 1 + 1 + 1, 0, none⟩) n1 n1, .int .i64 0, .int .i64 0, .int .i64 0, .int .i64 1, .bool false] (zs nv) (fs n1) ∧ Below w.heap.size w (W.alloc (.cells #[.int .i64 0, .int .i64 0, .int .i64 0, .slice none 0 0, .slice (some ⟨w.heap.size + 1 + 1, 0, none⟩) nv nv, .slice (some ⟨w.heap.size + 1 + 1 + 1, 0, none⟩) n1 n1, .int .i64 0, .int .i64 0, .int .i64 0, .int .i64 1, .bool false] 48)) := by
    intro W h1 h2 h3 h5
    have k := Keep.new W #[.int .i64 0, .int .i64 0, .int .i64 0, .slice none 0 0, .slice (some ⟨w.heap.size + 1 + 1, 0, none⟩) nv nv, .slice (some ⟨w.heap.size + 1 + 1 + 1, 0, none⟩) n1 n1, .int .i64 0, .int .i64 0, .int .i64 0, .int .i64 1, .bool false] 48
    rw [h5] at k
    exact ⟨⟨k, h1.below ((Below.refl _ _).alloc (Nat.le_refl _) _) h1.lt, h2.below ((Below.refl _ _).alloc (Nat.le_refl _) _) h2.lt, by simp [zs], by simp [fs], by omega, by omega, by omega, by omega, by omega, by omega⟩, h3.alloc (by omega) _⟩
  have EB : ∀ W : World, Room W (w.heap.size + 1 + 1 + 1) 3 nv .i64 (zs nv) → RoomV W (w.heap.size + 1 + 1) 4 n1 ((fs n1).map Value.bool) → Below w.heap.size w W → W.heap.size = w.heap.size + 1 + 1 + 1 + 1 → One (W.alloc (.cells #[.int .i64 0, .int .i64 0, .int .i64 0, .slice none 0 0, .slice (some ⟨w.heap.size + 1 + 1 + 1, 0, none⟩) nv nv, .slice (some ⟨w.heap.size + 1 + 1, 0, none⟩) n1 n1, .int .i64 0, .int .i64 0, .int .i64 0, .int .i64 1, .bool false] 48)) w.heap.size (w.heap.size + 1 + 1 + 1 + 1) (w.heap.size + 1 + 1 + 1) (w.heap.size + 1 + 1) nv n1 #[.int .i64 0, .int .i64 0, .int .i64 0, .slice none 0 0, .slice (some ⟨w.heap.size + 1 + 1 + 1, 0, none⟩) nv nv, .slice (some ⟨w.heap.size + 1 + 1, 0, none⟩) n1 n1, .int .i64 0, .int .i64 0, .int .i64 0, .int .i64 1, .bool false] (zs nv) (fs n1) ∧ Below w.heap.size w (W.alloc (.cells #[.int .i64 0, .int .i64 0, .int .i64 0, .slice none 0 0, .slice (some ⟨w.heap.size + 1 + 1 + 1, 0, none⟩) nv nv, .slice (some ⟨w.heap.size + 1 + 1, 0, none⟩) n1 n1, .int .i64 0, .int .i64 0, .int .i64 0, .int .i64 1, .bool false] 48)) := by
    intro W h1 h2 h3 h5
    have k := Keep.new W #[.int .i64 0, .int .i64 0, .int .i64 0, .slice none 0 0, .slice (some ⟨w.heap.size + 1 + 1 + 1, 0, none⟩) nv nv, .slice (some ⟨w.heap.size + 1 + 1, 0, none⟩) n1 n1, .int .i64 0, .int .i64 0, .int .i64 0, .int .i64 1, .bool false] 48
    rw [h5] at k
    exact ⟨⟨k, h1.below ((Below.refl _ _).alloc (Nat.le_refl _) _) h1.lt, h2.below ((Below.refl _ _).alloc (Nat.le_refl _) _) h2.lt, by simp [zs], by simp [fs], by omega, by omega, by omega, by omega, by omega, by omega⟩, h3.alloc (by omega) _⟩
  have FAA := put (EA _ HA.out.1 HA.out.2 BA.out SA.out)
  have FBB := put (EB _ HB.out.1 HB.out.2 BB.out SB.out)
  clear EA EB HA HB BA BB SA SB hb0
  go_enter Tryd.func18, Tryd.ntmps18
  go_wp2
  go_region_law (fail)
  all_goals (
    clear hmk hmb
    go_wp2
    first
    | (go_ret; exact ⟨w.heap.size + 1 + 1 + 1 + 1, w.heap.size + 1 + 1, w.heap.size + 1 + 1 + 1, rfl, FAA.out.1.drew, FAA.out.2.drew⟩)
    | (go_ret; exact ⟨w.heap.size + 1 + 1 + 1 + 1, w.heap.size + 1 + 1 + 1, w.heap.size + 1 + 1, rfl, FBB.out.1.drew, FBB.out.2.drew⟩))

end Go.Proofs.YtcpjddkhclaafaaDoor

namespace Go.Proofs.YtcpjddkhclaafaaDoor
open Go.RowKit Go.Deep Exs

theorem One.copy {w : World} {B gf gv gl nv nl : Nat} {fc : Array Value} {xs : List Int} {bs : List Bool} (h : One w B gf gv gl nv nl fc xs bs) (hB : B ≤ w.heap.size) : One (w.alloc (.cells fc 48)) B w.heap.size gv gl nv nl fc xs bs :=
  ⟨Keep.new _ _ _, h.vr.below ((Below.refl _ _).alloc (Nat.le_refl _) _) h.vr.lt, h.lr.below ((Below.refl _ _).alloc (Nat.le_refl _) _) h.lr.lt, h.xl, h.bl, hB, h.bv, h.bb, by have := h.vr.lt; omega, by have := h.lr.lt; omega, h.vl⟩

set_option maxHeartbeats 2000000 in
set_option maxRecDepth 100000 in
theorem implNewVm_good (A : Option Addr) (n c : Nat) (cs : List Cd) (s : Cd) (nv : Nat) (w : World) (hr : ReadsC w w.heap.size A n cs) (hk : Kinds w) (hpos : 0 < w.heap.size) (hg : giB cs = true) (hn : 0 < n) (hs : cs[0]? = some s) (hv : s.vars = (nv : Int)) (h6 : nv ≤ 6) (h4 : s.sites.length ≤ 4) :
    Calls Tryd.prog 7 #[.agg #[.slice A n c]] w fun e w' => ∃ gf gv gl, e = .returned (.tuple #[.agg #[.slice (some ⟨gf, 0, none⟩) 1 1, .slice none 0 0, .int .i64 0, .int .i64 0, .int .i64 0, .int .i64 1, .slice none 0 0], .bool true]) ∧ One w' w.heap.size gf gv gl nv s.sites.length #[.int .i64 0, .int .i64 0, .int .i64 0, .slice none 0 0, .slice (some ⟨gv, 0, none⟩) nv nv, .slice (some ⟨gl, 0, none⟩) s.sites.length s.sites.length, .int .i64 0, .int .i64 0, .int .i64 0, .int .i64 1, .bool false] (zs nv) (fs s.sites.length) ∧ Below w.heap.size w w' := by
  have hb0 : Below w.heap.size w ((w.alloc (.cells #[.slice A n c] 35)).alloc (.cells #[.slice none 0 0, .slice none 0 0, .int .i64 0, .int .i64 0, .int .i64 0, .int .i64 0, .slice none 0 0] 30)) := ((Below.refl _ _).alloc (Nat.le_refl _) _).alloc (by simp) _
  have ki : Keep ((w.alloc (.cells #[.slice A n c] 35)).alloc (.cells #[.slice none 0 0, .slice none 0 0, .int .i64 0, .int .i64 0, .int .i64 0, .int .i64 0, .slice none 0 0] 30)) w.heap.size #[.slice A n c] 35 := (Keep.new _ _ _).alloc _
  have kv : Keep ((w.alloc (.cells #[.slice A n c] 35)).alloc (.cells #[.slice none 0 0, .slice none 0 0, .int .i64 0, .int .i64 0, .int .i64 0, .int .i64 0, .slice none 0 0] 30)) (w.heap.size + 1) #[.slice none 0 0, .slice none 0 0, .int .i64 0, .int .i64 0, .int .i64 0, .int .i64 0, .slice none 0 0] 30 := by
    have := Keep.new (w.alloc (.cells #[.slice A n c] 35)) #[.slice none 0 0, .slice none 0 0, .int .i64 0, .int .i64 0, .int .i64 0, .int .i64 0, .slice none 0 0] 30
    rw [World.size_alloc] at this
    exact this
  have HK := put (⟨hk.below hb0 hpos, (show 0 < ((w.alloc (.cells #[.slice A n c] 35)).alloc (.cells #[.slice none 0 0, .slice none 0 0, .int .i64 0, .int .i64 0, .int .i64 0, .int .i64 0, .slice none 0 0] 30)).heap.size by have := hb0.size; omega)⟩ : Kinds ((w.alloc (.cells #[.slice A n c] 35)).alloc (.cells #[.slice none 0 0, .slice none 0 0, .int .i64 0, .int .i64 0, .int .i64 0, .int .i64 0, .slice none 0 0] 30)) ∧ 0 < ((w.alloc (.cells #[.slice A n c] 35)).alloc (.cells #[.slice none 0 0, .slice none 0 0, .int .i64 0, .int .i64 0, .int .i64 0, .int .i64 0, .slice none 0 0] 30)).heap.size)
  have HR := put (hr.now hb0)
  have HV := put hv
  have HS := put hs
  clear hr hv hs
  go_enter Tryd.func7, Tryd.ntmps7
  go_wp2_with fail
  generalize hW : (w.alloc (.cells #[.slice A n c] 35)).alloc (.cells #[.slice none 0 0, .slice none 0 0, .int .i64 0, .int .i64 0, .int .i64 0, .int .i64 0, .slice none 0 0] 30) = W0 at hb0 kv ki HR HK ⊢
  clear hW
  refine (goodImage_any A n c cs W0 HR.out HK.out.1 HK.out.2).mono ?_
  rw [hg]
  rintro e w1 ⟨rfl, hb1⟩
  have ki1 := ki.below hb1
  have kv1 := kv.below hb1
  have HR1 := put (HR.out.now hb1)
  have hB := hb0.trans (hb1.mono hb0.size)
  clear kv hb0 hb1 HR ki HK
  have z := ki1.cell 0
  simp at z
  go_wp2_with fail
  clear z
  obtain ⟨nl, hnl⟩ : ∃ nl, s.sites.length = nl := ⟨_, rfl⟩
  have HNL := put hnl
  have hnf := newFrame_any A n c cs s nv w1 HR1.out hn HS.out HV.out h6 h4
  rw [hnl] at hnf h4
  refine hnf.mono ?_
  clear hnf hnl
  rintro e w2 ⟨gp, gv, gl, rfl, ho, hb2⟩
  have hlt := kv1.lt
  have hBs := hB.size
  have hb2s := hb2.size
  have kv2 := (kv1.below hb2).alloc (.cells #[.int .i64 0, .int .i64 0, .int .i64 0, .slice none 0 0, .slice (some ⟨gv, 0, none⟩) nv nv, .slice (some ⟨gl, 0, none⟩) nl nl, .int .i64 0, .int .i64 0, .int .i64 0, .int .i64 1, .bool false] 48)
  have hB2 := (hB.trans (hb2.mono hB.size)).alloc (by omega) (.cells #[.int .i64 0, .int .i64 0, .int .i64 0, .slice none 0 0, .slice (some ⟨gv, 0, none⟩) nv nv, .slice (some ⟨gl, 0, none⟩) nl nl, .int .i64 0, .int .i64 0, .int .i64 0, .int .i64 1, .bool false] 48)
  have hoc := ho.copy (by omega)
  have hf := ho.fr
  clear ki1 kv1 hB HR1 hb2 ho
  have x0 := hf.cell 0
  have x1 := hf.cell 1
  have x2 := hf.cell 2
  have x3 := hf.cell 3
  have x4 := hf.cell 4
  have x5 := hf.cell 5
  have x6 := hf.cell 6
  have x7 := hf.cell 7
  have x8 := hf.cell 8
  have x9 := hf.cell 9
  have x10 := hf.cell 10
  simp at x0 x1 x2 x3 x4 x5 x6 x7 x8 x9 x10
  have y0 : (w2.alloc (.cells #[.int .i64 0, .int .i64 0, .int .i64 0, .slice none 0 0, .slice (some ⟨gv, 0, none⟩) nv nv, .slice (some ⟨gl, 0, none⟩) nl nl, .int .i64 0, .int .i64 0, .int .i64 0, .int .i64 1, .bool false] 48)).cell? ⟨w.heap.size + 1, 0, none⟩ = some (.slice none 0 0) := kv2.cell 0
  have f0 := kv2.frozen 0
  have y1 : (w2.alloc (.cells #[.int .i64 0, .int .i64 0, .int .i64 0, .slice none 0 0, .slice (some ⟨gv, 0, none⟩) nv nv, .slice (some ⟨gl, 0, none⟩) nl nl, .int .i64 0, .int .i64 0, .int .i64 0, .int .i64 1, .bool false] 48)).cell? ⟨w.heap.size + 1, 1, none⟩ = some (.slice none 0 0) := kv2.cell 1
  have f1 := kv2.frozen 1
  have y2 : (w2.alloc (.cells #[.int .i64 0, .int .i64 0, .int .i64 0, .slice none 0 0, .slice (some ⟨gv, 0, none⟩) nv nv, .slice (some ⟨gl, 0, none⟩) nl nl, .int .i64 0, .int .i64 0, .int .i64 0, .int .i64 1, .bool false] 48)).cell? ⟨w.heap.size + 1, 2, none⟩ = some (.int .i64 0) := kv2.cell 2
  have f2 := kv2.frozen 2
  have y3 : (w2.alloc (.cells #[.int .i64 0, .int .i64 0, .int .i64 0, .slice none 0 0, .slice (some ⟨gv, 0, none⟩) nv nv, .slice (some ⟨gl, 0, none⟩) nl nl, .int .i64 0, .int .i64 0, .int .i64 0, .int .i64 1, .bool false] 48)).cell? ⟨w.heap.size + 1, 3, none⟩ = some (.int .i64 0) := kv2.cell 3
  have f3 := kv2.frozen 3
  have y4 : (w2.alloc (.cells #[.int .i64 0, .int .i64 0, .int .i64 0, .slice none 0 0, .slice (some ⟨gv, 0, none⟩) nv nv, .slice (some ⟨gl, 0, none⟩) nl nl, .int .i64 0, .int .i64 0, .int .i64 0, .int .i64 1, .bool false] 48)).cell? ⟨w.heap.size + 1, 4, none⟩ = some (.int .i64 0) := kv2.cell 4
  have f4 := kv2.frozen 4
  have y5 : (w2.alloc (.cells #[.int .i64 0, .int .i64 0, .int .i64 0, .slice none 0 0, .slice (some ⟨gv, 0, none⟩) nv nv, .slice (some ⟨gl, 0, none⟩) nl nl, .int .i64 0, .int .i64 0, .int .i64 0, .int .i64 1, .bool false] 48)).cell? ⟨w.heap.size + 1, 5, none⟩ = some (.int .i64 0) := kv2.cell 5
  have f5 := kv2.frozen 5
  have y6 : (w2.alloc (.cells #[.int .i64 0, .int .i64 0, .int .i64 0, .slice none 0 0, .slice (some ⟨gv, 0, none⟩) nv nv, .slice (some ⟨gl, 0, none⟩) nl nl, .int .i64 0, .int .i64 0, .int .i64 0, .int .i64 1, .bool false] 48)).cell? ⟨w.heap.size + 1, 6, none⟩ = some (.slice none 0 0) := kv2.cell 6
  have f6 := kv2.frozen 6
  have HO := put hoc
  have KV := put kv2
  have HB2 := put hB2
  clear hoc kv2 hB2 hf
  go_wp2
  have ho := HO.out
  have kv2 := KV.out
  have hB2 := HB2.out
  replace kv2 := kv2.set 0 (.slice (some ⟨w2.heap.size, 0, none⟩) 1 1)
  replace hB2 := hB2.setCell (p := ⟨w.heap.size + 1, 0, none⟩) (Nat.le_succ _) (.slice (some ⟨w2.heap.size, 0, none⟩) 1 1)
  replace ho := ho.low (g := w.heap.size + 1) hlt 0 (.slice (some ⟨w2.heap.size, 0, none⟩) 1 1)
  replace kv2 := kv2.set 1 (.slice none 0 0)
  replace hB2 := hB2.setCell (p := ⟨w.heap.size + 1, 1, none⟩) (Nat.le_succ _) (.slice none 0 0)
  replace ho := ho.low (g := w.heap.size + 1) hlt 1 (.slice none 0 0)
  replace kv2 := kv2.set 2 (.int .i64 0)
  replace hB2 := hB2.setCell (p := ⟨w.heap.size + 1, 2, none⟩) (Nat.le_succ _) (.int .i64 0)
  replace ho := ho.low (g := w.heap.size + 1) hlt 2 (.int .i64 0)
  replace kv2 := kv2.set 3 (.int .i64 0)
  replace hB2 := hB2.setCell (p := ⟨w.heap.size + 1, 3, none⟩) (Nat.le_succ _) (.int .i64 0)
  replace ho := ho.low (g := w.heap.size + 1) hlt 3 (.int .i64 0)
  replace kv2 := kv2.set 4 (.int .i64 0)
  replace hB2 := hB2.setCell (p := ⟨w.heap.size + 1, 4, none⟩) (Nat.le_succ _) (.int .i64 0)
  replace ho := ho.low (g := w.heap.size + 1) hlt 4 (.int .i64 0)
  replace kv2 := kv2.set 5 (.int .i64 1)
  replace hB2 := hB2.setCell (p := ⟨w.heap.size + 1, 5, none⟩) (Nat.le_succ _) (.int .i64 1)
  replace ho := ho.low (g := w.heap.size + 1) hlt 5 (.int .i64 1)
  replace kv2 := kv2.set 6 (.slice none 0 0)
  replace hB2 := hB2.setCell (p := ⟨w.heap.size + 1, 6, none⟩) (Nat.le_succ _) (.slice none 0 0)
  replace ho := ho.low (g := w.heap.size + 1) hlt 6 (.slice none 0 0)
  have e0 := kv2.cell 0
  have e1 := kv2.cell 1
  have e2 := kv2.cell 2
  have e3 := kv2.cell 3
  have e4 := kv2.cell 4
  have e5 := kv2.cell 5
  have e6 := kv2.cell 6
  simp at e0 e1 e2 e3 e4 e5 e6
  have ho2 := ho.more (B' := w.heap.size) hBs
  refine bodyPost_ret (v := .tuple #[.agg #[.slice (some ⟨w2.heap.size, 0, none⟩) 1 1, .slice none 0 0, .int .i64 0, .int .i64 0, .int .i64 0, .int .i64 1, .slice none 0 0], .bool true]) ?_ rfl ?_
  · simp [results, Tryd.results7, go_sem, e0, e1, e2, e3, e4, e5, e6]
  · rw [HNL.out]
    exact ⟨w2.heap.size, gv, gl, rfl, ho2, hB2⟩

end Go.Proofs.YtcpjddkhclaafaaDoor

namespace Go.Proofs.YtcpjddkhclaafaaDoor
open Go.RowKit Go.Deep Exs

theorem specNewVm_g (A : Option Addr) (n c : Nat) (cs : List Cd) (s : Cd) (nv nl : Nat) (w : World) (hr : ReadsC w w.heap.size A n cs) (hsm : SmallI cs) (hg : giB cs = true) (hn : 0 < n) (hs : cs[0]? = some s) (hv : s.vars = (nv : Int)) (h6 : nv ≤ 6) (hl : s.sites.length = nl) (h4 : nl ≤ 4) :
    Calls Tryd.prog 5 #[.agg #[.slice A n c]] w fun e w' => ∃ gf gv gl, e = .returned (.tuple #[.agg #[.slice (some ⟨gf, 0, none⟩) 1 1, .slice none 0 0, .int .i64 0, .int .i64 0, .int .i64 0, .int .i64 1, .slice none 0 0], .bool true]) ∧ One w' w.heap.size gf gv gl nv nl #[.int .i64 0, .int .i64 0, .int .i64 0, .slice none 0 0, .slice (some ⟨gv, 0, none⟩) nv nv, .slice (some ⟨gl, 0, none⟩) nl nl, .int .i64 0, .int .i64 0, .int .i64 0, .int .i64 1, .bool false] (zs nv) (fs nl) ∧ Below w.heap.size w w' := by
  subst hl
  exact specNewVm_good A n c cs s nv w hr hsm hg hn hs hv h6 h4

theorem implNewVm_g (A : Option Addr) (n c : Nat) (cs : List Cd) (s : Cd) (nv nl : Nat) (w : World) (hr : ReadsC w w.heap.size A n cs) (hk : Kinds w) (hpos : 0 < w.heap.size) (hg : giB cs = true) (hn : 0 < n) (hs : cs[0]? = some s) (hv : s.vars = (nv : Int)) (h6 : nv ≤ 6) (hl : s.sites.length = nl) (h4 : nl ≤ 4) :
    Calls Tryd.prog 7 #[.agg #[.slice A n c]] w fun e w' => ∃ gf gv gl, e = .returned (.tuple #[.agg #[.slice (some ⟨gf, 0, none⟩) 1 1, .slice none 0 0, .int .i64 0, .int .i64 0, .int .i64 0, .int .i64 1, .slice none 0 0], .bool true]) ∧ One w' w.heap.size gf gv gl nv nl #[.int .i64 0, .int .i64 0, .int .i64 0, .slice none 0 0, .slice (some ⟨gv, 0, none⟩) nv nv, .slice (some ⟨gl, 0, none⟩) nl nl, .int .i64 0, .int .i64 0, .int .i64 0, .int .i64 1, .bool false] (zs nv) (fs nl) ∧ Below w.heap.size w w' := by
  subst hl
  exact implNewVm_good A n c cs s nv w hr hk hpos hg hn hs hv h6 h4

end Go.Proofs.YtcpjddkhclaafaaDoor

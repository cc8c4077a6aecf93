/-
  NewVm of both sides: the contracts, but for the program where the image is good.
-/
import Derived.Test.YtcpjddkhclaafaaDoorNwF
import Derived.Test.YtcpjddkhclaafaaDoorCda5
namespace Go.Proofs.YtcpjddkhclaafaaDoor
open Go.RowKit Go.Deep Exs

theorem first_of {cs : List Cd} (h : giB cs = true) : ∃ (s : Cd) (nv : Nat), cs[0]? = some s ∧ s.vars = (nv : Int) ∧ nv ≤ 6 ∧ s.sites.length ≤ 4 := by
  obtain ⟨h1, ⟨s, hs, _⟩, _⟩ := (giB_iff cs).1 h
  have hc := (cdB_iff s).1 ((imB_iff cs).1 h1 |>.2 s (List.mem_of_getElem? hs))
  obtain ⟨⟨⟨⟨⟨⟨a1, a2⟩, a3, a4⟩, a5⟩, _⟩, _⟩, _⟩ := hc
  exact ⟨s, s.vars.toNat, hs, by omega, by omega, a5⟩
theorem Below.blocks {B : Nat} {w w' : World} (h : Below B w w') (k : Nat) (hk : k < B) : w'.heap[k]? = w.heap[k]? := h.block k hk

set_option maxHeartbeats 2000000 in
set_option maxRecDepth 100000 in
theorem l8New_any (A : Option Addr) (n c : Nat) (cs : List Cd) (s : Cd) (nv : Nat) (w : World) (hr : ReadsC w w.heap.size A n cs) (hn : 0 < n) (hs : cs[0]? = some s) (hv : s.vars = (nv : Int)) (h6 : nv ≤ 6) (h4 : s.sites.length ≤ 4) :
    Calls Tryd.prog 15 #[.agg #[.slice A n c]] w fun e w' => ∃ gf gv gl, e = .returned (.agg #[.slice (some ⟨gf, 0, none⟩) 1 1, .slice none 0 0, .int .i64 0, .int .i64 0, .int .i64 0, .int .i64 1, .slice none 0 0]) ∧ One w' w.heap.size gf gv gl nv s.sites.length #[.int .i64 0, .int .i64 0, .int .i64 0, .slice none 0 0, .slice (some ⟨gv, 0, none⟩) nv nv, .slice (some ⟨gl, 0, none⟩) s.sites.length s.sites.length, .int .i64 0, .int .i64 0, .int .i64 0, .int .i64 1, .bool false] (zs nv) (fs s.sites.length) ∧ Below w.heap.size w w' := by
  obtain ⟨b, off, s', A1, n1, c1, A2, n2, c2, A3, n3, c3, rfl, hb, g0, g1, g2, g3, g4, r1, r2, r3, hx⟩ := hr.at_ (j := 0) hn
  obtain rfl : s' = s := by have := hx.out; rw [hs] at this; injection this with this; exact this.symm
  have hl1 : n1 ≤ 4 := by rw [← r1.1]; exact h4
  have en : s'.sites.length = n1 := r1.1
  rw [en]
  simp only [Nat.zero_mul, Nat.add_zero] at g0 g1 g2 g3 g4
  have HVV := put hv
  clear r1 r2 r3 hx hr hs h4 en hv
  have hb0 : Below w.heap.size w ((w.alloc (.cells #[.slice (some ⟨b, off, none⟩) n c] 35)).alloc (.cells #[.slice none 0 0, .slice none 0 0, .int .i64 0, .int .i64 0, .int .i64 0, .int .i64 0, .slice none 0 0] 30)) := ((Below.refl _ _).alloc (Nat.le_refl _) _).alloc (by simp) _
  have kv : Keep ((w.alloc (.cells #[.slice (some ⟨b, off, none⟩) n c] 35)).alloc (.cells #[.slice none 0 0, .slice none 0 0, .int .i64 0, .int .i64 0, .int .i64 0, .int .i64 0, .slice none 0 0] 30)) (w.heap.size + 1) #[.slice none 0 0, .slice none 0 0, .int .i64 0, .int .i64 0, .int .i64 0, .int .i64 0, .slice none 0 0] 30 := by
    have := Keep.new (w.alloc (.cells #[.slice (some ⟨b, off, none⟩) n c] 35)) #[.slice none 0 0, .slice none 0 0, .int .i64 0, .int .i64 0, .int .i64 0, .int .i64 0, .slice none 0 0] 30
    rw [World.size_alloc] at this
    exact this
  have hn' : (0 : Int) < (n : Int) := by omega
  have q0 := (hb0.cell (p := ⟨b, off, none⟩) hb).trans g0
  have q1 := (hb0.cell (p := ⟨b, off + 1, none⟩) hb).trans g1
  have q2 := (hb0.cell (p := ⟨b, off + 2, none⟩) hb).trans g2
  have q3 := (hb0.cell (p := ⟨b, off + 3, none⟩) hb).trans g3
  have q4 := (hb0.cell (p := ⟨b, off + 4, none⟩) hb).trans g4
  go_enter Tryd.func15, Tryd.ntmps15
  go_wp2_with fail
  generalize hW : (w.alloc (.cells #[.slice (some ⟨b, off, none⟩) n c] 35)).alloc (.cells #[.slice none 0 0, .slice none 0 0, .int .i64 0, .int .i64 0, .int .i64 0, .int .i64 0, .slice none 0 0] 30) = W0 at hb0 kv q0 q1 q2 q3 q4 ⊢
  clear hW q0 q1 q2 q3 q4
  refine (l8Frame_any s' A1 n1 c1 A2 n2 c2 A3 n3 c3 nv HVV.out W0 (by omega) (by omega)).mono ?_
  rintro e w1 ⟨gv, gl, rfl, hv1, hl1', hgv, hgl, hne, hb1⟩
  have hs0 := hb0.size
  have hlt := kv.lt
  have hs1 := hb1.size
  have hvl := hv1.lt
  have hll := hl1'.lt
  have kv1 := (kv.below hb1).alloc (.cells #[.int .i64 0, .int .i64 0, .int .i64 0, .slice none 0 0, .slice (some ⟨gv, 0, none⟩) nv nv, .slice (some ⟨gl, 0, none⟩) n1 n1, .int .i64 0, .int .i64 0, .int .i64 0, .int .i64 1, .bool false] 48)
  have kf1 := Keep.new w1 #[.int .i64 0, .int .i64 0, .int .i64 0, .slice none 0 0, .slice (some ⟨gv, 0, none⟩) nv nv, .slice (some ⟨gl, 0, none⟩) n1 n1, .int .i64 0, .int .i64 0, .int .i64 0, .int .i64 1, .bool false] 48
  have hv2 := hv1.below ((Below.refl _ w1).alloc (Nat.le_refl _) (.cells #[.int .i64 0, .int .i64 0, .int .i64 0, .slice none 0 0, .slice (some ⟨gv, 0, none⟩) nv nv, .slice (some ⟨gl, 0, none⟩) n1 n1, .int .i64 0, .int .i64 0, .int .i64 0, .int .i64 1, .bool false] 48)) hvl
  have hl2 := hl1'.below ((Below.refl _ w1).alloc (Nat.le_refl _) (.cells #[.int .i64 0, .int .i64 0, .int .i64 0, .slice none 0 0, .slice (some ⟨gv, 0, none⟩) nv nv, .slice (some ⟨gl, 0, none⟩) n1 n1, .int .i64 0, .int .i64 0, .int .i64 0, .int .i64 1, .bool false] 48)) hll
  have hB := (hb0.trans (hb1.mono hs0)).alloc (Nat.le_trans hs0 hs1) (.cells #[.int .i64 0, .int .i64 0, .int .i64 0, .slice none 0 0, .slice (some ⟨gv, 0, none⟩) nv nv, .slice (some ⟨gl, 0, none⟩) n1 n1, .int .i64 0, .int .i64 0, .int .i64 0, .int .i64 1, .bool false] 48)
  have y0 : (w1.alloc (.cells #[.int .i64 0, .int .i64 0, .int .i64 0, .slice none 0 0, .slice (some ⟨gv, 0, none⟩) nv nv, .slice (some ⟨gl, 0, none⟩) n1 n1, .int .i64 0, .int .i64 0, .int .i64 0, .int .i64 1, .bool false] 48)).cell? ⟨w.heap.size + 1, 0, none⟩ = some (.slice none 0 0) := kv1.cell 0
  have f0 := kv1.frozen 0
  have y1 : (w1.alloc (.cells #[.int .i64 0, .int .i64 0, .int .i64 0, .slice none 0 0, .slice (some ⟨gv, 0, none⟩) nv nv, .slice (some ⟨gl, 0, none⟩) n1 n1, .int .i64 0, .int .i64 0, .int .i64 0, .int .i64 1, .bool false] 48)).cell? ⟨w.heap.size + 1, 1, none⟩ = some (.slice none 0 0) := kv1.cell 1
  have f1 := kv1.frozen 1
  have y2 : (w1.alloc (.cells #[.int .i64 0, .int .i64 0, .int .i64 0, .slice none 0 0, .slice (some ⟨gv, 0, none⟩) nv nv, .slice (some ⟨gl, 0, none⟩) n1 n1, .int .i64 0, .int .i64 0, .int .i64 0, .int .i64 1, .bool false] 48)).cell? ⟨w.heap.size + 1, 2, none⟩ = some (.int .i64 0) := kv1.cell 2
  have f2 := kv1.frozen 2
  have y3 : (w1.alloc (.cells #[.int .i64 0, .int .i64 0, .int .i64 0, .slice none 0 0, .slice (some ⟨gv, 0, none⟩) nv nv, .slice (some ⟨gl, 0, none⟩) n1 n1, .int .i64 0, .int .i64 0, .int .i64 0, .int .i64 1, .bool false] 48)).cell? ⟨w.heap.size + 1, 3, none⟩ = some (.int .i64 0) := kv1.cell 3
  have f3 := kv1.frozen 3
  have y4 : (w1.alloc (.cells #[.int .i64 0, .int .i64 0, .int .i64 0, .slice none 0 0, .slice (some ⟨gv, 0, none⟩) nv nv, .slice (some ⟨gl, 0, none⟩) n1 n1, .int .i64 0, .int .i64 0, .int .i64 0, .int .i64 1, .bool false] 48)).cell? ⟨w.heap.size + 1, 4, none⟩ = some (.int .i64 0) := kv1.cell 4
  have f4 := kv1.frozen 4
  have y5 : (w1.alloc (.cells #[.int .i64 0, .int .i64 0, .int .i64 0, .slice none 0 0, .slice (some ⟨gv, 0, none⟩) nv nv, .slice (some ⟨gl, 0, none⟩) n1 n1, .int .i64 0, .int .i64 0, .int .i64 0, .int .i64 1, .bool false] 48)).cell? ⟨w.heap.size + 1, 5, none⟩ = some (.int .i64 0) := kv1.cell 5
  have f5 := kv1.frozen 5
  have y6 : (w1.alloc (.cells #[.int .i64 0, .int .i64 0, .int .i64 0, .slice none 0 0, .slice (some ⟨gv, 0, none⟩) nv nv, .slice (some ⟨gl, 0, none⟩) n1 n1, .int .i64 0, .int .i64 0, .int .i64 0, .int .i64 1, .bool false] 48)).cell? ⟨w.heap.size + 1, 6, none⟩ = some (.slice none 0 0) := kv1.cell 6
  have f6 := kv1.frozen 6
  clear kv hb0 hb1 hv1 hl1'
  have KV := put kv1
  have KF := put kf1
  have HV2 := put hv2
  have HL2 := put hl2
  have HB := put hB
  clear kv1 kf1 hv2 hl2 hB
  go_wp2
  have kv1 := KV.out
  have kf1 := KF.out
  have hv2 := HV2.out
  have hl2 := HL2.out
  have hB := HB.out
  have n1' : gv ≠ w.heap.size + 1 := by omega
  have n2' : gl ≠ w.heap.size + 1 := by omega
  have n3' : w1.heap.size ≠ w.heap.size + 1 := by omega
  replace kv1 := kv1.set 0 (.slice (some ⟨w1.heap.size, 0, none⟩) 1 1)
  replace kf1 := kf1.other n3' 0 (.slice (some ⟨w1.heap.size, 0, none⟩) 1 1)
  replace hv2 := hv2.off n1' 0 (.slice (some ⟨w1.heap.size, 0, none⟩) 1 1)
  replace hl2 := hl2.off n2' 0 (.slice (some ⟨w1.heap.size, 0, none⟩) 1 1)
  replace hB := hB.setCell (p := ⟨w.heap.size + 1, 0, none⟩) (Nat.le_succ _) (.slice (some ⟨w1.heap.size, 0, none⟩) 1 1)
  replace kv1 := kv1.set 1 (.slice none 0 0)
  replace kf1 := kf1.other n3' 1 (.slice none 0 0)
  replace hv2 := hv2.off n1' 1 (.slice none 0 0)
  replace hl2 := hl2.off n2' 1 (.slice none 0 0)
  replace hB := hB.setCell (p := ⟨w.heap.size + 1, 1, none⟩) (Nat.le_succ _) (.slice none 0 0)
  replace kv1 := kv1.set 2 (.int .i64 0)
  replace kf1 := kf1.other n3' 2 (.int .i64 0)
  replace hv2 := hv2.off n1' 2 (.int .i64 0)
  replace hl2 := hl2.off n2' 2 (.int .i64 0)
  replace hB := hB.setCell (p := ⟨w.heap.size + 1, 2, none⟩) (Nat.le_succ _) (.int .i64 0)
  replace kv1 := kv1.set 3 (.int .i64 0)
  replace kf1 := kf1.other n3' 3 (.int .i64 0)
  replace hv2 := hv2.off n1' 3 (.int .i64 0)
  replace hl2 := hl2.off n2' 3 (.int .i64 0)
  replace hB := hB.setCell (p := ⟨w.heap.size + 1, 3, none⟩) (Nat.le_succ _) (.int .i64 0)
  replace kv1 := kv1.set 4 (.int .i64 0)
  replace kf1 := kf1.other n3' 4 (.int .i64 0)
  replace hv2 := hv2.off n1' 4 (.int .i64 0)
  replace hl2 := hl2.off n2' 4 (.int .i64 0)
  replace hB := hB.setCell (p := ⟨w.heap.size + 1, 4, none⟩) (Nat.le_succ _) (.int .i64 0)
  replace kv1 := kv1.set 5 (.int .i64 1)
  replace kf1 := kf1.other n3' 5 (.int .i64 1)
  replace hv2 := hv2.off n1' 5 (.int .i64 1)
  replace hl2 := hl2.off n2' 5 (.int .i64 1)
  replace hB := hB.setCell (p := ⟨w.heap.size + 1, 5, none⟩) (Nat.le_succ _) (.int .i64 1)
  replace kv1 := kv1.set 6 (.slice none 0 0)
  replace kf1 := kf1.other n3' 6 (.slice none 0 0)
  replace hv2 := hv2.off n1' 6 (.slice none 0 0)
  replace hl2 := hl2.off n2' 6 (.slice none 0 0)
  replace hB := hB.setCell (p := ⟨w.heap.size + 1, 6, none⟩) (Nat.le_succ _) (.slice none 0 0)
  have e0 := kv1.cell 0
  have e1 := kv1.cell 1
  have e2 := kv1.cell 2
  have e3 := kv1.cell 3
  have e4 := kv1.cell 4
  have e5 := kv1.cell 5
  have e6 := kv1.cell 6
  simp at e0 e1 e2 e3 e4 e5 e6
  refine bodyPost_ret (v := .agg #[.slice (some ⟨w1.heap.size, 0, none⟩) 1 1, .slice none 0 0, .int .i64 0, .int .i64 0, .int .i64 0, .int .i64 1, .slice none 0 0]) ?_ rfl ?_
  · simp [results, Tryd.results15, go_sem, e0, e1, e2, e3, e4, e5, e6]
  · exact ⟨w1.heap.size, gv, gl, rfl, ⟨kf1, hv2, hl2, by simp [zs], by simp [fs], by omega, by omega, by omega, by omega, by omega, hne⟩, hB⟩

end Go.Proofs.YtcpjddkhclaafaaDoor

namespace Go.Proofs.YtcpjddkhclaafaaDoor
open Go.RowKit Go.Deep Exs

theorem One.low {w : World} {B gf gv gl nv nl : Nat} {fc : Array Value} {xs : List Int} {bs : List Bool} (h : One w B gf gv gl nv nl fc xs bs) {g : Nat} (hg : g < B) (i : Nat) (v : Value) : One (w.setCell ⟨g, i, none⟩ v) B gf gv gl nv nl fc xs bs :=
  ⟨h.fr.other (by have := h.bf; omega) i v, h.vr.off (by have := h.bv; omega) i v, h.lr.off (by have := h.bb; omega) i v, h.xl, h.bl, h.bf, h.bv, h.bb, h.fv, h.fl, h.vl⟩

set_option maxHeartbeats 2000000 in
set_option maxRecDepth 100000 in
theorem specNewVm_bad (A : Option Addr) (n c : Nat) (cs : List Cd) (w : World) (hr : ReadsC w w.heap.size A n cs) (hsm : SmallI cs) (hg : giB cs = false) :
    Calls Tryd.prog 5 #[.agg #[.slice A n c]] w fun e w' => e = .returned (.tuple #[.agg #[.slice none 0 0, .slice none 0 0, .int .i64 0, .int .i64 0, .int .i64 0, .int .i64 0, .slice none 0 0], .bool false]) ∧ Below w.heap.size w w' := by
  have hb0 : Below w.heap.size w ((w.alloc (.cells #[.slice A n c] 35)).alloc (.cells #[.slice none 0 0, .slice none 0 0, .int .i64 0, .int .i64 0, .int .i64 0, .int .i64 0, .slice none 0 0] 30)) := ((Below.refl _ _).alloc (Nat.le_refl _) _).alloc (by simp) _
  have ki : Keep ((w.alloc (.cells #[.slice A n c] 35)).alloc (.cells #[.slice none 0 0, .slice none 0 0, .int .i64 0, .int .i64 0, .int .i64 0, .int .i64 0, .slice none 0 0] 30)) w.heap.size #[.slice A n c] 35 := (Keep.new _ _ _).alloc _
  have kv : Keep ((w.alloc (.cells #[.slice A n c] 35)).alloc (.cells #[.slice none 0 0, .slice none 0 0, .int .i64 0, .int .i64 0, .int .i64 0, .int .i64 0, .slice none 0 0] 30)) (w.heap.size + 1) #[.slice none 0 0, .slice none 0 0, .int .i64 0, .int .i64 0, .int .i64 0, .int .i64 0, .slice none 0 0] 30 := by
    have := Keep.new (w.alloc (.cells #[.slice A n c] 35)) #[.slice none 0 0, .slice none 0 0, .int .i64 0, .int .i64 0, .int .i64 0, .int .i64 0, .slice none 0 0] 30
    rw [World.size_alloc] at this
    exact this
  have HR := put (hr.now hb0)
  clear hr
  go_enter Tryd.func5, Tryd.ntmps5
  go_wp2_with fail
  generalize hW : (w.alloc (.cells #[.slice A n c] 35)).alloc (.cells #[.slice none 0 0, .slice none 0 0, .int .i64 0, .int .i64 0, .int .i64 0, .int .i64 0, .slice none 0 0] 30) = W0 at hb0 kv ki HR ⊢
  clear hW
  refine (specGoodImage_any A n c cs W0 HR.out hsm).mono ?_
  rw [hg]
  rintro e w1 ⟨rfl, hb1⟩
  have kv1 := kv.below hb1
  have hB := hb0.trans (hb1.mono hb0.size)
  clear kv hb0 hb1 HR ki
  have y0 := kv1.cell 0
  have f0 := kv1.frozen 0
  have y1 := kv1.cell 1
  have f1 := kv1.frozen 1
  have y2 := kv1.cell 2
  have f2 := kv1.frozen 2
  have y3 := kv1.cell 3
  have f3 := kv1.frozen 3
  have y4 := kv1.cell 4
  have f4 := kv1.frozen 4
  have y5 := kv1.cell 5
  have f5 := kv1.frozen 5
  have y6 := kv1.cell 6
  have f6 := kv1.frozen 6
  simp at y0 y1 y2 y3 y4 y5 y6
  go_wp2
  replace kv1 := kv1.set 0 (.slice none 0 0)
  replace hB := hB.setCell (p := ⟨w.heap.size + 1, 0, none⟩) (Nat.le_succ _) (.slice none 0 0)
  replace kv1 := kv1.set 1 (.slice none 0 0)
  replace hB := hB.setCell (p := ⟨w.heap.size + 1, 1, none⟩) (Nat.le_succ _) (.slice none 0 0)
  replace kv1 := kv1.set 2 (.int .i64 0)
  replace hB := hB.setCell (p := ⟨w.heap.size + 1, 2, none⟩) (Nat.le_succ _) (.int .i64 0)
  replace kv1 := kv1.set 3 (.int .i64 0)
  replace hB := hB.setCell (p := ⟨w.heap.size + 1, 3, none⟩) (Nat.le_succ _) (.int .i64 0)
  replace kv1 := kv1.set 4 (.int .i64 0)
  replace hB := hB.setCell (p := ⟨w.heap.size + 1, 4, none⟩) (Nat.le_succ _) (.int .i64 0)
  replace kv1 := kv1.set 5 (.int .i64 0)
  replace hB := hB.setCell (p := ⟨w.heap.size + 1, 5, none⟩) (Nat.le_succ _) (.int .i64 0)
  replace kv1 := kv1.set 6 (.slice none 0 0)
  replace hB := hB.setCell (p := ⟨w.heap.size + 1, 6, none⟩) (Nat.le_succ _) (.slice none 0 0)
  have e0 := kv1.cell 0
  have e1 := kv1.cell 1
  have e2 := kv1.cell 2
  have e3 := kv1.cell 3
  have e4 := kv1.cell 4
  have e5 := kv1.cell 5
  have e6 := kv1.cell 6
  simp at e0 e1 e2 e3 e4 e5 e6
  refine bodyPost_ret (v := .tuple #[.agg #[.slice none 0 0, .slice none 0 0, .int .i64 0, .int .i64 0, .int .i64 0, .int .i64 0, .slice none 0 0], .bool false]) ?_ rfl ?_
  · simp [results, Tryd.results5, go_sem, e0, e1, e2, e3, e4, e5, e6]
  · exact ⟨rfl, hB⟩

set_option maxHeartbeats 2000000 in
set_option maxRecDepth 100000 in
theorem implNewVm_bad (A : Option Addr) (n c : Nat) (cs : List Cd) (w : World) (hr : ReadsC w w.heap.size A n cs) (hk : Kinds w) (hpos : 0 < w.heap.size) (hg : giB cs = false) :
    Calls Tryd.prog 7 #[.agg #[.slice A n c]] w fun e w' => e = .returned (.tuple #[.agg #[.slice none 0 0, .slice none 0 0, .int .i64 0, .int .i64 0, .int .i64 0, .int .i64 0, .slice none 0 0], .bool false]) ∧ Below w.heap.size w w' := by
  have hb0 : Below w.heap.size w ((w.alloc (.cells #[.slice A n c] 35)).alloc (.cells #[.slice none 0 0, .slice none 0 0, .int .i64 0, .int .i64 0, .int .i64 0, .int .i64 0, .slice none 0 0] 30)) := ((Below.refl _ _).alloc (Nat.le_refl _) _).alloc (by simp) _
  have ki : Keep ((w.alloc (.cells #[.slice A n c] 35)).alloc (.cells #[.slice none 0 0, .slice none 0 0, .int .i64 0, .int .i64 0, .int .i64 0, .int .i64 0, .slice none 0 0] 30)) w.heap.size #[.slice A n c] 35 := (Keep.new _ _ _).alloc _
  have kv : Keep ((w.alloc (.cells #[.slice A n c] 35)).alloc (.cells #[.slice none 0 0, .slice none 0 0, .int .i64 0, .int .i64 0, .int .i64 0, .int .i64 0, .slice none 0 0] 30)) (w.heap.size + 1) #[.slice none 0 0, .slice none 0 0, .int .i64 0, .int .i64 0, .int .i64 0, .int .i64 0, .slice none 0 0] 30 := by
    have := Keep.new (w.alloc (.cells #[.slice A n c] 35)) #[.slice none 0 0, .slice none 0 0, .int .i64 0, .int .i64 0, .int .i64 0, .int .i64 0, .slice none 0 0] 30
    rw [World.size_alloc] at this
    exact this
  have HK := put (⟨hk.below hb0 hpos, (show 0 < ((w.alloc (.cells #[.slice A n c] 35)).alloc (.cells #[.slice none 0 0, .slice none 0 0, .int .i64 0, .int .i64 0, .int .i64 0, .int .i64 0, .slice none 0 0] 30)).heap.size by have := hb0.size; omega)⟩ : Kinds ((w.alloc (.cells #[.slice A n c] 35)).alloc (.cells #[.slice none 0 0, .slice none 0 0, .int .i64 0, .int .i64 0, .int .i64 0, .int .i64 0, .slice none 0 0] 30)) ∧ 0 < ((w.alloc (.cells #[.slice A n c] 35)).alloc (.cells #[.slice none 0 0, .slice none 0 0, .int .i64 0, .int .i64 0, .int .i64 0, .int .i64 0, .slice none 0 0] 30)).heap.size)
  have HR := put (hr.now hb0)
  clear hr
  go_enter Tryd.func7, Tryd.ntmps7
  go_wp2_with fail
  generalize hW : (w.alloc (.cells #[.slice A n c] 35)).alloc (.cells #[.slice none 0 0, .slice none 0 0, .int .i64 0, .int .i64 0, .int .i64 0, .int .i64 0, .slice none 0 0] 30) = W0 at hb0 kv ki HR HK ⊢
  clear hW
  refine (goodImage_any A n c cs W0 HR.out HK.out.1 HK.out.2).mono ?_
  rw [hg]
  rintro e w1 ⟨rfl, hb1⟩
  have kv1 := kv.below hb1
  have hB := hb0.trans (hb1.mono hb0.size)
  clear kv hb0 hb1 HR ki
  have y0 := kv1.cell 0
  have f0 := kv1.frozen 0
  have y1 := kv1.cell 1
  have f1 := kv1.frozen 1
  have y2 := kv1.cell 2
  have f2 := kv1.frozen 2
  have y3 := kv1.cell 3
  have f3 := kv1.frozen 3
  have y4 := kv1.cell 4
  have f4 := kv1.frozen 4
  have y5 := kv1.cell 5
  have f5 := kv1.frozen 5
  have y6 := kv1.cell 6
  have f6 := kv1.frozen 6
  simp at y0 y1 y2 y3 y4 y5 y6
  go_wp2
  replace kv1 := kv1.set 0 (.slice none 0 0)
  replace hB := hB.setCell (p := ⟨w.heap.size + 1, 0, none⟩) (Nat.le_succ _) (.slice none 0 0)
  replace kv1 := kv1.set 1 (.slice none 0 0)
  replace hB := hB.setCell (p := ⟨w.heap.size + 1, 1, none⟩) (Nat.le_succ _) (.slice none 0 0)
  replace kv1 := kv1.set 2 (.int .i64 0)
  replace hB := hB.setCell (p := ⟨w.heap.size + 1, 2, none⟩) (Nat.le_succ _) (.int .i64 0)
  replace kv1 := kv1.set 3 (.int .i64 0)
  replace hB := hB.setCell (p := ⟨w.heap.size + 1, 3, none⟩) (Nat.le_succ _) (.int .i64 0)
  replace kv1 := kv1.set 4 (.int .i64 0)
  replace hB := hB.setCell (p := ⟨w.heap.size + 1, 4, none⟩) (Nat.le_succ _) (.int .i64 0)
  replace kv1 := kv1.set 5 (.int .i64 0)
  replace hB := hB.setCell (p := ⟨w.heap.size + 1, 5, none⟩) (Nat.le_succ _) (.int .i64 0)
  replace kv1 := kv1.set 6 (.slice none 0 0)
  replace hB := hB.setCell (p := ⟨w.heap.size + 1, 6, none⟩) (Nat.le_succ _) (.slice none 0 0)
  have e0 := kv1.cell 0
  have e1 := kv1.cell 1
  have e2 := kv1.cell 2
  have e3 := kv1.cell 3
  have e4 := kv1.cell 4
  have e5 := kv1.cell 5
  have e6 := kv1.cell 6
  simp at e0 e1 e2 e3 e4 e5 e6
  refine bodyPost_ret (v := .tuple #[.agg #[.slice none 0 0, .slice none 0 0, .int .i64 0, .int .i64 0, .int .i64 0, .int .i64 0, .slice none 0 0], .bool false]) ?_ rfl ?_
  · simp [results, Tryd.results7, go_sem, e0, e1, e2, e3, e4, e5, e6]
  · exact ⟨rfl, hB⟩

set_option maxHeartbeats 2000000 in
set_option maxRecDepth 100000 in
theorem specNewVm_good (A : Option Addr) (n c : Nat) (cs : List Cd) (s : Cd) (nv : Nat) (w : World) (hr : ReadsC w w.heap.size A n cs) (hsm : SmallI cs) (hg : giB cs = true) (hn : 0 < n) (hs : cs[0]? = some s) (hv : s.vars = (nv : Int)) (h6 : nv ≤ 6) (h4 : s.sites.length ≤ 4) :
    Calls Tryd.prog 5 #[.agg #[.slice A n c]] w fun e w' => ∃ gf gv gl, e = .returned (.tuple #[.agg #[.slice (some ⟨gf, 0, none⟩) 1 1, .slice none 0 0, .int .i64 0, .int .i64 0, .int .i64 0, .int .i64 1, .slice none 0 0], .bool true]) ∧ One w' w.heap.size gf gv gl nv s.sites.length #[.int .i64 0, .int .i64 0, .int .i64 0, .slice none 0 0, .slice (some ⟨gv, 0, none⟩) nv nv, .slice (some ⟨gl, 0, none⟩) s.sites.length s.sites.length, .int .i64 0, .int .i64 0, .int .i64 0, .int .i64 1, .bool false] (zs nv) (fs s.sites.length) ∧ Below w.heap.size w w' := by
  have hb0 : Below w.heap.size w ((w.alloc (.cells #[.slice A n c] 35)).alloc (.cells #[.slice none 0 0, .slice none 0 0, .int .i64 0, .int .i64 0, .int .i64 0, .int .i64 0, .slice none 0 0] 30)) := ((Below.refl _ _).alloc (Nat.le_refl _) _).alloc (by simp) _
  have ki : Keep ((w.alloc (.cells #[.slice A n c] 35)).alloc (.cells #[.slice none 0 0, .slice none 0 0, .int .i64 0, .int .i64 0, .int .i64 0, .int .i64 0, .slice none 0 0] 30)) w.heap.size #[.slice A n c] 35 := (Keep.new _ _ _).alloc _
  have kv : Keep ((w.alloc (.cells #[.slice A n c] 35)).alloc (.cells #[.slice none 0 0, .slice none 0 0, .int .i64 0, .int .i64 0, .int .i64 0, .int .i64 0, .slice none 0 0] 30)) (w.heap.size + 1) #[.slice none 0 0, .slice none 0 0, .int .i64 0, .int .i64 0, .int .i64 0, .int .i64 0, .slice none 0 0] 30 := by
    have := Keep.new (w.alloc (.cells #[.slice A n c] 35)) #[.slice none 0 0, .slice none 0 0, .int .i64 0, .int .i64 0, .int .i64 0, .int .i64 0, .slice none 0 0] 30
    rw [World.size_alloc] at this
    exact this
  have HR := put (hr.now hb0)
  have HV := put hv
  have HS := put hs
  clear hr hv hs
  go_enter Tryd.func5, Tryd.ntmps5
  go_wp2_with fail
  generalize hW : (w.alloc (.cells #[.slice A n c] 35)).alloc (.cells #[.slice none 0 0, .slice none 0 0, .int .i64 0, .int .i64 0, .int .i64 0, .int .i64 0, .slice none 0 0] 30) = W0 at hb0 kv ki HR ⊢
  clear hW
  refine (specGoodImage_any A n c cs W0 HR.out hsm).mono ?_
  rw [hg]
  rintro e w1 ⟨rfl, hb1⟩
  have ki1 := ki.below hb1
  have kv1 := kv.below hb1
  have HR1 := put (HR.out.now hb1)
  have hB := hb0.trans (hb1.mono hb0.size)
  clear kv hb0 hb1 HR ki
  have z := ki1.cell 0
  simp at z
  go_wp2_with fail
  clear z
  refine (l8New_any A n c cs s nv w1 HR1.out hn HS.out HV.out h6 h4).mono ?_
  rintro e w2 ⟨gf, gv, gl, rfl, ho, hb2⟩
  have hlt := kv1.lt
  have hBs := hB.size
  have kv2 := kv1.below hb2
  have hB2 := hB.trans (hb2.mono hB.size)
  clear ki1 kv1 hB HR1 hb2
  have y0 := kv2.cell 0
  have f0 := kv2.frozen 0
  have y1 := kv2.cell 1
  have f1 := kv2.frozen 1
  have y2 := kv2.cell 2
  have f2 := kv2.frozen 2
  have y3 := kv2.cell 3
  have f3 := kv2.frozen 3
  have y4 := kv2.cell 4
  have f4 := kv2.frozen 4
  have y5 := kv2.cell 5
  have f5 := kv2.frozen 5
  have y6 := kv2.cell 6
  have f6 := kv2.frozen 6
  simp at y0 y1 y2 y3 y4 y5 y6
  have HO := put ho
  clear ho
  go_wp2
  have ho := HO.out
  replace kv2 := kv2.set 0 (.slice (some ⟨gf, 0, none⟩) 1 1)
  replace hB2 := hB2.setCell (p := ⟨w.heap.size + 1, 0, none⟩) (Nat.le_succ _) (.slice (some ⟨gf, 0, none⟩) 1 1)
  replace ho := ho.low (g := w.heap.size + 1) hlt 0 (.slice (some ⟨gf, 0, none⟩) 1 1)
  replace kv2 := kv2.set 1 (.slice none 0 0)
  replace hB2 := hB2.setCell (p := ⟨w.heap.size + 1, 1, none⟩) (Nat.le_succ _) (.slice none 0 0)
  replace ho := ho.low (g := w.heap.size + 1) hlt 1 (.slice none 0 0)
  replace kv2 := kv2.set 2 (.int .i64 0)
  replace hB2 := hB2.setCell (p := ⟨w.heap.size + 1, 2, none⟩) (Nat.le_succ _) (.int .i64 0)
  replace ho := ho.low (g := w.heap.size + 1) hlt 2 (.int .i64 0)
  replace kv2 := kv2.set 3 (.int .i64 0)
  replace hB2 := hB2.setCell (p := ⟨w.heap.size + 1, 3, none⟩) (Nat.le_succ _) (.int .i64 0)
  replace ho := ho.low (g := w.heap.size + 1) hlt 3 (.int .i64 0)
  replace kv2 := kv2.set 4 (.int .i64 0)
  replace hB2 := hB2.setCell (p := ⟨w.heap.size + 1, 4, none⟩) (Nat.le_succ _) (.int .i64 0)
  replace ho := ho.low (g := w.heap.size + 1) hlt 4 (.int .i64 0)
  replace kv2 := kv2.set 5 (.int .i64 1)
  replace hB2 := hB2.setCell (p := ⟨w.heap.size + 1, 5, none⟩) (Nat.le_succ _) (.int .i64 1)
  replace ho := ho.low (g := w.heap.size + 1) hlt 5 (.int .i64 1)
  replace kv2 := kv2.set 6 (.slice none 0 0)
  replace hB2 := hB2.setCell (p := ⟨w.heap.size + 1, 6, none⟩) (Nat.le_succ _) (.slice none 0 0)
  replace ho := ho.low (g := w.heap.size + 1) hlt 6 (.slice none 0 0)
  have e0 := kv2.cell 0
  have e1 := kv2.cell 1
  have e2 := kv2.cell 2
  have e3 := kv2.cell 3
  have e4 := kv2.cell 4
  have e5 := kv2.cell 5
  have e6 := kv2.cell 6
  simp at e0 e1 e2 e3 e4 e5 e6
  have ho2 := ho.more (B' := w.heap.size) hBs
  refine bodyPost_ret (v := .tuple #[.agg #[.slice (some ⟨gf, 0, none⟩) 1 1, .slice none 0 0, .int .i64 0, .int .i64 0, .int .i64 0, .int .i64 1, .slice none 0 0], .bool true]) ?_ rfl ?_
  · simp [results, Tryd.results5, go_sem, e0, e1, e2, e3, e4, e5, e6]
  · exact ⟨gf, gv, gl, rfl, ho2, hB2⟩

end Go.Proofs.YtcpjddkhclaafaaDoor

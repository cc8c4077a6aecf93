/-
  A machine of one frame, of a call's own: the laws' marks on it, and on none.
-/
import Derived.Test.YtcpjddkhclaafaaDoorMkB
import Derived.Test.YtcpjddkhclaafaaDoorMcEq
namespace Go.Proofs.YtcpjddkhclaafaaDoor
open Go.RowKit Go.Deep Exs

/-- The frame that a new machine has lies in blocks of its own. -/
structure One (w : World) (B gf gv gl nv nl : Nat) (fc : Array Value) (xs : List Int) (bs : List Bool) : Prop where
  fr : Keep w gf fc 48
  vr : Room w gv 3 nv .i64 xs
  lr : RoomV w gl 4 nl (bs.map Value.bool)
  xl : xs.length = nv
  bl : bs.length = nl
  bf : B ≤ gf
  bv : B ≤ gv
  bb : B ≤ gl
  fv : gf ≠ gv
  fl : gf ≠ gl
  vl : gv ≠ gl
theorem One.below {w w' : World} {B gf gv gl nv nl : Nat} {fc : Array Value} {xs : List Int} {bs : List Bool} (h : One w B gf gv gl nv nl fc xs bs) (hb : Below w.heap.size w w') : One w' B gf gv gl nv nl fc xs bs :=
  ⟨h.fr.below hb, h.vr.below hb h.vr.lt, h.lr.below hb h.lr.lt, h.xl, h.bl, h.bf, h.bv, h.bb, h.fv, h.fl, h.vl⟩
theorem One.more {w : World} {B B' gf gv gl nv nl : Nat} {fc : Array Value} {xs : List Int} {bs : List Bool} (h : One w B gf gv gl nv nl fc xs bs) (hB : B' ≤ B) : One w B' gf gv gl nv nl fc xs bs :=
  ⟨h.fr, h.vr, h.lr, h.xl, h.bl, by have := h.bf; omega, by have := h.bv; omega, by have := h.bb; omega, h.fv, h.fl, h.vl⟩
/-- It stays where just other blocks change. -/
theorem One.kept {w w' : World} {B gf gv gl nv nl : Nat} {fc : Array Value} {xs : List Int} {bs : List Bool} (h : One w B gf gv gl nv nl fc xs bs) (hk : ∀ k, B ≤ k → k < w.heap.size → w'.heap[k]? = w.heap[k]?) : One w' B gf gv gl nv nl fc xs bs := by
  refine ⟨(hk gf h.bf h.fr.lt).trans h.fr, ?_, ?_, h.xl, h.bl, h.bf, h.bv, h.bb, h.fv, h.fl, h.vl⟩
  · have hl := h.vr.lt
    obtain ⟨cs, h1, h2, h3⟩ := h.vr
    exact ⟨cs, (hk gv h.bv hl).trans h1, h2, h3⟩
  · have hl := h.lr.lt
    obtain ⟨cs, h1, h2, h3⟩ := h.lr
    exact ⟨cs, (hk gl h.bb hl).trans h1, h2, h3⟩
/-- The new frame, a new machine. -/
def fr0 (xs : List Int) (bs : List Bool) : Fr := ⟨0, 0, 0, [], xs, bs, 0, 0, 0, 1, false⟩
def mc0 (xs : List Int) (bs : List Bool) : Mc := ⟨[fr0 xs bs], [], 0, 0, 0, 1, []⟩
theorem One.isMc {w : World} {B gf gv gl nv nl : Nat} {xs : List Int} {bs : List Bool} (h : One w B gf gv gl nv nl #[.int .i64 0, .int .i64 0, .int .i64 0, .slice none 0 0, .slice (some ⟨gv, 0, none⟩) nv nv, .slice (some ⟨gl, 0, none⟩) nl nl, .int .i64 0, .int .i64 0, .int .i64 0, .int .i64 1, .bool false] xs bs) : IsMc w w.heap.size (mc0 xs bs) (some ⟨gf, 0, none⟩) 1 none 0 none 0 := by
  have hf : IsFr w w.heap.size (fr0 xs bs) none 0 (some ⟨gv, 0, none⟩) nv (some ⟨gl, 0, none⟩) nl := ⟨⟨rfl, fun h => absurd h (by omega)⟩, h.vr.reads h.xl, ⟨h.bl, h.lr.reads (by simp [h.bl])⟩⟩
  refine ⟨⟨rfl, fun _ => ⟨gf, 0, rfl, h.fr.lt, fun j s hs => ?_⟩⟩, ⟨rfl, fun h => absurd h (by omega)⟩, ⟨rfl, rfl, fun h => absurd h (by omega)⟩⟩
  have hj : j = 0 := by have := (List.getElem?_eq_some_iff.1 hs).1; simp [mc0] at this; omega
  subst hj
  have hs' : fr0 xs bs = s := by simpa [mc0] using hs
  subst hs'
  refine ⟨none, 0, 0, some ⟨gv, 0, none⟩, nv, nv, some ⟨gl, 0, none⟩, nl, nl, fun i u hu => ?_, hf⟩
  have hc := h.fr.cell i
  rw [show 0 + 0 * 11 + i = i by omega, hc, ← hu]
  simp [frL, fr0]
theorem small0 {xs : List Int} {bs : List Bool} (h1 : xs.length ≤ 1048576) (h2 : bs.length ≤ 1048576) : SmallMc (mc0 xs bs) := by
  refine ⟨by simp [mc0], fun x hx => ?_, by simp [mc0], by simp [mc0]⟩
  have hx' : x = fr0 xs bs := by simpa [mc0] using hx
  subst hx'
  exact ⟨by simp [fr0], h1, h2⟩
theorem eqVm_one {w : World} {B B' gf gv gl gf' gv' gl' nv nl : Nat} {xs : List Int} {bs : List Bool} (h : One w B gf gv gl nv nl #[.int .i64 0, .int .i64 0, .int .i64 0, .slice none 0 0, .slice (some ⟨gv, 0, none⟩) nv nv, .slice (some ⟨gl, 0, none⟩) nl nl, .int .i64 0, .int .i64 0, .int .i64 0, .int .i64 1, .bool false] xs bs) (h' : One w B' gf' gv' gl' nv nl #[.int .i64 0, .int .i64 0, .int .i64 0, .slice none 0 0, .slice (some ⟨gv', 0, none⟩) nv nv, .slice (some ⟨gl', 0, none⟩) nl nl, .int .i64 0, .int .i64 0, .int .i64 0, .int .i64 1, .bool false] xs bs) (h1 : nv ≤ 1048576) (h2 : nl ≤ 1048576) :
    Calls Tryd.prog 8 #[.agg #[.slice (some ⟨gf, 0, none⟩) 1 1, .slice none 0 0, .int .i64 0, .int .i64 0, .int .i64 0, .int .i64 1, .slice none 0 0], .agg #[.slice (some ⟨gf', 0, none⟩) 1 1, .slice none 0 0, .int .i64 0, .int .i64 0, .int .i64 0, .int .i64 1, .slice none 0 0]] w fun e w' => e = .returned (.bool true) ∧ Below w.heap.size w w' :=
  eqMc_same (mc0 xs bs) _ 1 1 none 0 0 none 0 0 _ 1 none 0 none 0 w h.isMc h'.isMc (small0 (by rw [h.xl]; exact h1) (by rw [h.bl]; exact h2))

set_option maxHeartbeats 400000 in
theorem markInt_nil (a : Int) (w : World) : Calls Tryd.prog 25 #[.slice none 0 0, .int .i64 a] w fun e w' => e = .returned (.int .i64 a) ∧ w = w' := by
  go_enter Tryd.func25, Tryd.ntmps25
  go_wp2
  refine wp_loop_rounds 1 ?_
  rw [rounds_succ]
  go_wp2
  go_ret
  exact ⟨rfl, rfl⟩

set_option maxHeartbeats 400000 in
theorem heldInt_nil (a : Int) (w : World) : Calls Tryd.prog 28 #[.slice none 0 0, .int .i64 a] w fun e w' => e = .returned (.int .i64 a) ∧ w = w' := by
  go_enter Tryd.func28, Tryd.ntmps28
  go_wp2
  refine wp_loop_rounds 1 ?_
  rw [rounds_succ]
  go_wp2
  go_ret
  exact ⟨rfl, rfl⟩

set_option maxHeartbeats 400000 in
theorem markNote_nil (a : Int) (w : World) : Calls Tryd.prog 26 #[.slice none 0 0, .int .i64 a] w fun e w' => e = .returned (.int .i64 a) ∧ w = w' := by
  go_enter Tryd.func26, Tryd.ntmps26
  go_wp2
  refine wp_loop_rounds 1 ?_
  rw [rounds_succ]
  go_wp2
  go_ret
  exact ⟨rfl, rfl⟩

set_option maxHeartbeats 400000 in
theorem heldNote_nil (a : Int) (w : World) : Calls Tryd.prog 29 #[.slice none 0 0, .int .i64 a] w fun e w' => e = .returned (.int .i64 a) ∧ w = w' := by
  go_enter Tryd.func29, Tryd.ntmps29
  go_wp2
  refine wp_loop_rounds 1 ?_
  rw [rounds_succ]
  go_wp2
  go_ret
  exact ⟨rfl, rfl⟩

set_option maxHeartbeats 400000 in
theorem markFrame_nil (a : Int) (w : World) : Calls Tryd.prog 24 #[.slice none 0 0, .int .i64 a] w fun e w' => e = .returned (.int .i64 a) ∧ w = w' := by
  go_enter Tryd.func24, Tryd.ntmps24
  go_wp2
  refine wp_loop_rounds 1 ?_
  rw [rounds_succ]
  go_wp2
  go_ret
  exact ⟨rfl, rfl⟩

set_option maxHeartbeats 400000 in
theorem heldFrame_nil (a : Int) (w : World) : Calls Tryd.prog 27 #[.slice none 0 0, .int .i64 a] w fun e w' => e = .returned (.int .i64 a) ∧ w = w' := by
  go_enter Tryd.func27, Tryd.ntmps27
  go_wp2
  refine wp_loop_rounds 1 ?_
  rw [rounds_succ]
  go_wp2
  go_ret
  exact ⟨rfl, rfl⟩

theorem Room.off {w : World} {g g' : Nat} {t : TypeId} {c : Nat} {k : IntKind} {xs : List Int} (h : Room w g t c k xs) (hne : g ≠ g') (i : Nat) (v : Value) : Room (w.setCell ⟨g', i, none⟩ v) g t c k xs := by
  obtain ⟨cs, h1, h2, h3⟩ := h
  exact ⟨cs, (Below.heap_setCell _ _ _ _ hne).trans h1, h2, h3⟩
theorem RoomV.off {w : World} {g g' : Nat} {t : TypeId} {c : Nat} {vs : List Value} (h : RoomV w g t c vs) (hne : g ≠ g') (i : Nat) (v : Value) : RoomV (w.setCell ⟨g', i, none⟩ v) g t c vs := by
  obtain ⟨cs, h1, h2, h3⟩ := h
  exact ⟨cs, (Below.heap_setCell _ _ _ _ hne).trans h1, h2, h3⟩
theorem Room.grow {w w' : World} {g g' : Nat} {t : TypeId} {c : Nat} {k : IntKind} {xs : List Int} (h : Room w g t c k xs) (hg : w.grownBy w' (some g')) (hne : g ≠ g') : Room w' g t c k xs := by
  have hl := h.lt
  obtain ⟨cs, h1, h2, h3⟩ := h
  exact ⟨cs, (hg.block g hl (fun e => hne (by injection e))).trans h1, h2, h3⟩
theorem RoomV.grow {w w' : World} {g g' : Nat} {t : TypeId} {c : Nat} {vs : List Value} (h : RoomV w g t c vs) (hg : w.grownBy w' (some g')) (hne : g ≠ g') : RoomV w' g t c vs := by
  have hl := h.lt
  obtain ⟨cs, h1, h2, h3⟩ := h
  exact ⟨cs, (hg.block g hl (fun e => hne (by injection e))).trans h1, h2, h3⟩
theorem Keep.grow {w w' : World} {g g' : Nat} {cs : Array Value} {t : TypeId} (h : Keep w g cs t) (hg : w.grownBy w' (some g')) (hne : g ≠ g') : Keep w' g cs t :=
  (hg.block g h.lt (fun e => hne (by injection e))).trans h
theorem below_grown {w w' : World} {B g : Nat} (h : w.grownBy w' (some g)) (hB : B ≤ g) (hg : g < w.heap.size) : Below B w w' :=
  ⟨h.os, h.tape, h.output, h.size, fun i hi => h.block i (by omega) (fun e => by injection e with e; omega)⟩
theorem RN.of_own {w : World} {B g n : Nat} {xs : List Int} (h : Room w g 3 n .i64 xs) (hB : B ≤ g) (hx : xs.length = n) (hc : n ≤ 1048576) : RN w B 3 1 (.slice (some ⟨g, 0, none⟩) n n) n xs :=
  RN.of_room (by rw [Nat.mul_one]; exact h) hB (by rw [Nat.mul_one]; exact hx) (Nat.le_refl _) (by unfold maxLen; omega)
theorem RN.own_room {w : World} {B g n : Nat} {xs : List Int} (h : RN w B 3 1 (.slice (some ⟨g, 0, none⟩) n n) n xs) : Room w g 3 n .i64 xs := by
  rcases h.to_room with ⟨h1, _⟩ | ⟨g', c, hv, _, hr, _, _⟩
  · cases h1
  · injection hv with h1 _ h3
    injection h1 with h1
    injection h1 with h1
    subst h1 h3
    rwa [Nat.mul_one] at hr

set_option maxHeartbeats 2000000 in
set_option maxRecDepth 100000 in
theorem markFrame_one {B gf gv gl nv nl : Nat} {fc : Array Value} {xs : List Int} {bs : List Bool} (a0 a1 a2 a6 a7 a8 a9 : Int) (b : Bool) (hfc : fc = #[.int .i64 a0, .int .i64 a1, .int .i64 a2, .slice none 0 0, .slice (some ⟨gv, 0, none⟩) nv nv, .slice (some ⟨gl, 0, none⟩) nl nl, .int .i64 a6, .int .i64 a7, .int .i64 a8, .int .i64 a9, .bool b]) (w : World) (h : One w B gf gv gl nv nl fc xs bs) (h1 : nv ≤ 1048576) (h2 : nl ≤ 1048576) :
    Calls Tryd.prog 24 #[.slice (some ⟨gf, 0, none⟩) 1 1, .int .i64 1] w fun e w' => e = .returned (.int .i64 (4 + (nv : Int) + (nl : Int) + 1 + 1 + 1 + 1 + 1)) ∧ One w' B gf gv gl nv nl #[.int .i64 1, .int .i64 2, .int .i64 3, .slice none 0 0, .slice (some ⟨gv, 0, none⟩) nv nv, .slice (some ⟨gl, 0, none⟩) nl nl, .int .i64 (4 + (nv : Int) + (nl : Int)), .int .i64 (4 + (nv : Int) + (nl : Int) + 1), .int .i64 (4 + (nv : Int) + (nl : Int) + 1 + 1), .int .i64 (4 + (nv : Int) + (nl : Int) + 1 + 1 + 1), .bool ((4 + (nv : Int) + (nl : Int) + 1 + 1 + 1 + 1) % 3 == 0)] (upf 4 nv) (thf (4 + (nv : Int)) nl) ∧ Below B w w' ∧ ∀ k, k ≠ gf → k ≠ gv → k ≠ gl → k < w.heap.size → w'.heap[k]? = w.heap[k]? := by
  subst hfc
  obtain ⟨hf, hv, hl, xl, bl, bf, bv, bb, fv, fl, vl⟩ := h
  go_enter Tryd.func24, Tryd.ntmps24
  go_wp2
  refine wp_loop_rounds 2 ?_
  rw [rounds_succ]
  have x0 := hf.cell 0
  have fx0 := hf.frozen 0
  have x1 := hf.cell 1
  have fx1 := hf.frozen 1
  have x2 := hf.cell 2
  have fx2 := hf.frozen 2
  have x3 := hf.cell 3
  have fx3 := hf.frozen 3
  have x4 := hf.cell 4
  have fx4 := hf.frozen 4
  have x5 := hf.cell 5
  have fx5 := hf.frozen 5
  have x6 := hf.cell 6
  have fx6 := hf.frozen 6
  have x7 := hf.cell 7
  have fx7 := hf.frozen 7
  have x8 := hf.cell 8
  have fx8 := hf.frozen 8
  have x9 := hf.cell 9
  have fx9 := hf.frozen 9
  have x10 := hf.cell 10
  have fx10 := hf.frozen 10
  simp at x0 x1 x2 x3 x4 x5 x6 x7 x8 x9 x10
  have hf1 : Keep (((w.setCell ⟨gf, 0, none⟩ (.int .i64 1)).setCell ⟨gf, 1, none⟩ (.int .i64 2)).setCell ⟨gf, 2, none⟩ (.int .i64 3)) gf #[.int .i64 1, .int .i64 2, .int .i64 3, .slice none 0 0, .slice (some ⟨gv, 0, none⟩) nv nv, .slice (some ⟨gl, 0, none⟩) nl nl, .int .i64 a6, .int .i64 a7, .int .i64 a8, .int .i64 a9, .bool b] 48 := ((hf.set 0 (.int .i64 1)).set 1 (.int .i64 2)).set 2 (.int .i64 3)
  have hv1 := ((hv.off (Ne.symm fv) 0 (.int .i64 1)).off (Ne.symm fv) 1 (.int .i64 2)).off (Ne.symm fv) 2 (.int .i64 3)
  have hl1 := ((hl.off (Ne.symm fl) 0 (.int .i64 1)).off (Ne.symm fl) 1 (.int .i64 2)).off (Ne.symm fl) 2 (.int .i64 3)
  have hb1 := (((Below.refl B w).setCell (p := ⟨gf, 0, none⟩) bf (.int .i64 1)).setCell (p := ⟨gf, 1, none⟩) bf (.int .i64 2)).setCell (p := ⟨gf, 2, none⟩) bf (.int .i64 3)
  have HO1 := put (show ∀ k, k ≠ gf → (((w.setCell ⟨gf, 0, none⟩ (.int .i64 1)).setCell ⟨gf, 1, none⟩ (.int .i64 2)).setCell ⟨gf, 2, none⟩ (.int .i64 3)).heap[k]? = w.heap[k]? from fun k hk => ((Below.heap_setCell _ _ _ _ hk).trans (Below.heap_setCell _ _ _ _ hk)).trans (Below.heap_setCell _ _ _ _ hk))
  have hz1 : (((w.setCell ⟨gf, 0, none⟩ (.int .i64 1)).setCell ⟨gf, 1, none⟩ (.int .i64 2)).setCell ⟨gf, 2, none⟩ (.int .i64 3)).heap.size = w.heap.size := by simp
  go_wp2_with fail
  generalize ((w.setCell ⟨gf, 0, none⟩ (.int .i64 1)).setCell ⟨gf, 1, none⟩ (.int .i64 2)).setCell ⟨gf, 2, none⟩ (.int .i64 3) = w1 at hf1 hv1 hl1 hb1 HO1 hz1 ⊢
  have HZ1 := put hz1
  clear hz1
  clear x0 fx0 x1 fx1 x2 fx2 x3 fx3 x4 fx4 x5 fx5 x6 fx6 x7 fx7 x8 fx8 x9 fx9 x10 fx10
  refine (markInt_nil 4 w1).mono ?_
  rintro e w1 ⟨rfl, rfl⟩
  have y4 := hf1.cell 4
  simp at y4
  go_wp2_with fail
  clear y4
  refine (markInt_own (.slice (some ⟨gv, 0, none⟩) nv nv) nv xs B 4 w1 (RN.of_own hv1 bv xl h1) h1 (by omega) (by omega)).mono ?_
  rintro e w2 ⟨rfl, hr2, hg2⟩
  have hg2' : w1.grownBy w2 (some gv) := hg2
  have hf2 := hf1.grow hg2' fv
  have hl2 := hl1.grow hg2' (Ne.symm vl)
  have hv2 := hr2.own_room
  have hb2 := hb1.trans (below_grown hg2' bv hv1.lt)
  have HO2 := put (show ∀ k, k ≠ gv → k < w1.heap.size → w2.heap[k]? = w1.heap[k]? from fun k hne hk => hg2'.block k hk (fun e => hne (by injection e)))
  have HZ2 := put hg2'.size
  clear hf1 hl1 hv1 hb1 hr2 hg2 hg2'
  have y5 := hf2.cell 5
  simp at y5
  go_wp2_with fail
  clear y5
  refine (markBool_own gl nl bs (4 + (nv : Int)) w2 hl2 h2 (by omega) (by omega)).mono ?_
  rintro e w3 ⟨rfl, hl3, hg3⟩
  have hf3 := hf2.grow hg3 fl
  have hv3 := hv2.grow hg3 vl
  have hb3 := hb2.trans (below_grown hg3 bb hl2.lt)
  have HO3 := put (show ∀ k, k ≠ gl → k < w2.heap.size → w3.heap[k]? = w2.heap[k]? from fun k hne hk => hg3.block k hk (fun e => hne (by injection e)))
  clear hf2 hl2 hv2 hb2 hg3
  have x0 := hf3.cell 0
  have fx0 := hf3.frozen 0
  have x1 := hf3.cell 1
  have fx1 := hf3.frozen 1
  have x2 := hf3.cell 2
  have fx2 := hf3.frozen 2
  have x3 := hf3.cell 3
  have fx3 := hf3.frozen 3
  have x4 := hf3.cell 4
  have fx4 := hf3.frozen 4
  have x5 := hf3.cell 5
  have fx5 := hf3.frozen 5
  have x6 := hf3.cell 6
  have fx6 := hf3.frozen 6
  have x7 := hf3.cell 7
  have fx7 := hf3.frozen 7
  have x8 := hf3.cell 8
  have fx8 := hf3.frozen 8
  have x9 := hf3.cell 9
  have fx9 := hf3.frozen 9
  have x10 := hf3.cell 10
  have fx10 := hf3.frozen 10
  simp at x0 x1 x2 x3 x4 x5 x6 x7 x8 x9 x10
  have hf4 := hf3
  have hv4 := hv3
  have hl4 := hl3
  have hb4 := hb3
  replace hf4 := hf4.set 6 (.int .i64 (4 + (nv : Int) + (nl : Int)))
  replace hv4 := hv4.off (Ne.symm fv) 6 (.int .i64 (4 + (nv : Int) + (nl : Int)))
  replace hl4 := hl4.off (Ne.symm fl) 6 (.int .i64 (4 + (nv : Int) + (nl : Int)))
  replace hb4 := hb4.setCell (p := ⟨gf, 6, none⟩) bf (.int .i64 (4 + (nv : Int) + (nl : Int)))
  replace hf4 := hf4.set 7 (.int .i64 (4 + (nv : Int) + (nl : Int) + 1))
  replace hv4 := hv4.off (Ne.symm fv) 7 (.int .i64 (4 + (nv : Int) + (nl : Int) + 1))
  replace hl4 := hl4.off (Ne.symm fl) 7 (.int .i64 (4 + (nv : Int) + (nl : Int) + 1))
  replace hb4 := hb4.setCell (p := ⟨gf, 7, none⟩) bf (.int .i64 (4 + (nv : Int) + (nl : Int) + 1))
  replace hf4 := hf4.set 8 (.int .i64 (4 + (nv : Int) + (nl : Int) + 1 + 1))
  replace hv4 := hv4.off (Ne.symm fv) 8 (.int .i64 (4 + (nv : Int) + (nl : Int) + 1 + 1))
  replace hl4 := hl4.off (Ne.symm fl) 8 (.int .i64 (4 + (nv : Int) + (nl : Int) + 1 + 1))
  replace hb4 := hb4.setCell (p := ⟨gf, 8, none⟩) bf (.int .i64 (4 + (nv : Int) + (nl : Int) + 1 + 1))
  replace hf4 := hf4.set 9 (.int .i64 (4 + (nv : Int) + (nl : Int) + 1 + 1 + 1))
  replace hv4 := hv4.off (Ne.symm fv) 9 (.int .i64 (4 + (nv : Int) + (nl : Int) + 1 + 1 + 1))
  replace hl4 := hl4.off (Ne.symm fl) 9 (.int .i64 (4 + (nv : Int) + (nl : Int) + 1 + 1 + 1))
  replace hb4 := hb4.setCell (p := ⟨gf, 9, none⟩) bf (.int .i64 (4 + (nv : Int) + (nl : Int) + 1 + 1 + 1))
  replace hf4 := hf4.set 10 (.bool ((4 + (nv : Int) + (nl : Int) + 1 + 1 + 1 + 1) % 3 == 0))
  replace hv4 := hv4.off (Ne.symm fv) 10 (.bool ((4 + (nv : Int) + (nl : Int) + 1 + 1 + 1 + 1) % 3 == 0))
  replace hl4 := hl4.off (Ne.symm fl) 10 (.bool ((4 + (nv : Int) + (nl : Int) + 1 + 1 + 1 + 1) % 3 == 0))
  replace hb4 := hb4.setCell (p := ⟨gf, 10, none⟩) bf (.bool ((4 + (nv : Int) + (nl : Int) + 1 + 1 + 1 + 1) % 3 == 0))
  have H4 := put hf4
  have V4 := put hv4
  have L4 := put hl4
  have B4 := put hb4
  clear hf4 hv4 hl4 hb4 hf3 hv3 hl3 hb3
  go_wp2
  rw [rounds_succ]
  go_wp2
  go_ret
  exact ⟨rfl, ⟨H4.out, V4.out, L4.out, upf_length _ _, thf_length _ _, bf, bv, bb, fv, fl, vl⟩, B4.out, fun k k1 k2 k3 hk => ((((((Below.heap_setCell _ _ _ _ k1).trans (Below.heap_setCell _ _ _ _ k1)).trans (Below.heap_setCell _ _ _ _ k1)).trans (Below.heap_setCell _ _ _ _ k1)).trans (Below.heap_setCell _ _ _ _ k1)).trans (HO3.out k k3 (by have := HZ1.out; have := HZ2.out; omega))).trans ((HO2.out k k2 (by have := HZ1.out; omega)).trans (HO1.out k k1))⟩

set_option maxHeartbeats 2000000 in
set_option maxRecDepth 100000 in
theorem heldFrame_one {B gf gv gl nv nl : Nat} (w : World) (h : One w B gf gv gl nv nl #[.int .i64 1, .int .i64 2, .int .i64 3, .slice none 0 0, .slice (some ⟨gv, 0, none⟩) nv nv, .slice (some ⟨gl, 0, none⟩) nl nl, .int .i64 (4 + (nv : Int) + (nl : Int)), .int .i64 (4 + (nv : Int) + (nl : Int) + 1), .int .i64 (4 + (nv : Int) + (nl : Int) + 1 + 1), .int .i64 (4 + (nv : Int) + (nl : Int) + 1 + 1 + 1), .bool ((4 + (nv : Int) + (nl : Int) + 1 + 1 + 1 + 1) % 3 == 0)] (upf 4 nv) (thf (4 + (nv : Int)) nl)) (h1 : nv ≤ 1048576) (h2 : nl ≤ 1048576) :
    Calls Tryd.prog 27 #[.slice (some ⟨gf, 0, none⟩) 1 1, .int .i64 1] w fun e w' => e = .returned (.int .i64 (4 + (nv : Int) + (nl : Int) + 1 + 1 + 1 + 1 + 1)) ∧ Below w.heap.size w w' := by
  obtain ⟨hf, hv, hl, xl, bl, bf, bv, bb, fv, fl, vl⟩ := h
  have p0 : ¬ (4 + (nv : Int)) < 0 := by omega
  have p1 : ¬ (4 + (nv : Int) + (nl : Int)) < 0 := by omega
  go_enter Tryd.func27, Tryd.ntmps27
  go_wp2
  refine wp_loop_rounds 2 ?_
  rw [rounds_succ]
  have x0 := hf.cell 0
  have fx0 := hf.frozen 0
  have x1 := hf.cell 1
  have fx1 := hf.frozen 1
  have x2 := hf.cell 2
  have fx2 := hf.frozen 2
  have x3 := hf.cell 3
  have fx3 := hf.frozen 3
  have x4 := hf.cell 4
  have fx4 := hf.frozen 4
  have x5 := hf.cell 5
  have fx5 := hf.frozen 5
  have x6 := hf.cell 6
  have fx6 := hf.frozen 6
  have x7 := hf.cell 7
  have fx7 := hf.frozen 7
  have x8 := hf.cell 8
  have fx8 := hf.frozen 8
  have x9 := hf.cell 9
  have fx9 := hf.frozen 9
  have x10 := hf.cell 10
  have fx10 := hf.frozen 10
  simp at x0 x1 x2 x3 x4 x5 x6 x7 x8 x9 x10
  go_wp2_with fail
  refine (heldInt_nil 4 w).mono ?_
  rintro e w1 ⟨rfl, rfl⟩
  go_wp2_with fail
  refine (heldInt_own (.slice (some ⟨gv, 0, none⟩) nv nv) nv B 4 w (RN.of_own hv bv xl h1) h1 (by omega) (by omega)).mono ?_
  rintro e w1 ⟨rfl, rfl⟩
  go_wp2_with fail
  refine (heldBool_own gl nl (4 + (nv : Int)) w hl h2 (by omega) (by omega)).mono ?_
  rintro e w1 ⟨rfl, q, rfl⟩
  have hf1 : Keep (w.drewN q) gf #[.int .i64 1, .int .i64 2, .int .i64 3, .slice none 0 0, .slice (some ⟨gv, 0, none⟩) nv nv, .slice (some ⟨gl, 0, none⟩) nl nl, .int .i64 (4 + (nv : Int) + (nl : Int)), .int .i64 (4 + (nv : Int) + (nl : Int) + 1), .int .i64 (4 + (nv : Int) + (nl : Int) + 1 + 1), .int .i64 (4 + (nv : Int) + (nl : Int) + 1 + 1 + 1), .bool ((4 + (nv : Int) + (nl : Int) + 1 + 1 + 1 + 1) % 3 == 0)] 48 := hf
  have hb1 : Below w.heap.size w (w.drewN q) := below_drewN (Below.refl _ _) q
  clear x0 fx0 x1 fx1 x2 fx2 x3 fx3 x4 fx4 x5 fx5 x6 fx6 x7 fx7 x8 fx8 x9 fx9 x10 fx10
  generalize w.drewN q = w1 at hf1 hb1 ⊢
  have x0 := hf1.cell 0
  have fx0 := hf1.frozen 0
  have x1 := hf1.cell 1
  have fx1 := hf1.frozen 1
  have x2 := hf1.cell 2
  have fx2 := hf1.frozen 2
  have x3 := hf1.cell 3
  have fx3 := hf1.frozen 3
  have x4 := hf1.cell 4
  have fx4 := hf1.frozen 4
  have x5 := hf1.cell 5
  have fx5 := hf1.frozen 5
  have x6 := hf1.cell 6
  have fx6 := hf1.frozen 6
  have x7 := hf1.cell 7
  have fx7 := hf1.frozen 7
  have x8 := hf1.cell 8
  have fx8 := hf1.frozen 8
  have x9 := hf1.cell 9
  have fx9 := hf1.frozen 9
  have x10 := hf1.cell 10
  have fx10 := hf1.frozen 10
  simp at x0 x1 x2 x3 x4 x5 x6 x7 x8 x9 x10
  go_wp2
  rw [rounds_succ]
  go_wp2
  go_ret
  exact ⟨rfl, hb1⟩

set_option maxHeartbeats 1000000 in
theorem markVm_one {B gf gv gl nv nl : Nat} {xs : List Int} {bs : List Bool} (w : World) (h : One w B gf gv gl nv nl #[.int .i64 0, .int .i64 0, .int .i64 0, .slice none 0 0, .slice (some ⟨gv, 0, none⟩) nv nv, .slice (some ⟨gl, 0, none⟩) nl nl, .int .i64 0, .int .i64 0, .int .i64 0, .int .i64 1, .bool false] xs bs) (hB : B ≤ w.heap.size) (h1 : nv ≤ 1048576) (h2 : nl ≤ 1048576) :
    Calls Tryd.prog 11 #[.agg #[.slice (some ⟨gf, 0, none⟩) 1 1, .slice none 0 0, .int .i64 0, .int .i64 0, .int .i64 0, .int .i64 1, .slice none 0 0], .int .i64 1] w fun e w' => e = .returned (.int .i64 (4 + (nv : Int) + (nl : Int) + 1 + 1 + 1 + 1 + 1)) ∧ One w' B gf gv gl nv nl #[.int .i64 1, .int .i64 2, .int .i64 3, .slice none 0 0, .slice (some ⟨gv, 0, none⟩) nv nv, .slice (some ⟨gl, 0, none⟩) nl nl, .int .i64 (4 + (nv : Int) + (nl : Int)), .int .i64 (4 + (nv : Int) + (nl : Int) + 1), .int .i64 (4 + (nv : Int) + (nl : Int) + 1 + 1), .int .i64 (4 + (nv : Int) + (nl : Int) + 1 + 1 + 1), .bool ((4 + (nv : Int) + (nl : Int) + 1 + 1 + 1 + 1) % 3 == 0)] (upf 4 nv) (thf (4 + (nv : Int)) nl) ∧ Below B w w' ∧ ∀ k, k ≠ gf → k ≠ gv → k ≠ gl → k < w.heap.size → w'.heap[k]? = w.heap[k]? := by
  have hb0 : Below w.heap.size w (w.alloc (.cells #[.slice (some ⟨gf, 0, none⟩) 1 1, .slice none 0 0, .int .i64 0, .int .i64 0, .int .i64 0, .int .i64 1, .slice none 0 0] 30)) := (Below.refl _ _).alloc (Nat.le_refl _) _
  have hk0 := Keep.new w #[.slice (some ⟨gf, 0, none⟩) 1 1, .slice none 0 0, .int .i64 0, .int .i64 0, .int .i64 0, .int .i64 1, .slice none 0 0] 30
  have ho := h.below hb0
  have l1 := h.fr.lt
  have l2 := h.vr.lt
  have l3 := h.lr.lt
  clear h
  go_enter Tryd.func11, Tryd.ntmps11
  go_wp2_with fail
  generalize w.alloc (.cells #[.slice (some ⟨gf, 0, none⟩) 1 1, .slice none 0 0, .int .i64 0, .int .i64 0, .int .i64 0, .int .i64 1, .slice none 0 0] 30) = W0 at * 
  refine (markFrame_one 0 0 0 0 0 0 1 false rfl W0 ho h1 h2).mono ?_
  rintro e w1 ⟨rfl, ho1, hb1, hO⟩
  have HK1 : Keep w1 w.heap.size #[.slice (some ⟨gf, 0, none⟩) 1 1, .slice none 0 0, .int .i64 0, .int .i64 0, .int .i64 0, .int .i64 1, .slice none 0 0] 30 := (hO w.heap.size (by omega) (by omega) (by omega) hk0.lt).trans hk0
  have HO := put hO
  have HO1 := put ho1
  have HB1 := put hb1
  have hW := hb0.size
  clear hO ho1 hb1
  have q := HK1.cell 1
  simp at q
  go_wp2_with fail
  clear q
  refine (markInt_nil _ _).mono ?_
  rintro e w2 ⟨rfl, rfl⟩
  have q := HK1.cell 6
  simp at q
  go_wp2_with fail
  clear q
  refine (markNote_nil _ _).mono ?_
  rintro e w2 ⟨rfl, rfl⟩
  go_wp2
  go_ret
  exact ⟨rfl, HO1.out, (hb0.mono hB).trans HB1.out, fun k k1 k2 k3 hk => (HO.out k k1 k2 k3 (by omega)).trans (hb0.block k hk)⟩

set_option maxHeartbeats 1000000 in
theorem heldVm_one {B gf gv gl nv nl : Nat} (w : World) (h : One w B gf gv gl nv nl #[.int .i64 1, .int .i64 2, .int .i64 3, .slice none 0 0, .slice (some ⟨gv, 0, none⟩) nv nv, .slice (some ⟨gl, 0, none⟩) nl nl, .int .i64 (4 + (nv : Int) + (nl : Int)), .int .i64 (4 + (nv : Int) + (nl : Int) + 1), .int .i64 (4 + (nv : Int) + (nl : Int) + 1 + 1), .int .i64 (4 + (nv : Int) + (nl : Int) + 1 + 1 + 1), .bool ((4 + (nv : Int) + (nl : Int) + 1 + 1 + 1 + 1) % 3 == 0)] (upf 4 nv) (thf (4 + (nv : Int)) nl)) (h1 : nv ≤ 1048576) (h2 : nl ≤ 1048576) :
    Calls Tryd.prog 12 #[.agg #[.slice (some ⟨gf, 0, none⟩) 1 1, .slice none 0 0, .int .i64 0, .int .i64 0, .int .i64 0, .int .i64 1, .slice none 0 0], .int .i64 1] w fun e w' => e = .returned (.int .i64 (4 + (nv : Int) + (nl : Int) + 1 + 1 + 1 + 1 + 1)) ∧ Below w.heap.size w w' := by
  have hb0 : Below w.heap.size w (w.alloc (.cells #[.slice (some ⟨gf, 0, none⟩) 1 1, .slice none 0 0, .int .i64 0, .int .i64 0, .int .i64 0, .int .i64 1, .slice none 0 0] 30)) := (Below.refl _ _).alloc (Nat.le_refl _) _
  have hk0 := Keep.new w #[.slice (some ⟨gf, 0, none⟩) 1 1, .slice none 0 0, .int .i64 0, .int .i64 0, .int .i64 0, .int .i64 1, .slice none 0 0] 30
  have ho := h.below hb0
  have p1 : ¬ (4 + (nv : Int) + (nl : Int) + 1 + 1 + 1 + 1 + 1) < 0 := by omega
  clear h
  go_enter Tryd.func12, Tryd.ntmps12
  go_wp2_with fail
  generalize w.alloc (.cells #[.slice (some ⟨gf, 0, none⟩) 1 1, .slice none 0 0, .int .i64 0, .int .i64 0, .int .i64 0, .int .i64 1, .slice none 0 0] 30) = W0 at * 
  refine (heldFrame_one W0 ho h1 h2).mono ?_
  rintro e w1 ⟨rfl, hb1⟩
  have HK1 := hk0.below hb1
  have HB1 := put (hb0.trans (hb1.mono hb0.size))
  clear hb1
  have q := HK1.cell 1
  simp at q
  go_wp2_with fail
  clear q
  refine (heldInt_nil _ _).mono ?_
  rintro e w2 ⟨rfl, rfl⟩
  have q := HK1.cell 6
  simp at q
  go_wp2_with fail
  clear q
  refine (heldNote_nil _ _).mono ?_
  rintro e w2 ⟨rfl, rfl⟩
  go_wp2
  go_ret
  exact ⟨rfl, HB1.out⟩

set_option maxHeartbeats 1000000 in
theorem markVm_zero (w : World) :
    Calls Tryd.prog 11 #[.agg #[.slice none 0 0, .slice none 0 0, .int .i64 0, .int .i64 0, .int .i64 0, .int .i64 0, .slice none 0 0], .int .i64 1] w fun e w' => e = .returned (.int .i64 (1)) ∧ Below w.heap.size w w' := by
  have hb0 : Below w.heap.size w (w.alloc (.cells #[.slice none 0 0, .slice none 0 0, .int .i64 0, .int .i64 0, .int .i64 0, .int .i64 0, .slice none 0 0] 30)) := (Below.refl _ _).alloc (Nat.le_refl _) _
  have hk0 := Keep.new w #[.slice none 0 0, .slice none 0 0, .int .i64 0, .int .i64 0, .int .i64 0, .int .i64 0, .slice none 0 0] 30
  go_enter Tryd.func11, Tryd.ntmps11
  go_wp2_with fail
  generalize w.alloc (.cells #[.slice none 0 0, .slice none 0 0, .int .i64 0, .int .i64 0, .int .i64 0, .int .i64 0, .slice none 0 0] 30) = W0 at * 
  refine (markFrame_nil 1 W0).mono ?_
  rintro e w1 ⟨rfl, rfl⟩
  have HK1 := hk0
  have q := HK1.cell 1
  simp at q
  go_wp2_with fail
  clear q
  refine (markInt_nil _ _).mono ?_
  rintro e w2 ⟨rfl, rfl⟩
  have q := HK1.cell 6
  simp at q
  go_wp2_with fail
  clear q
  refine (markNote_nil _ _).mono ?_
  rintro e w2 ⟨rfl, rfl⟩
  go_wp2
  go_ret
  exact ⟨rfl, hb0⟩

set_option maxHeartbeats 1000000 in
theorem heldVm_zero (w : World) :
    Calls Tryd.prog 12 #[.agg #[.slice none 0 0, .slice none 0 0, .int .i64 0, .int .i64 0, .int .i64 0, .int .i64 0, .slice none 0 0], .int .i64 1] w fun e w' => e = .returned (.int .i64 (1)) ∧ Below w.heap.size w w' := by
  have hb0 : Below w.heap.size w (w.alloc (.cells #[.slice none 0 0, .slice none 0 0, .int .i64 0, .int .i64 0, .int .i64 0, .int .i64 0, .slice none 0 0] 30)) := (Below.refl _ _).alloc (Nat.le_refl _) _
  have hk0 := Keep.new w #[.slice none 0 0, .slice none 0 0, .int .i64 0, .int .i64 0, .int .i64 0, .int .i64 0, .slice none 0 0] 30
  go_enter Tryd.func12, Tryd.ntmps12
  go_wp2_with fail
  generalize w.alloc (.cells #[.slice none 0 0, .slice none 0 0, .int .i64 0, .int .i64 0, .int .i64 0, .int .i64 0, .slice none 0 0] 30) = W0 at * 
  refine (heldFrame_nil 1 W0).mono ?_
  rintro e w1 ⟨rfl, rfl⟩
  have HK1 := hk0
  have q := HK1.cell 1
  simp at q
  go_wp2_with fail
  clear q
  refine (heldInt_nil _ _).mono ?_
  rintro e w2 ⟨rfl, rfl⟩
  have q := HK1.cell 6
  simp at q
  go_wp2_with fail
  clear q
  refine (heldNote_nil _ _).mono ?_
  rintro e w2 ⟨rfl, rfl⟩
  go_wp2
  go_ret
  exact ⟨rfl, hb0⟩

theorem eqVm_zero (w : World) : Calls Tryd.prog 8 #[.agg #[.slice none 0 0, .slice none 0 0, .int .i64 0, .int .i64 0, .int .i64 0, .int .i64 0, .slice none 0 0], .agg #[.slice none 0 0, .slice none 0 0, .int .i64 0, .int .i64 0, .int .i64 0, .int .i64 0, .slice none 0 0]] w fun e w' => e = .returned (.bool true) ∧ Below w.heap.size w w' :=
  eqMc_same ⟨[], [], 0, 0, 0, 0, []⟩ none 0 0 none 0 0 none 0 0 none 0 none 0 none 0 w ⟨⟨rfl, fun h => absurd h (by omega)⟩, ⟨rfl, fun h => absurd h (by omega)⟩, ⟨rfl, rfl, fun h => absurd h (by omega)⟩⟩ ⟨⟨rfl, fun h => absurd h (by omega)⟩, ⟨rfl, fun h => absurd h (by omega)⟩, ⟨rfl, rfl, fun h => absurd h (by omega)⟩⟩ ⟨by simp, by simp, by simp, by simp⟩

end Go.Proofs.YtcpjddkhclaafaaDoor

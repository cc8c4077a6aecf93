/-
  Whether a machine is about to raise a panic, as the reference has it: l9Raising.
-/
import Derived.Test.YtpbkkjiikhjanaaDoorJIr
namespace Go.Proofs.YtpbkkjiikhjanaaDoor
open Go.RowKit Go.Deep Exs Ht

set_option maxHeartbeats 4000000 in
set_option maxRecDepth 100000 in
theorem l9Raising_any (A : Option Addr) (n c : Nat) (cs : List Cd) (C : Option Addr) (m d : Nat) (fs : List Fr) (T2 : Option Addr) (m2 d2 : Nat) (trace : List Int) (T3 : Option Addr) (m3 d3 : Nat) (notes : List Row3) (used code value made : Int) (w : World) (hr : ReadsC w w.heap.size A n cs) (hf : ReadsFr w w.heap.size C m fs) (hs : ∀ f ∈ fs, SmallFr f) (hm : m ≤ 1048576) (hgv : gvB cs (⟨fs, trace, used, code, value, made, notes⟩ : Mc) = true) :
    Calls Tryd.prog 17 #[.agg #[.slice A n c], .agg #[.slice C m d, .slice T2 m2 d2, .int .i64 used, .int .i64 code, .int .i64 value, .int .i64 made, .slice T3 m3 d3]] w fun e w' => e = .returned (.bool (raiseM cs (⟨fs, trace, used, code, value, made, notes⟩ : Mc))) ∧ Below w.heap.size w w' := by
  by_cases hc : code = 0
  case neg =>
    have HN := put (raiseM_no (cs := cs) (m := (⟨fs, trace, used, code, value, made, notes⟩ : Mc)) hc)
    have bb : Below w.heap.size w ((w.alloc (.cells #[.slice A n c] 36)).alloc (.cells #[.slice C m d, .slice T2 m2 d2, .int .i64 used, .int .i64 code, .int .i64 value, .int .i64 made, .slice T3 m3 d3] 41)) := ((Below.refl _ _).alloc (Nat.le_refl _) _).alloc (by simp) _
    have b0 : (code != 0) = true := by simp [hc]
    clear hr hf hs hgv hc
    go_enter Tryd.func17, Tryd.ntmps17
    go_wp2
    go_ret
    exact ⟨ret_bool HN.out.symm, bb⟩
  subst hc
  obtain ⟨k, j, p, f, s, op, x, hk, hat, hfn, hpl, hsj, hz, h4, hans⟩ := raise_facts hgv rfl
  have HANS := put hans
  dsimp only at hk hat
  have hkm : m = k + 1 := by rw [← hf.1]; exact hk
  have hjn : j < n := by rw [← hr.1]; exact (List.getElem?_eq_some_iff.1 hsj).1
  obtain ⟨bC, oC, f', A1, n1, c1, A2, n2, c2, A3, n3, c3, rfl, hbC, e0, e1, e2, e3, e4, e5, e6, e7, e8, e9, e10, r0, hxf⟩ := hf.at_ (show k < m by omega)
  obtain rfl : f = f' := by have := hxf.out; rw [hat] at this; injection this
  have hs1 : n1 ≤ 1048576 := by have := (hs f (List.mem_of_getElem? hat)).1; rw [r0.pile.1] at this; exact this
  obtain ⟨ide, fn, pla, pile, vars, flags, result, mode, value', base, off⟩ := f
  dsimp only at hfn hpl h4 e0 e1 e2 e3 e4 e5 e6 e7 e8 e9 e10 HANS
  subst hfn hpl
  have HP0 := put (show Reads w w.heap.size .i64 A1 n1 pile from r0.pile)
  have H4 := put (show op = 4 → 0 < n1 from fun h => by have h1 := h4 h; have h2 := HP0.out.1; omega)
  obtain ⟨b, o, s', A4, n4, c4, A5, n5, c5, A6, n6, c6, rfl, hb', g0, g1, g2, g3, g4, r1, r2, r3, hx⟩ := hr.at_ hjn
  obtain rfl : s = s' := by have := hx.out; rw [hsj] at this; injection this with this
  have hpn : p < n5 := by rw [← r2.1]; exact (List.getElem?_eq_some_iff.1 hz).1
  obtain ⟨b5, o5, op', x', rfl, hb5, i0, i1, hxt⟩ := r2.at_ hpn
  obtain ⟨rfl, rfl⟩ : op = op' ∧ x = x' := by have := hxt.out; rw [hz] at this; injection this with this; injection this with h1 h2; exact ⟨h1, h2⟩
  have ba : Below w.heap.size w ((w.alloc (.cells #[.slice (some ⟨b, o, none⟩) n c] 36)).alloc (.cells #[.slice (some ⟨bC, oC, none⟩) m d, .slice T2 m2 d2, .int .i64 used, .int .i64 0, .int .i64 value, .int .i64 made, .slice T3 m3 d3] 41)) := ((Below.refl _ _).alloc (Nat.le_refl _) _).alloc (by simp) _
  have hb0 : Below w.heap.size w (((w.alloc (.cells #[.slice (some ⟨b, o, none⟩) n c] 36)).alloc (.cells #[.slice (some ⟨bC, oC, none⟩) m d, .slice T2 m2 d2, .int .i64 used, .int .i64 0, .int .i64 value, .int .i64 made, .slice T3 m3 d3] 41)).alloc (.cells #[.int .i64 ide, .int .i64 (j : Int), .int .i64 (p : Int), .slice A1 n1 c1, .slice A2 n2 c2, .slice A3 n3 c3, .int .i64 result, .int .i64 mode, .int .i64 value', .int .i64 base, .bool off] 58)) := ba.alloc ba.size _
  have q3 := (hb0.cell (p := ⟨b, o + j * 5 + 3, none⟩) hb').trans g3
  have z0 := (hb0.cell (p := ⟨b5, o5 + p * 2, none⟩) hb5).trans i0
  have z1 := (hb0.cell (p := ⟨b5, o5 + p * 2 + 1, none⟩) hb5).trans i1
  have v0 := (ba.cell (p := ⟨bC, oC + k * 11, none⟩) hbC).trans e0
  have v1 := (ba.cell (p := ⟨bC, oC + k * 11 + 1, none⟩) hbC).trans e1
  have v2 := (ba.cell (p := ⟨bC, oC + k * 11 + 2, none⟩) hbC).trans e2
  have v3 := (ba.cell (p := ⟨bC, oC + k * 11 + 3, none⟩) hbC).trans e3
  have v4 := (ba.cell (p := ⟨bC, oC + k * 11 + 4, none⟩) hbC).trans e4
  have v5 := (ba.cell (p := ⟨bC, oC + k * 11 + 5, none⟩) hbC).trans e5
  have v6 := (ba.cell (p := ⟨bC, oC + k * 11 + 6, none⟩) hbC).trans e6
  have v7 := (ba.cell (p := ⟨bC, oC + k * 11 + 7, none⟩) hbC).trans e7
  have v8 := (ba.cell (p := ⟨bC, oC + k * 11 + 8, none⟩) hbC).trans e8
  have v9 := (ba.cell (p := ⟨bC, oC + k * 11 + 9, none⟩) hbC).trans e9
  have v10 := (ba.cell (p := ⟨bC, oC + k * 11 + 10, none⟩) hbC).trans e10
  have hjI : (j : Int) < (n : Int) := by omega
  have hj0 : (0 : Int) ≤ (j : Int) := by omega
  have hpI : (p : Int) < (n5 : Int) := by omega
  have hp0 : (0 : Int) ≤ (p : Int) := by omega
  have hkI : (k : Int) < (m : Int) := by omega
  have hk0 : (0 : Int) ≤ (k : Int) := by omega
  have hwm : IntKind.i64.wrap ((m : Int) - 1) = (k : Int) := (IntWalk.i64_in _ ⟨by omega, by omega⟩).trans (by omega)
  have kx : Keep (((w.alloc (.cells #[.slice (some ⟨b, o, none⟩) n c] 36)).alloc (.cells #[.slice (some ⟨bC, oC, none⟩) m d, .slice T2 m2 d2, .int .i64 used, .int .i64 0, .int .i64 value, .int .i64 made, .slice T3 m3 d3] 41)).alloc (.cells #[.int .i64 ide, .int .i64 (j : Int), .int .i64 (p : Int), .slice A1 n1 c1, .slice A2 n2 c2, .slice A3 n3 c3, .int .i64 result, .int .i64 mode, .int .i64 value', .int .i64 base, .bool off] 58)) w.heap.size #[.slice (some ⟨b, o, none⟩) n c] 36 := ((Keep.new _ _ _).alloc _).alloc _
  have kf : Keep (((w.alloc (.cells #[.slice (some ⟨b, o, none⟩) n c] 36)).alloc (.cells #[.slice (some ⟨bC, oC, none⟩) m d, .slice T2 m2 d2, .int .i64 used, .int .i64 0, .int .i64 value, .int .i64 made, .slice T3 m3 d3] 41)).alloc (.cells #[.int .i64 ide, .int .i64 (j : Int), .int .i64 (p : Int), .slice A1 n1 c1, .slice A2 n2 c2, .slice A3 n3 c3, .int .i64 result, .int .i64 mode, .int .i64 value', .int .i64 base, .bool off] 58)) (w.heap.size + 1 + 1) #[.int .i64 ide, .int .i64 (j : Int), .int .i64 (p : Int), .slice A1 n1 c1, .slice A2 n2 c2, .slice A3 n3 c3, .int .i64 result, .int .i64 mode, .int .i64 value', .int .i64 base, .bool off] 58 := by
    have := Keep.new ((w.alloc (.cells #[.slice (some ⟨b, o, none⟩) n c] 36)).alloc (.cells #[.slice (some ⟨bC, oC, none⟩) m d, .slice T2 m2 d2, .int .i64 used, .int .i64 0, .int .i64 value, .int .i64 made, .slice T3 m3 d3] 41)) #[.int .i64 ide, .int .i64 (j : Int), .int .i64 (p : Int), .slice A1 n1 c1, .slice A2 n2 c2, .slice A3 n3 c3, .int .i64 result, .int .i64 mode, .int .i64 value', .int .i64 base, .bool off] 58
    rw [World.size_alloc, World.size_alloc] at this
    exact this
  have HBB := put hb'
  have HB5 := put hb5
  clear hr hf hs hgv hk hat hkm hsj hz h4 hbC e0 e1 e2 e3 e4 e5 e6 e7 e8 e9 e10 r0 hxf g0 g1 g2 g3 g4 r1 r2 r3 hx hxt i0 i1 hans
  rw [HANS.out]
  go_enter Tryd.func17, Tryd.ntmps17
  go_wp2_with fail
  generalize hW : ((w.alloc (.cells #[.slice (some ⟨b, o, none⟩) n c] 36)).alloc (.cells #[.slice (some ⟨bC, oC, none⟩) m d, .slice T2 m2 d2, .int .i64 used, .int .i64 0, .int .i64 value, .int .i64 made, .slice T3 m3 d3] 41)).alloc (.cells #[.int .i64 ide, .int .i64 (j : Int), .int .i64 (p : Int), .slice A1 n1 c1, .slice A2 n2 c2, .slice A3 n3 c3, .int .i64 result, .int .i64 mode, .int .i64 value', .int .i64 base, .bool off] 58) = W0 at hb0 q3 z0 z1 kf kx ⊢
  clear hW v0 v1 v2 v3 v4 v5 v6 v7 v8 v9 v10 ba
  have xx := kx.cell 0
  have y1 := kf.cell 1
  have y2 := kf.cell 2
  simp at xx y1 y2
  have hbA : Below W0.heap.size W0 (W0.alloc (.cells #[.int .i64 0, .int .i64 0] 72)) := (Below.refl _ _).alloc (Nat.le_refl _) _
  have hbL := hb0.size
  have xxa := (hbA.cell (p := ⟨w.heap.size, 0, none⟩) kx.lt).trans xx
  have y1a := (hbA.cell (p := ⟨w.heap.size + 1 + 1, 1, none⟩) kf.lt).trans y1
  have y2a := (hbA.cell (p := ⟨w.heap.size + 1 + 1, 2, none⟩) kf.lt).trans y2
  have q3a := (hbA.cell (p := ⟨b, o + j * 5 + 3, none⟩) (Nat.lt_of_lt_of_le HBB.out hbL)).trans q3
  have z0a := (hbA.cell (p := ⟨b5, o5 + p * 2, none⟩) (Nat.lt_of_lt_of_le HB5.out hbL)).trans z0
  have z1a := (hbA.cell (p := ⟨b5, o5 + p * 2 + 1, none⟩) (Nat.lt_of_lt_of_le HB5.out hbL)).trans z1
  have HP := put HP0.out
  go_wp2
  go_big_region
  have hbS := hb0.size
  all_goals (
    have k2 : Keep (W0.alloc (.cells #[.int .i64 op, .int .i64 x] 72)).drew W0.heap.size #[.int .i64 op, .int .i64 x] 72 := Keep.new W0 _ _
    have bw : Below w.heap.size w (W0.alloc (.cells #[.int .i64 op, .int .i64 x] 72)).drew := (hb0.alloc hb0.size _).drew
    have kf2 : Keep (W0.alloc (.cells #[.int .i64 op, .int .i64 x] 72)).drew (w.heap.size + 1 + 1) #[.int .i64 ide, .int .i64 (j : Int), .int .i64 (p : Int), .slice A1 n1 c1, .slice A2 n2 c2, .slice A3 n3 c3, .int .i64 result, .int .i64 mode, .int .i64 value', .int .i64 base, .bool off] 58 := kf.alloc _
    generalize (W0.alloc (.cells #[.int .i64 op, .int .i64 x] 72)).drew = W2 at k2 bw kf2 ⊢
    generalize W0.heap.size = b2 at k2 ⊢
    have x0 := k2.cell 0
    have x1 := k2.cell 1
    have y3 := kf2.cell 3
    simp at x0 x1 y3
    clear k2 kf2
    cases q13 : (op == 13)
    case true =>
      have HY := put (raiseT_13 (x := x) (pile := pile) q13)
      go_wp2
      go_ret
      exact ⟨ret_bool HY.out.symm, bw⟩
    cases q4 : (op == 4)
    case false =>
      have HN := put (raiseT_no (x := x) (pile := pile) q13 q4)
      go_wp2
      go_ret
      exact ⟨ret_bool HN.out.symm, bw⟩
    cases q6 : (x == 6)
    case false =>
      have HN := put (raiseT_6 (pile := pile) q13 q6)
      go_wp2
      go_ret
      exact ⟨ret_bool HN.out.symm, bw⟩
    have hn0 : 0 < n1 := H4.out (by simpa using q4)
    obtain ⟨k1, hk1⟩ : ∃ k1 : Nat, n1 = k1 + 1 := ⟨n1 - 1, by omega⟩
    obtain ⟨b6, o6, y, hA1, hb6, i6, hy6⟩ := HP.out.at_ (show k1 < n1 by omega)
    subst hA1
    have HG := put (raiseT_go q13 q4 q6 (show pile[pile.length - 1]? = some y by rw [HP.out.1, show n1 - 1 = k1 by omega]; exact hy6.out))
    have z6 := (bw.cell (p := ⟨b6, o6 + k1, none⟩) hb6).trans i6
    have hwk : IntKind.i64.wrap ((n1 : Int) - 1) = (k1 : Int) := (IntWalk.i64_in _ ⟨by omega, by omega⟩).trans (by omega)
    have hk1I : (k1 : Int) < (n1 : Int) := by omega
    have hk10 : (0 : Int) ≤ (k1 : Int) := by omega
    clear hk1 hn0 hb6 i6 hy6
    cases qy : (y == 0)
    · rw [qy] at HG
      go_wp2
      go_ret
      exact ⟨ret_bool HG.out.symm, bw⟩
    · rw [qy] at HG
      go_wp2
      go_ret
      exact ⟨ret_bool HG.out.symm, bw⟩)

end Go.Proofs.YtpbkkjiikhjanaaDoor

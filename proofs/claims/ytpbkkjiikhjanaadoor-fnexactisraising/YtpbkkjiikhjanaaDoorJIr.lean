/-
  Whether an instruction raises a panic, as the program has it: raisesPanic; what is known of the last frame of a good machine.
-/
import Derived.Test.YtpbkkjiikhjanaaDoorJVzD
import Derived.BigRegion
import Derived.Deep.QuietTactic
namespace Go.Proofs.YtpbkkjiikhjanaaDoor
open Go.RowKit Go.Deep Exs Ht

/-- The last frame of a good machine that is not at its end. -/
theorem raise_facts {cs : List Cd} {m : Mc} (h : gvB cs m = true) (hc : m.code = 0) : ∃ (k j p : Nat) (f : Fr) (s : Cd) (op x : Int), m.frames.length = k + 1 ∧ m.frames[k]? = some f ∧ f.fn = (j : Int) ∧ f.pla = (p : Int) ∧ cs[j]? = some s ∧ s.ins[p]? = some (op, x) ∧ (op = 4 → 0 < f.pile.length) ∧ raiseM cs m = raiseT (op, x) f.pile := by
  obtain ⟨hg, _, he, hf⟩ := (gvB_iff cs m).1 h
  have hpos := he.1 hc
  obtain ⟨k, hk⟩ : ∃ k, m.frames.length = k + 1 := ⟨m.frames.length - 1, by omega⟩
  have hkl : k < m.frames.length := by omega
  have hat : m.frames[k]? = some (m.frames[k]'hkl) := List.getElem?_eq_getElem hkl
  generalize m.frames[k]'hkl = f at hat
  have hgd := hf.all k f hat
  rw [List.getElem?_eq_none (by omega)] at hgd
  obtain ⟨s, hs, op, x, hh, T, hl⟩ := top_of hg hgd
  refine ⟨k, f.fn.toNat, f.pla.toNat, f, s, op, x, hk, hat, (Int.toNat_of_nonneg T.ok.fn0).symm, (Int.toNat_of_nonneg T.ok.pla0).symm, T.ok.at_, T.ins, fun h4 => ?_, ?_⟩
  · have := T.tk
    subst h4
    rw [tkI_other (by decide), show kT 4 = 2 from rfl] at this
    simp only [lowH] at hl
    omega
  · unfold raiseM raiseF
    have e : m.frames.length - 1 = k := by omega
    rw [e, hat]
    simp only [hc]
    rw [T.ok.at_]
    simp only
    rw [T.ins]
    rfl
theorem raiseM_no {cs : List Cd} {m : Mc} (h : m.code ≠ 0) : raiseM cs m = false := by
  unfold raiseM
  rw [show (m.code == 0) = false by simp [h]]
  rfl
theorem raiseT_13 {op x : Int} {pile : List Int} (h : (op == 13) = true) : raiseT (op, x) pile = true := by
  unfold raiseT
  simp only [h, Bool.true_or]
theorem raiseT_no {op x : Int} {pile : List Int} (h : (op == 13) = false) (h4 : (op == 4) = false) : raiseT (op, x) pile = false := by
  unfold raiseT
  simp only [h, h4, Bool.false_and, Bool.or_false]
theorem raiseT_6 {op x : Int} {pile : List Int} (h : (op == 13) = false) (h6 : (x == 6) = false) : raiseT (op, x) pile = false := by
  unfold raiseT
  simp only [h, h6, Bool.false_and, Bool.and_false, Bool.or_false]
theorem raiseT_go {op x y : Int} {pile : List Int} (h : (op == 13) = false) (h4 : (op == 4) = true) (h6 : (x == 6) = true) (hy : pile[pile.length - 1]? = some y) : raiseT (op, x) pile = (y == 0) := by
  unfold raiseT
  simp only [h, h4, h6, hy, Bool.true_and, Bool.false_or]
  rfl

set_option maxHeartbeats 4000000 in
set_option maxRecDepth 100000 in
theorem raisesPanic_any (A : Option Addr) (n c : Nat) (cs : List Cd) (ide result mode value' base : Int) (off : Bool) (A1 : Option Addr) (n1 c1 : Nat) (A2 : Option Addr) (n2 c2 : Nat) (A3 : Option Addr) (n3 c3 : Nat) (j p : Nat) (s : Cd) (op x : Int) (pile : List Int) (w : World) (hr : ReadsC w w.heap.size A n cs) (hs : cs[j]? = some s) (hz : s.ins[p]? = some (op, x)) (hp : Reads w w.heap.size .i64 A1 n1 pile) (h4 : op = 4 → 0 < n1) (hn1 : n1 ≤ 1048576) :
    Calls Tryd.prog 23 #[.agg #[.slice A n c], .agg #[.int .i64 ide, .int .i64 (j : Int), .int .i64 (p : Int), .slice A1 n1 c1, .slice A2 n2 c2, .slice A3 n3 c3, .int .i64 result, .int .i64 mode, .int .i64 value', .int .i64 base, .bool off]] w fun e w' => e = .returned (.bool (raiseT (op, x) pile)) ∧ Below w.heap.size w w' := by
  have hjn : j < n := by rw [← hr.1]; exact (List.getElem?_eq_some_iff.1 hs).1
  have hb0 : Below w.heap.size w ((w.alloc (.cells #[.slice A n c] 36)).alloc (.cells #[.int .i64 ide, .int .i64 (j : Int), .int .i64 (p : Int), .slice A1 n1 c1, .slice A2 n2 c2, .slice A3 n3 c3, .int .i64 result, .int .i64 mode, .int .i64 value', .int .i64 base, .bool off] 58)) := ((Below.refl _ _).alloc (Nat.le_refl _) _).alloc (by simp) _
  obtain ⟨b, o, s', A4, n4, c4, A5, n5, c5, A6, n6, c6, rfl, hb', g0, g1, g2, g3, g4, r1, r2, r3, hx⟩ := hr.at_ hjn
  obtain rfl : s = s' := by have := hx.out; rw [hs] at this; injection this with this
  have hpn : p < n5 := by rw [← r2.1]; exact (List.getElem?_eq_some_iff.1 hz).1
  obtain ⟨b5, o5, op', x', rfl, hb5, i0, i1, hxt⟩ := r2.at_ hpn
  obtain ⟨rfl, rfl⟩ : op = op' ∧ x = x' := by have := hxt.out; rw [hz] at this; injection this with this; injection this with h1 h2; exact ⟨h1, h2⟩
  have q3 := (hb0.cell (p := ⟨b, o + j * 5 + 3, none⟩) hb').trans g3
  have z0 := (hb0.cell (p := ⟨b5, o5 + p * 2, none⟩) hb5).trans i0
  have z1 := (hb0.cell (p := ⟨b5, o5 + p * 2 + 1, none⟩) hb5).trans i1
  have hjI : (j : Int) < (n : Int) := by omega
  have hj0 : (0 : Int) ≤ (j : Int) := by omega
  have hpI : (p : Int) < (n5 : Int) := by omega
  have hp0 : (0 : Int) ≤ (p : Int) := by omega
  have kf : Keep ((w.alloc (.cells #[.slice (some ⟨b, o, none⟩) n c] 36)).alloc (.cells #[.int .i64 ide, .int .i64 (j : Int), .int .i64 (p : Int), .slice A1 n1 c1, .slice A2 n2 c2, .slice A3 n3 c3, .int .i64 result, .int .i64 mode, .int .i64 value', .int .i64 base, .bool off] 58)) (w.heap.size + 1) #[.int .i64 ide, .int .i64 (j : Int), .int .i64 (p : Int), .slice A1 n1 c1, .slice A2 n2 c2, .slice A3 n3 c3, .int .i64 result, .int .i64 mode, .int .i64 value', .int .i64 base, .bool off] 58 := by
    have := Keep.new (w.alloc (.cells #[.slice (some ⟨b, o, none⟩) n c] 36)) #[.int .i64 ide, .int .i64 (j : Int), .int .i64 (p : Int), .slice A1 n1 c1, .slice A2 n2 c2, .slice A3 n3 c3, .int .i64 result, .int .i64 mode, .int .i64 value', .int .i64 base, .bool off] 58
    rw [World.size_alloc] at this
    exact this
  have kx : Keep ((w.alloc (.cells #[.slice (some ⟨b, o, none⟩) n c] 36)).alloc (.cells #[.int .i64 ide, .int .i64 (j : Int), .int .i64 (p : Int), .slice A1 n1 c1, .slice A2 n2 c2, .slice A3 n3 c3, .int .i64 result, .int .i64 mode, .int .i64 value', .int .i64 base, .bool off] 58)) w.heap.size #[.slice (some ⟨b, o, none⟩) n c] 36 := (Keep.new _ _ _).alloc _
  have HBB := put hb'
  have HB5 := put hb5
  have HP := put hp
  have H4 := put h4
  clear g0 g1 g2 g3 g4 r1 r2 r3 hx hs hz hr hxt i0 i1 hp h4
  go_enter Tryd.func23, Tryd.ntmps23
  go_wp2_with fail
  generalize hW : (w.alloc (.cells #[.slice (some ⟨b, o, none⟩) n c] 36)).alloc (.cells #[.int .i64 ide, .int .i64 (j : Int), .int .i64 (p : Int), .slice A1 n1 c1, .slice A2 n2 c2, .slice A3 n3 c3, .int .i64 result, .int .i64 mode, .int .i64 value', .int .i64 base, .bool off] 58) = W0 at hb0 q3 z0 z1 kf kx ⊢
  have xx := kx.cell 0
  have y1 := kf.cell 1
  have y2 := kf.cell 2
  simp at xx y1 y2
  have hbA : Below W0.heap.size W0 (W0.alloc (.cells #[.int .i64 0, .int .i64 0] 72)) := (Below.refl _ _).alloc (Nat.le_refl _) _
  have hbL := hb0.size
  have xxa := (hbA.cell (p := ⟨w.heap.size, 0, none⟩) kx.lt).trans xx
  have y1a := (hbA.cell (p := ⟨w.heap.size + 1, 1, none⟩) kf.lt).trans y1
  have y2a := (hbA.cell (p := ⟨w.heap.size + 1, 2, none⟩) kf.lt).trans y2
  have q3a := (hbA.cell (p := ⟨b, o + j * 5 + 3, none⟩) (Nat.lt_of_lt_of_le HBB.out hbL)).trans q3
  have z0a := (hbA.cell (p := ⟨b5, o5 + p * 2, none⟩) (Nat.lt_of_lt_of_le HB5.out hbL)).trans z0
  have z1a := (hbA.cell (p := ⟨b5, o5 + p * 2 + 1, none⟩) (Nat.lt_of_lt_of_le HB5.out hbL)).trans z1
  go_wp2
  go_big_region
  have hbS := hb0.size
  all_goals (
    have k2 : Keep (W0.alloc (.cells #[.int .i64 op, .int .i64 x] 72)).drew W0.heap.size #[.int .i64 op, .int .i64 x] 72 := Keep.new W0 _ _
    have bw : Below w.heap.size w (W0.alloc (.cells #[.int .i64 op, .int .i64 x] 72)).drew := (hb0.alloc hb0.size _).drew
    have kf2 : Keep (W0.alloc (.cells #[.int .i64 op, .int .i64 x] 72)).drew (w.heap.size + 1) #[.int .i64 ide, .int .i64 (j : Int), .int .i64 (p : Int), .slice A1 n1 c1, .slice A2 n2 c2, .slice A3 n3 c3, .int .i64 result, .int .i64 mode, .int .i64 value', .int .i64 base, .bool off] 58 := kf.alloc _
    generalize (W0.alloc (.cells #[.int .i64 op, .int .i64 x] 72)).drew = W2 at k2 bw kf2 ⊢
    generalize W0.heap.size = b2 at k2 ⊢
    have x0 := k2.cell 0
    have x1 := k2.cell 1
    have y3 := kf2.cell 3
    simp at x0 x1 y3
    clear k2 kf2
    cases q13 : (op == 13)
    case true =>
      have HY := put (raiseT_13 (x := x) (pile := pile) q13)
      go_wp2
      go_ret
      exact ⟨ret_bool HY.out.symm, bw⟩
    cases q4 : (op == 4)
    case false =>
      have HN := put (raiseT_no (x := x) (pile := pile) q13 q4)
      go_wp2
      go_ret
      exact ⟨ret_bool HN.out.symm, bw⟩
    cases q6 : (x == 6)
    case false =>
      have HN := put (raiseT_6 (pile := pile) q13 q6)
      go_wp2
      go_ret
      exact ⟨ret_bool HN.out.symm, bw⟩
    have hn0 : 0 < n1 := H4.out (by simpa using q4)
    obtain ⟨k1, hk1⟩ : ∃ k1 : Nat, n1 = k1 + 1 := ⟨n1 - 1, by omega⟩
    obtain ⟨b6, o6, y, hA1, hb6, i6, hy6⟩ := HP.out.at_ (show k1 < n1 by omega)
    subst hA1
    have HG := put (raiseT_go q13 q4 q6 (show pile[pile.length - 1]? = some y by rw [HP.out.1, show n1 - 1 = k1 by omega]; exact hy6.out))
    have z6 := (bw.cell (p := ⟨b6, o6 + k1, none⟩) hb6).trans i6
    have hwk : IntKind.i64.wrap ((n1 : Int) - 1) = (k1 : Int) := (IntWalk.i64_in _ ⟨by omega, by omega⟩).trans (by omega)
    have hk1I : (k1 : Int) < (n1 : Int) := by omega
    have hk10 : (0 : Int) ≤ (k1 : Int) := by omega
    clear hk1 hn0 hb6 i6 hy6
    cases qy : (y == 0)
    · rw [qy] at HG
      go_wp2
      go_ret
      exact ⟨ret_bool HG.out.symm, bw⟩
    · rw [qy] at HG
      go_wp2
      go_ret
      exact ⟨ret_bool HG.out.symm, bw⟩)

end Go.Proofs.YtpbkkjiikhjanaaDoor

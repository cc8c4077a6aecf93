/-
  The program's search for params that fit: its contract.
-/
import Derived.Test.YtfdijeeilfhjeaaFork
import Derived.Test.YtfdijeeilfhjeaaShape
import Derived.Deep.RegionLaw
namespace Go.Proofs.Ytfdijeeilfhjeaa
open Go.RowKit Exs

/-- Whether params of which the first ones are these fit. -/
def fit (f : Fc) : Nat → List Int → Bool
  | 0, ps => exprsB f ps
  | k + 1, ps => fit f k (ps ++ [0]) || (fit f k (ps ++ [1]) || fit f k (ps ++ [2]))
theorem fit_at {f : Fc} {k : Nat} {ps : List Int} {j : Nat} (hj : j < 3) (h : fit f k (ps ++ [(j : Int)]) = true) : fit f (k + 1) ps = true := by
  unfold fit
  match j, hj, h with
  | 0, _, h => simp at h; simp [h]
  | 1, _, h => simp at h; simp [h]
  | 2, _, h => simp at h; simp [h]
theorem fit_none {f : Fc} {k : Nat} {ps : List Int} (h : ∀ j : Nat, j < 3 → fit f k (ps ++ [(j : Int)]) = false) : fit f (k + 1) ps = false := by
  unfold fit
  have h0 := h 0 (by omega)
  have h1 := h 1 (by omega)
  have h2 := h 2 (by omega)
  simp at h0 h1 h2
  simp [h0, h1, h2]

set_option maxHeartbeats 2000000 in
set_option maxRecDepth 100000 in
theorem someParamsFit_any (f : Fc) (A1 : Option Addr) (n1 c1 : Nat) (A2 : Option Addr) (n2 c2 : Nat) (hsm : SmallF f) (B : Nat) :
    ∀ (k : Nat) (ps : List Int) (v : Value) (w : World), ps.length + k = 5 → IsFc w B f A1 n1 A2 n2 → B ≤ w.heap.size → Nums w B 3 .i64 v ps →
      Calls Try.prog 90 #[fcV f A1 n1 c1 A2 n2 c2, v] w fun e w' => e = .returned (.bool (fit f k ps)) ∧ Fork ps.length B w w' := by
  intro k
  induction k with
  | zero =>
    intro ps v w hlen hf hB hnum
    obtain ⟨A, c, rfl, hrd⟩ := hnum.reads
    obtain ⟨m, hm⟩ : ∃ m, ps.length = m := ⟨_, rfl⟩
    rw [hm] at hrd ⊢
    obtain rfl : m = 5 := by omega
    have hb0 : Below w.heap.size w (w.alloc (.cells #[.int .i64 f.params, .int .i64 f.vars, .slice A1 n1 c1, .slice A2 n2 c2] 58)) := (Below.refl _ _).alloc (Nat.le_refl _) _
    have H := put (fun W (hW : Below w.heap.size w W) => goodExprs_any f A1 n1 c1 A2 n2 c2 A 5 c ps W ((hf.more hB).now hW) hsm (hrd.now hW) (by omega))
    unfold fcV at H ⊢
    clear hm hlen hnum
    go_enter Try.func90, Try.ntmps90
    go_wp2_with fail
    refine (H.out _ hb0).mono ?_
    rintro e w1 ⟨rfl, hb1⟩
    have hfk : Fork 5 B w w1 := Fork.of_below hB (hb0.trans (hb1.mono hb0.size))
    clear H hb1 hb0
    go_wp2
    go_ret
    exact ⟨rfl, hfk⟩
  | succ k ih =>
    intro ps v w hlen hf hB hnum
    obtain ⟨A, c, hv, hrd⟩ := hnum.reads
    obtain ⟨m, hm⟩ : ∃ m, ps.length = m := ⟨_, rfl⟩
    rw [hm] at hrd hv hlen ⊢
    have hm4 : m ≤ 4 := by omega
    have hm5 : ((m : Int) == 5) = false := beq_of (by omega)
    have hb0 : Below w.heap.size w (w.alloc (.cells #[.int .i64 f.params, .int .i64 f.vars, .slice A1 n1 c1, .slice A2 n2 c2] 58)) := (Below.refl _ _).alloc (Nat.le_refl _) _
    have hk0 := Keep.new w #[.int .i64 f.params, .int .i64 f.vars, .slice A1 n1 c1, .slice A2 n2 c2] 58
    have hf0 : Fork m B w _ := Fork.of_below hB hb0
    have HM := put hm
    have H := put (fun j v' W (h1 : Below B w W) (h2 : Nums W B 3 .i64 v' (ps ++ [(j : Int)])) => ih (ps ++ [(j : Int)]) v' W (by simp; omega) (hf.below h1) (Nat.le_trans hB h1.size) h2)
    have HN := put hnum
    subst hv
    unfold fcV at H ⊢
    clear ih hlen hm hrd hnum hb0
    go_enter Try.func90, Try.ntmps90
    go_wp2
    go_loopw [12] (fun i wr => ∃ j : Nat, j ≤ 3 ∧ i = .int .i64 j ∧ Hid (∀ i : Nat, i < j → fit f k (ps ++ [(i : Int)]) = false) ∧ Keep wr w.heap.size #[.int .i64 f.params, .int .i64 f.vars, .slice A1 n1 c1, .slice A2 n2 c2] 58 ∧ Fork m B w wr) (fun i _ => 3 - (intOf i).toNat)
    case atStart => exact ⟨0, Nat.zero_le _, rfl, put (fun i h => absurd h (by omega)), hk0, hf0⟩
    case round =>
      clear hk0 hf0
      obtain ⟨j, hj, rfl, hno, hkeep, hfk⟩ := hrel
      by_cases hlt : j < 3
      · have hnum := put (hfk.nums _ _ (by rw [HM.out]; exact Nat.le_refl _) HN.out)
        have hbs : B ≤ wr.heap.size := Nat.le_trans hB hfk.below.size
        have y0 := hkeep.cell 0
        have y1 := hkeep.cell 1
        have y2 := hkeep.cell 2
        have y3 := hkeep.cell 3
        simp at y0 y1 y2 y3
        have hkl := hkeep.lt
        go_wp2
        go_region_law (first
          | (refine step_append_fork rfl (.tmp 16) (.tmp 18) 22 rfl B 8 Try.info3 Try.underlying22 (by decide) (.slice A m c) ps (by simp [Act.eval]) (Nums.alloc hnum.out _) (by simp; omega) wr.heap.size (j : Int) (by simp [Act.eval]) (by simp) (by have := HM.out; omega) ?_; intro v1 w1 hn1 hf1; have hfA : Fork m B w w1 := (hfk.drew.trans (Fork.of_below (w := wr.drew) hbs ((Below.refl wr.heap.size wr.drew).alloc (Nat.le_refl _) _))).trans (hf1.mono (by rw [HM.out]; exact Nat.le_refl _)); have kA := hf1.keep _ _ 58 (by decide) (Keep.alloc (w := wr.drew) hkeep _); have z0 := kA.cell 0; have z1 := kA.cell 1; have z2 := kA.cell 2; have z3 := kA.cell 3; simp at z0 z1 z2 z3)
          | (go_simp; go_at_call 90; refine (H.out j v1 w1 hfA.below hn1).mono ?_; rintro e w2 ⟨rfl, hf2⟩))
        all_goals (
          have hfB : Fork m B w w2 := hfA.trans (hf2.mono (by simp; have := HM.out; omega))
          have kB := hf2.keep _ _ 58 (by decide) kA
          clear z0 z1 z2 z3 y0 y1 y2 y3 hf1 hf2 hn1 hfA kA
          cases hfit : fit f k (ps ++ [(j : Int)]) with
          | true =>
            have hy := put (fit_at hlt hfit)
            clear hfit
            go_wp2
            go_ret
            exact ⟨ret_bool hy.out.symm, hfB⟩
          | false =>
            have hy := put (show ∀ i : Nat, i < j + 1 → fit f k (ps ++ [(i : Int)]) = false from fun i hi => by
              by_cases hij : i < j
              · exact hno.out i hij
              · obtain rfl : i = j := by omega
                exact hfit)
            clear hfit
            go_wp2
            go_roundw
            case rel => exact ⟨j + 1, by omega, by go_num, hy, kB, hfB⟩
            case measure => simp [intOf]; omega)
      · obtain rfl : j = 3 := by omega
        have hf := put (fit_none hno.out)
        go_wp2
        go_ret
        exact ⟨ret_bool hf.out.symm, hfk⟩

end Go.Proofs.Ytfdijeeilfhjeaa

/-
  CallsOf on both sides: contracts.
-/
import Derived.Test.YtfdijeeilfhjeaaCalM
import Derived.Test.YtfdijeeilfhjeaaPar
namespace Go.Proofs.Ytfdijeeilfhjeaa
open Go.RowKit Exs

set_option maxHeartbeats 2000000 in
set_option maxRecDepth 100000 in
theorem specCallsOf_any (A : Option Addr) (n c : Nat) (fs : List Fc) (fn : Int) (w : World) (hr : ReadsF w w.heap.size A n fs) (hs : SmallP fs) :
    Calls Try.prog 32 #[.agg #[.slice A n c], .int .i64 fn] w fun e w' => ∃ v, e = .returned (.tuple #[v, .bool (callAns fs fn).2]) ∧ Nums w' w.heap.size 3 .i64 v (callAns fs fn).1 ∧ Below w.heap.size w w' := by
  have hb0 : Below w.heap.size w (w.alloc (.cells #[.slice A n c] 44)) := (Below.refl _ _).alloc (Nat.le_refl _) _
  have hk0 := Keep.new w #[.slice A n c] 44
  have hl2 : n ≤ 1048576 := by rw [← hr.1]; exact hs.1
  have HL := put hr.1
  go_enter Try.func32, Try.ntmps32
  go_wp2_with fail
  refine (specGoodProg_any A n c fs _ (hr.now hb0) hs).mono ?_
  rintro e w1 ⟨rfl, hb1⟩
  rw [progS_eq]
  have b1 : Below w.heap.size w w1 := hb0.trans (hb1.mono hb0.size)
  have k1 := hk0.below hb1
  have y := k1.cell 0
  simp at y
  clear hb0 hk0 hb1
  cases hg : progB fs with
  | false =>
    have hf := put (show callAns fs fn = ([], false) by simp [callAns, hasF, hg])
    clear hg
    go_wp2
    go_ret2
    exact ⟨.slice none 0 0, retL (by rw [hf.out]), by rw [hf.out]; exact Nums.nil _ _ _ _, b1⟩
  | true =>
    cases hin : within fn 0 ((n : Int) - 1) with
    | false =>
      have hno : ¬ (0 ≤ fn ∧ fn < (n : Int)) := fun h => by have := (within_iff fn 0 ((n : Int) - 1)).2 (by omega); rw [hin] at this; cases this
      have hf := put (show callAns fs fn = ([], false) by unfold callAns hasF; rw [HL.out]; simp [hno])
      clear hg hno
      go_wp2_with (go_at_call 46; refine (l1In_any _ _ _ _).mono ?_; rintro e w' ⟨rfl, rfl⟩)
      go_ret2
      exact ⟨.slice none 0 0, retL (by rw [hf.out]), by rw [hf.out]; exact Nums.nil _ _ _ _, b1⟩
    | true =>
      have hin2 := (within_iff _ _ _).1 hin
      obtain ⟨q, rfl⟩ : ∃ q : Nat, fn = q := ⟨fn.toNat, by omega⟩
      have hqn : q < n := by omega
      obtain ⟨b, off, f, B1, m1, d1, B2, m2, d2, hA, hb, g0, g1, g2, g3, r1, r2, hx⟩ := (hr.below b1).at_ hqn
      subst hA
      have hf := put (show callAns fs (q : Int) = (namedL (fnN f), true) by unfold callAns hasF; rw [HL.out, hg]; simp [hqn, hx.out])
      have hsf := hs.2 _ (mem_of_at hx.out)
      have HR := put (names_prog hg (mem_of_at hx.out))
      have hm2 : m2 ≤ 1048576 := by have := hsf.2.1; rw [r2.1] at this; exact this
      have hsz1 : w.heap.size < w1.heap.size := k1.lt
      clear hg g0 g1 g2 r1 hin2
      go_wp2_with (go_at_call 46; refine (l1In_any _ _ _ _).mono ?_; rintro e w' ⟨rfl, rfl⟩)
      go_loopw [6, 30] (fun v i wr => ∃ k : Nat, k ≤ m2 ∧ i = .int .i64 k ∧ Nums wr w1.heap.size 3 .i64 v (namedL ((f.stmts.take k).flatMap stN)) ∧ Below w1.heap.size w1 wr) (fun _ i _ => m2 - (intOf i).toNat)
      case atStart => exact ⟨0, Nat.zero_le _, rfl, by simpa [namedL] using Nums.nil _ _ _ _, Below.refl _ _⟩
      case round =>
        obtain ⟨k, hk, rfl, hown, hbel⟩ := hrel
        by_cases hlt : k < m2
        · obtain ⟨b8, off8, s, D1, v1, e1, D2, v2, e2, D3, v3, e3, hA8, hb8, j0, j1, j2, j3, j4, k1, k2, k3, hx8⟩ := (r2.below (hbel.mono (Nat.le_of_lt hsz1))).at_ hlt
          subst hA8
          have hss := hsf.2.2 _ (mem_of_at hx8.out)
          have hv1 : v1 ≤ 1048576 := by have := hss.1; rw [k1.1] at this; exact this
          have HS := put (HR.out s (mem_of_at hx8.out))
          have hnext := put (flat_more (g := stN) hx8.out)
          have hbA := hbel.alloc hbel.size (.cells #[.int .i64 s.kind, .int .i64 s.n, .slice D1 v1 e1, .slice D2 v2 e2, .slice D3 v3 e3] 106)
          have hkA := Keep.new wr #[.int .i64 s.kind, .int .i64 s.n, .slice D1 v1 e1, .slice D2 v2 e2, .slice D3 v3 e3] 106
          have hrA := k1.below ((Below.refl _ wr).alloc (Nat.le_trans (Nat.le_of_lt hsz1) hbel.size) (.cells #[.int .i64 s.kind, .int .i64 s.n, .slice D1 v1 e1, .slice D2 v2 e2, .slice D3 v3 e3] 106))
          have hownA := hown.alloc (.cells #[.int .i64 s.kind, .int .i64 s.n, .slice D1 v1 e1, .slice D2 v2 e2, .slice D3 v3 e3] 106)
          generalize (f.stmts.take k).flatMap stN = S at hownA hnext
          clear k1 k2 k3 hown
          by_cases h3 : s.kind = 3
          · have hrange := HS.out s.n (mem_putN h3)
            have hnamed := put (namedL_put (S := S) hrange.1 hrange.2)
            have hputN := put (show putN s = [s.n] by simp [putN, h3])
            have HLEN := put (namedL_length S)
            rw [h3] at hkA hrA hbA hownA j0
            clear hrange h3
            go_wp2_with fail
            have hbA0 := hbA.size
            generalize wr.alloc (.cells #[.int .i64 3, .int .i64 s.n, .slice D1 v1 e1, .slice D2 v2 e2, .slice D3 v3 e3] 106) = WA at hbA hkA hrA hownA hbA0 ⊢
            refine (l1Put_any _ _ s.n w1.heap.size WA hownA hbA0 (by have := HLEN.out; omega)).mono ?_
            rintro e w4 ⟨v4, rfl, hown4, hb4⟩
            replace hbA : Below w1.heap.size w1 w4 := hbA.trans (hb4.mono hbA0)
            replace hrA := hrA.below (hb4.mono (Nat.le_trans (Nat.le_of_lt hsz1) hbA0))
            replace hkA := hkA.below hb4
            have HN0 := put (show Nums w4 w1.heap.size 3 .i64 v4 (namedL (S ++ putN s)) by rw [hputN.out]; rw [hnamed.out] at hown4; exact hown4)
            have z2 := hkA.cell 2
            simp at z2
            clear hown4 hownA hbA0 hb4 j0 j1 j2 j3 j4
            go_wp2
            go_loopw [6, 44] (fun v i wz => ∃ j : Nat, j ≤ v1 ∧ i = .int .i64 j ∧ Nums wz w1.heap.size 3 .i64 v (namedL (S ++ putN s ++ (s.ex.take j).flatMap callN)) ∧ ReadsT wz w.heap.size D1 v1 s.ex ∧ Below w1.heap.size w1 wz) (fun _ i _ => v1 - (intOf i).toNat)
            case atStart => exact ⟨0, Nat.zero_le _, rfl, by simpa using HN0.out, hrA, hbA⟩
            case round =>
              clear hbA hrA
              obtain ⟨j, hj, rfl, hownz, hrz, hbz⟩ := hrel
              by_cases hltj : j < v1
              · obtain ⟨b7, off7, op, x, hA7, hb7, hc1, hc2, hx7⟩ := hrz.at_ hltj
                subst hA7
                have hsz := Nat.le_trans (Nat.le_of_lt hsz1) hbz.size
                have hbz2 := hbz.alloc hbz.size (.cells #[.int .i64 op, .int .i64 x] 107)
                have hrz2 := hrz.below ((Below.refl _ wr).alloc hsz (.cells #[.int .i64 op, .int .i64 x] 107))
                have hownz2 := hownz.alloc (.cells #[.int .i64 op, .int .i64 x] 107)
                have hnx := put (flat_more (g := callN) hx7.out)
                by_cases h11 : op = 11
                · have hrange := HS.out x (mem_callN (mem_of_at hx7.out) h11)
                  have hnamed := put (namedL_put (S := S ++ putN s ++ (s.ex.take j).flatMap callN) hrange.1 hrange.2)
                  subst h11
                  have HLEN := put (namedL_length (S ++ putN s ++ (s.ex.take j).flatMap callN))
                  clear hownz hrange
                  go_wp2_with fail
                  generalize wr.alloc (.cells #[.int .i64 11, .int .i64 x] 107) = WZ at hbz2 hrz2 hownz2 ⊢
                  refine (l1Put_any _ _ x w1.heap.size WZ hownz2 hbz2.size (by have := HLEN.out; omega)).mono ?_
                  rintro e w5 ⟨v5, rfl, hown5, hb5⟩
                  have hbz5 : Below w1.heap.size w1 w5 := hbz2.trans (hb5.mono hbz2.size)
                  have hrz5 := hrz2.below (hb5.mono (Nat.le_trans (Nat.le_of_lt hsz1) hbz2.size))
                  have HO5 := put (show Nums w5 w1.heap.size 3 .i64 v5 (namedL (S ++ putN s ++ (s.ex.take (j + 1)).flatMap callN)) by rw [hnx.out]; rw [hnamed.out] at hown5; simpa [callN, List.append_assoc] using hown5)
                  clear hown5 hownz2 hrz2 hbz2
                  go_wp2
                  go_roundw
                  case rel => exact ⟨j + 1, by omega, by go_num, HO5.out, hrz5, hbz5⟩
                  case measure => simp [intOf]; omega
                · have HO5 := put (show Nums _ w1.heap.size 3 .i64 _ (namedL (S ++ putN s ++ (s.ex.take (j + 1)).flatMap callN)) by rw [hnx.out]; simpa [callN, h11] using hownz2)
                  have h11' := beq_of h11
                  clear hownz hownz2
                  go_wp2
                  go_roundw
                  case rel => exact ⟨j + 1, by omega, by go_num, HO5.out, hrz2, hbz2⟩
                  case measure => simp [intOf]; omega
              · have hy := put (show S ++ putN s ++ (s.ex.take j).flatMap callN = (f.stmts.take (k + 1)).flatMap stN by rw [hnext.out, List.take_of_length_le (by rw [hrz.1]; omega)]; simp [stN])
                have HO6 := put (show Nums wr w1.heap.size 3 .i64 _ (namedL ((f.stmts.take (k + 1)).flatMap stN)) from hy.out ▸ hownz)
                clear hownz
                go_wp2
                go_roundw
                case rel => exact ⟨k + 1, by omega, by go_num, HO6.out, hbz⟩
                case measure => simp [intOf]; omega
          · have hputN := put (show putN s = [] by simp [putN, h3])
            have h3' := beq_of h3
            have HN0 := put (show Nums _ w1.heap.size 3 .i64 _ (namedL (S ++ putN s)) by rw [hputN.out, List.append_nil]; exact hownA)
            clear hownA hkA
            go_wp2
            go_loopw [6, 44] (fun v i wz => ∃ j : Nat, j ≤ v1 ∧ i = .int .i64 j ∧ Nums wz w1.heap.size 3 .i64 v (namedL (S ++ putN s ++ (s.ex.take j).flatMap callN)) ∧ ReadsT wz w.heap.size D1 v1 s.ex ∧ Below w1.heap.size w1 wz) (fun _ i _ => v1 - (intOf i).toNat)
            case atStart => exact ⟨0, Nat.zero_le _, rfl, by simpa using HN0.out, hrA, hbA⟩
            case round =>
              clear hbA hrA
              obtain ⟨j, hj, rfl, hownz, hrz, hbz⟩ := hrel
              by_cases hltj : j < v1
              · obtain ⟨b7, off7, op, x, hA7, hb7, hc1, hc2, hx7⟩ := hrz.at_ hltj
                subst hA7
                have hsz := Nat.le_trans (Nat.le_of_lt hsz1) hbz.size
                have hbz2 := hbz.alloc hbz.size (.cells #[.int .i64 op, .int .i64 x] 107)
                have hrz2 := hrz.below ((Below.refl _ wr).alloc hsz (.cells #[.int .i64 op, .int .i64 x] 107))
                have hownz2 := hownz.alloc (.cells #[.int .i64 op, .int .i64 x] 107)
                have hnx := put (flat_more (g := callN) hx7.out)
                by_cases h11 : op = 11
                · have hrange := HS.out x (mem_callN (mem_of_at hx7.out) h11)
                  have hnamed := put (namedL_put (S := S ++ putN s ++ (s.ex.take j).flatMap callN) hrange.1 hrange.2)
                  subst h11
                  have HLEN := put (namedL_length (S ++ putN s ++ (s.ex.take j).flatMap callN))
                  clear hownz hrange
                  go_wp2_with fail
                  generalize wr.alloc (.cells #[.int .i64 11, .int .i64 x] 107) = WZ at hbz2 hrz2 hownz2 ⊢
                  refine (l1Put_any _ _ x w1.heap.size WZ hownz2 hbz2.size (by have := HLEN.out; omega)).mono ?_
                  rintro e w5 ⟨v5, rfl, hown5, hb5⟩
                  have hbz5 : Below w1.heap.size w1 w5 := hbz2.trans (hb5.mono hbz2.size)
                  have hrz5 := hrz2.below (hb5.mono (Nat.le_trans (Nat.le_of_lt hsz1) hbz2.size))
                  have HO5 := put (show Nums w5 w1.heap.size 3 .i64 v5 (namedL (S ++ putN s ++ (s.ex.take (j + 1)).flatMap callN)) by rw [hnx.out]; rw [hnamed.out] at hown5; simpa [callN, List.append_assoc] using hown5)
                  clear hown5 hownz2 hrz2 hbz2
                  go_wp2
                  go_roundw
                  case rel => exact ⟨j + 1, by omega, by go_num, HO5.out, hrz5, hbz5⟩
                  case measure => simp [intOf]; omega
                · have HO5 := put (show Nums _ w1.heap.size 3 .i64 _ (namedL (S ++ putN s ++ (s.ex.take (j + 1)).flatMap callN)) by rw [hnx.out]; simpa [callN, h11] using hownz2)
                  have h11' := beq_of h11
                  clear hownz hownz2
                  go_wp2
                  go_roundw
                  case rel => exact ⟨j + 1, by omega, by go_num, HO5.out, hrz2, hbz2⟩
                  case measure => simp [intOf]; omega
              · have hy := put (show S ++ putN s ++ (s.ex.take j).flatMap callN = (f.stmts.take (k + 1)).flatMap stN by rw [hnext.out, List.take_of_length_le (by rw [hrz.1]; omega)]; simp [stN])
                have HO6 := put (show Nums wr w1.heap.size 3 .i64 _ (namedL ((f.stmts.take (k + 1)).flatMap stN)) from hy.out ▸ hownz)
                clear hownz
                go_wp2
                go_roundw
                case rel => exact ⟨k + 1, by omega, by go_num, HO6.out, hbz⟩
                case measure => simp [intOf]; omega
        · have hy := put (show (f.stmts.take k).flatMap stN = fnN f by rw [List.take_of_length_le (by rw [r2.1]; omega)]; rfl)
          rw [hy.out] at hown
          have HO := put (hown.more (Nat.le_of_lt hsz1))
          go_wp2
          go_ret2
          exact ⟨_, retL (by rw [hf.out]), by rw [hf.out]; exact HO.out, b1.trans (hbel.mono (Nat.le_of_lt hsz1))⟩

end Go.Proofs.Ytfdijeeilfhjeaa

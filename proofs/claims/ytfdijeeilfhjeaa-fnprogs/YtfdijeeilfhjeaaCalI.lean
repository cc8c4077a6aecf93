/-
  The program's CallsOf: its contract.
-/
import Derived.Test.YtfdijeeilfhjeaaCal
namespace Go.Proofs.Ytfdijeeilfhjeaa
open Go.RowKit Exs

theorem flags_nil : flags [] = #[.bool false, .bool false, .bool false, .bool false, .bool false] := by simp [flags]
theorem namedTo_all (S : List Int) : namedTo 5 S = namedL S := rfl

set_option maxHeartbeats 2000000 in
set_option maxRecDepth 100000 in
theorem callsOf_any (A : Option Addr) (n c : Nat) (fs : List Fc) (fn : Int) (w : World) (hr : ReadsF w w.heap.size A n fs) (hs : SmallP fs) :
    Calls Try.prog 31 #[.agg #[.slice A n c], .int .i64 fn] w fun e w' => ∃ v, e = .returned (.tuple #[v, .bool (callAns fs fn).2]) ∧ Nums w' w.heap.size 3 .i64 v (callAns fs fn).1 ∧ Below w.heap.size w w' := by
  have hb0 : Below w.heap.size w (w.alloc (.cells #[.slice A n c] 44)) := (Below.refl _ _).alloc (Nat.le_refl _) _
  have hk0 := Keep.new w #[.slice A n c] 44
  have hl2 : n ≤ 1048576 := by rw [← hr.1]; exact hs.1
  have HL := put hr.1
  go_enter Try.func31, Try.ntmps31
  go_wp2_with fail
  refine (hasFunc_any A n c fs fn _ (hr.now hb0) hs).mono ?_
  rintro e w1 ⟨rfl, hb1⟩
  have b1 : Below w.heap.size w w1 := hb0.trans (hb1.mono hb0.size)
  have k1 := hk0.below hb1
  have y := k1.cell 0
  simp at y
  clear hb0 hk0 hb1
  cases hg : hasF fs fn with
  | false =>
    have hf := put (show callAns fs fn = ([], false) by simp [callAns, hg])
    clear hg
    go_wp2
    go_ret2
    exact ⟨.slice none 0 0, retL (by rw [hf.out]), by rw [hf.out]; exact Nums.nil _ _ _ _, b1⟩
  | true =>
    have hg2 := hg
    unfold hasF at hg2
    simp only [Bool.and_eq_true, decide_eq_true_eq] at hg2
    rw [HL.out] at hg2
    obtain ⟨q, rfl⟩ : ∃ q : Nat, fn = q := ⟨fn.toNat, by omega⟩
    have hqn : q < n := by omega
    obtain ⟨b, off, f, B1, m1, d1, B2, m2, d2, hA, hb, g0, g1, g2, g3, r1, r2, hx⟩ := (hr.below b1).at_ hqn
    subst hA
    have hf := put (show callAns fs (q : Int) = (namedL (fnN f), true) by unfold callAns; rw [hg]; simp [hx.out])
    have hsf := hs.2 _ (mem_of_at hx.out)
    have HR := put (names_prog hg2.2 (mem_of_at hx.out))
    have hm2 : m2 ≤ 1048576 := by have := hsf.2.1; rw [r2.1] at this; exact this
    have hsz1 : w.heap.size < w1.heap.size := k1.lt
    have hb2 : Below w1.heap.size w1 (w1.alloc (.cells #[.bool false, .bool false, .bool false, .bool false, .bool false] 103)) := (Below.refl _ _).alloc (Nat.le_refl _) _
    have hk2 := Keep.new w1 #[.bool false, .bool false, .bool false, .bool false, .bool false] 103
    have hbw : b < w1.heap.size := by omega
    clear hg hg2 g0 g1 g2 r1
    go_wp2
    go_loopw [24] (fun i wr => ∃ k : Nat, k ≤ m2 ∧ i = .int .i64 k ∧ Keep wr w1.heap.size (flags ((f.stmts.take k).flatMap stN)) 103 ∧ Below w1.heap.size w1 wr) (fun i _ => m2 - (intOf i).toNat)
    case atStart => exact ⟨0, Nat.zero_le _, rfl, by simpa [flags_nil] using hk2, hb2⟩
    case round =>
      clear hb2 hk2
      obtain ⟨k, hk, rfl, hkeep, hbel⟩ := hrel
      by_cases hlt : k < m2
      · obtain ⟨b8, off8, s, D1, v1, e1, D2, v2, e2, D3, v3, e3, hA8, hb8, j0, j1, j2, j3, j4, k1, k2, k3, hx8⟩ := (r2.below (hbel.mono (Nat.le_of_lt hsz1))).at_ hlt
        subst hA8
        have hss := hsf.2.2 _ (mem_of_at hx8.out)
        have hv1 : v1 ≤ 1048576 := by have := hss.1; rw [k1.1] at this; exact this
        have HS := put (HR.out s (mem_of_at hx8.out))
        have hnext := put (flat_more (g := stN) hx8.out)
        have hbA := hbel.alloc hbel.size (.cells #[.int .i64 s.kind, .int .i64 s.n, .slice D1 v1 e1, .slice D2 v2 e2, .slice D3 v3 e3] 106)
        have hrA := k1.below ((Below.refl _ wr).alloc (Nat.le_trans (Nat.le_of_lt hsz1) hbel.size) (.cells #[.int .i64 s.kind, .int .i64 s.n, .slice D1 v1 e1, .slice D2 v2 e2, .slice D3 v3 e3] 106))
        have hkA := hkeep.alloc (.cells #[.int .i64 s.kind, .int .i64 s.n, .slice D1 v1 e1, .slice D2 v2 e2, .slice D3 v3 e3] 106)
        have hkl := hkeep.lt
        generalize (f.stmts.take k).flatMap stN = S at hkeep hkA hnext
        have hex8 := k1
        clear k1 k2 k3
        by_cases h3 : s.kind = 3
        · have hrange := HS.out s.n (mem_putN h3)
          obtain ⟨z, hz⟩ : ∃ z : Nat, s.n = z := ⟨s.n.toNat, by omega⟩
          have hz5 : z < 5 := by omega
          have hputN := put (show putN s = [(z : Int)] by simp [putN, h3, hz])
          rw [h3] at j0
          rw [hz] at j1
          have hset := (hkeep.set z (.bool true)).alloc (.cells #[.int .i64 3, .int .i64 (z : Int), .slice D1 v1 e1, .slice D2 v2 e2, .slice D3 v3 e3] 106)
          rw [flags_set _ z hz5] at hset
          have HN0 := put (show Keep _ w1.heap.size (flags (S ++ putN s)) 103 by rw [hputN.out]; exact hset)
          have hbs := hbel.setCell (p := ⟨w1.heap.size, z, none⟩) (Nat.le_refl _) (.bool true)
          have HBA := put (hbs.alloc hbs.size (.cells #[.int .i64 3, .int .i64 (z : Int), .slice D1 v1 e1, .slice D2 v2 e2, .slice D3 v3 e3] 106))
          have HRA := put (hex8.below (((Below.refl w.heap.size wr).setCell (p := ⟨w1.heap.size, z, none⟩) (Nat.le_of_lt hsz1) (.bool true)).alloc (Nat.le_trans (Nat.le_of_lt hsz1) hbs.size) (.cells #[.int .i64 3, .int .i64 (z : Int), .slice D1 v1 e1, .slice D2 v2 e2, .slice D3 v3 e3] 106)))
          have hcell := hkeep.cell z
          rw [flags_at _ z hz5] at hcell
          have hfz := hkeep.frozen z
          clear hrange h3 hz hset hkA hbA hrA hbs hex8
          go_wp2
          go_loopw [37] (fun i wz => ∃ j : Nat, j ≤ v1 ∧ i = .int .i64 j ∧ Keep wz w1.heap.size (flags (S ++ putN s ++ (s.ex.take j).flatMap callN)) 103 ∧ ReadsT wz w.heap.size D1 v1 s.ex ∧ Below w1.heap.size w1 wz) (fun i _ => v1 - (intOf i).toNat)
          case atStart => exact ⟨0, Nat.zero_le _, rfl, by simpa using HN0.out, HRA.out, HBA.out⟩
          case round =>
            obtain ⟨j, hj, rfl, hkz, hrz, hbz⟩ := hrel
            by_cases hltj : j < v1
            · obtain ⟨b7, off7, op, x, hA7, hb7, hc1, hc2, hx7⟩ := hrz.at_ hltj
              subst hA7
              have hsz := Nat.le_trans (Nat.le_of_lt hsz1) hbz.size
              have hbz2 := hbz.alloc hbz.size (.cells #[.int .i64 op, .int .i64 x] 107)
              have hrz2 := hrz.below ((Below.refl _ wr).alloc hsz (.cells #[.int .i64 op, .int .i64 x] 107))
              have hkz2 := hkz.alloc (.cells #[.int .i64 op, .int .i64 x] 107)
              have hnx := put (flat_more (g := callN) hx7.out)
              have hkzl := hkz.lt
              by_cases h11 : op = 11
              · have hrange := HS.out x (mem_callN (mem_of_at hx7.out) h11)
                obtain ⟨z, rfl⟩ : ∃ z : Nat, x = z := ⟨x.toNat, by omega⟩
                have hz5 : z < 5 := by omega
                have hset := (hkz.set z (.bool true)).alloc (.cells #[.int .i64 op, .int .i64 (z : Int)] 107)
                rw [flags_set _ z hz5] at hset
                have HSET := put (show Keep _ w1.heap.size (flags (S ++ putN s ++ (s.ex.take (j + 1)).flatMap callN)) 103 by rw [hnx.out]; simp only [callN, h11, if_true]; rw [← List.append_assoc]; exact hset)
                have hbzs := hbz.setCell (p := ⟨w1.heap.size, z, none⟩) (Nat.le_refl _) (.bool true)
                have HBZ := put (hbzs.alloc hbzs.size (.cells #[.int .i64 op, .int .i64 (z : Int)] 107))
                have HRZ := put (hrz.below (((Below.refl w.heap.size wr).setCell (p := ⟨w1.heap.size, z, none⟩) (Nat.le_of_lt hsz1) (.bool true)).alloc (Nat.le_trans (Nat.le_of_lt hsz1) hbzs.size) (.cells #[.int .i64 op, .int .i64 (z : Int)] 107)))
                have hcell := hkz.cell z
                rw [flags_at _ z hz5] at hcell
                have hfz := hkz.frozen z
                subst h11
                clear hkz hrange hset hkz2 hbz2 hrz2 hbzs
                go_wp2
                go_roundw
                case rel => exact ⟨j + 1, by omega, by go_num, HSET.out, HRZ.out, HBZ.out⟩
                case measure => simp [intOf]; omega
              · have HO5 := put (show Keep _ w1.heap.size (flags (S ++ putN s ++ (s.ex.take (j + 1)).flatMap callN)) 103 by rw [hnx.out]; simpa [callN, h11] using hkz2)
                have h11' := beq_of h11
                clear hkz hkz2
                go_wp2
                go_roundw
                case rel => exact ⟨j + 1, by omega, by go_num, HO5.out, hrz2, hbz2⟩
                case measure => simp [intOf]; omega
            · have hy := put (show S ++ putN s ++ (s.ex.take j).flatMap callN = (f.stmts.take (k + 1)).flatMap stN by rw [hnext.out, List.take_of_length_le (by rw [hrz.1]; omega)]; simp [stN])
              have HO6 := put (show Keep wr w1.heap.size (flags ((f.stmts.take (k + 1)).flatMap stN)) 103 from hy.out ▸ hkz)
              clear hkz
              go_wp2
              go_roundw
              case rel => exact ⟨k + 1, by omega, by go_num, HO6.out, hbz⟩
              case measure => simp [intOf]; omega
        · have hputN := put (show putN s = [] by simp [putN, h3])
          have h3' := beq_of h3
          have HN0 := put (show Keep _ w1.heap.size (flags (S ++ putN s)) 103 by rw [hputN.out, List.append_nil]; exact hkA)
          have HBA := put hbA
          have HRA := put hrA
          clear hkA hbA hrA hex8
          go_wp2
          go_loopw [37] (fun i wz => ∃ j : Nat, j ≤ v1 ∧ i = .int .i64 j ∧ Keep wz w1.heap.size (flags (S ++ putN s ++ (s.ex.take j).flatMap callN)) 103 ∧ ReadsT wz w.heap.size D1 v1 s.ex ∧ Below w1.heap.size w1 wz) (fun i _ => v1 - (intOf i).toNat)
          case atStart => exact ⟨0, Nat.zero_le _, rfl, by simpa using HN0.out, HRA.out, HBA.out⟩
          case round =>
            obtain ⟨j, hj, rfl, hkz, hrz, hbz⟩ := hrel
            by_cases hltj : j < v1
            · obtain ⟨b7, off7, op, x, hA7, hb7, hc1, hc2, hx7⟩ := hrz.at_ hltj
              subst hA7
              have hsz := Nat.le_trans (Nat.le_of_lt hsz1) hbz.size
              have hbz2 := hbz.alloc hbz.size (.cells #[.int .i64 op, .int .i64 x] 107)
              have hrz2 := hrz.below ((Below.refl _ wr).alloc hsz (.cells #[.int .i64 op, .int .i64 x] 107))
              have hkz2 := hkz.alloc (.cells #[.int .i64 op, .int .i64 x] 107)
              have hnx := put (flat_more (g := callN) hx7.out)
              have hkzl := hkz.lt
              by_cases h11 : op = 11
              · have hrange := HS.out x (mem_callN (mem_of_at hx7.out) h11)
                obtain ⟨z, rfl⟩ : ∃ z : Nat, x = z := ⟨x.toNat, by omega⟩
                have hz5 : z < 5 := by omega
                have hset := (hkz.set z (.bool true)).alloc (.cells #[.int .i64 op, .int .i64 (z : Int)] 107)
                rw [flags_set _ z hz5] at hset
                have HSET := put (show Keep _ w1.heap.size (flags (S ++ putN s ++ (s.ex.take (j + 1)).flatMap callN)) 103 by rw [hnx.out]; simp only [callN, h11, if_true]; rw [← List.append_assoc]; exact hset)
                have hbzs := hbz.setCell (p := ⟨w1.heap.size, z, none⟩) (Nat.le_refl _) (.bool true)
                have HBZ := put (hbzs.alloc hbzs.size (.cells #[.int .i64 op, .int .i64 (z : Int)] 107))
                have HRZ := put (hrz.below (((Below.refl w.heap.size wr).setCell (p := ⟨w1.heap.size, z, none⟩) (Nat.le_of_lt hsz1) (.bool true)).alloc (Nat.le_trans (Nat.le_of_lt hsz1) hbzs.size) (.cells #[.int .i64 op, .int .i64 (z : Int)] 107)))
                have hcell := hkz.cell z
                rw [flags_at _ z hz5] at hcell
                have hfz := hkz.frozen z
                subst h11
                clear hkz hrange hset hkz2 hbz2 hrz2 hbzs
                go_wp2
                go_roundw
                case rel => exact ⟨j + 1, by omega, by go_num, HSET.out, HRZ.out, HBZ.out⟩
                case measure => simp [intOf]; omega
              · have HO5 := put (show Keep _ w1.heap.size (flags (S ++ putN s ++ (s.ex.take (j + 1)).flatMap callN)) 103 by rw [hnx.out]; simpa [callN, h11] using hkz2)
                have h11' := beq_of h11
                clear hkz hkz2
                go_wp2
                go_roundw
                case rel => exact ⟨j + 1, by omega, by go_num, HO5.out, hrz2, hbz2⟩
                case measure => simp [intOf]; omega
            · have hy := put (show S ++ putN s ++ (s.ex.take j).flatMap callN = (f.stmts.take (k + 1)).flatMap stN by rw [hnext.out, List.take_of_length_le (by rw [hrz.1]; omega)]; simp [stN])
              have HO6 := put (show Keep wr w1.heap.size (flags ((f.stmts.take (k + 1)).flatMap stN)) 103 from hy.out ▸ hkz)
              clear hkz
              go_wp2
              go_roundw
              case rel => exact ⟨k + 1, by omega, by go_num, HO6.out, hbz⟩
              case measure => simp [intOf]; omega
      · have hy := put (show (f.stmts.take k).flatMap stN = fnN f by rw [List.take_of_length_le (by rw [r2.1]; omega)]; rfl)
        rw [hy.out] at hkeep
        generalize fnN f = S at hkeep hf
        go_wp2
        go_loopw [11, 49] (fun v i wz => ∃ j : Nat, j ≤ 5 ∧ i = .int .i64 j ∧ Nums wz (w1.heap.size + 1) 3 .i64 v (namedTo j S) ∧ Keep wz w1.heap.size (flags S) 103 ∧ Below w1.heap.size w1 wz) (fun _ i _ => 5 - (intOf i).toNat)
        case atStart => exact ⟨0, Nat.zero_le _, rfl, by simpa [namedTo] using Nums.nil _ _ _ _, hkeep, hbel⟩
        case round =>
          clear hkeep hbel
          obtain ⟨j, hj, rfl, hown, hkeep, hbel⟩ := hrel
          have hkl := hkeep.lt
          by_cases hltj : j < 5
          · have hcell := hkeep.cell j
            rw [flags_at S j hltj] at hcell
            have hmore := put (namedTo_more S j hltj)
            have HLEN := put (namedTo_length j S)
            by_cases hin : (j : Int) ∈ S
            · rw [decide_eq_true hin] at hcell
              rw [if_pos hin] at hmore
              clear hin
              go_wp2_with (at_builtin; refine wpList_append_one rfl _ _ 22 rfl (w1.heap.size + 1) 3 .i64 8 Try.info3 Try.underlying22 (by decide) _ (namedTo j S) rfl wr ((Below.refl _ wr).alloc (by omega) _) (by simp; omega) (hown.alloc _) wr.heap.size (j : Int) rfl (by simp) (by have := HLEN.out; omega) ?_; intro v1 w3 hown1 hbel1 _)
              have hkeep1 : Keep w3 w1.heap.size (flags S) 103 := (hbel1.block _ (by omega)).trans hkeep
              have HO := put (show Nums w3 (w1.heap.size + 1) 3 .i64 v1 (namedTo (j + 1) S) by rw [hmore.out]; exact hown1)
              clear hown hown1
              go_roundw
              case rel => exact ⟨j + 1, by omega, by go_num, HO.out, hkeep1, hbel.trans (hbel1.mono (by omega))⟩
              case measure => simp [intOf]; omega
            · rw [decide_eq_false hin] at hcell
              rw [if_neg hin, List.append_nil] at hmore
              have HO := put (show Nums wr (w1.heap.size + 1) 3 .i64 _ (namedTo (j + 1) S) by rw [hmore.out]; exact hown)
              clear hin hown
              go_wp2
              go_roundw
              case rel => exact ⟨j + 1, by omega, by go_num, HO.out, hkeep, hbel⟩
              case measure => simp [intOf]; omega
          · obtain rfl : j = 5 := by omega
            rw [namedTo_all] at hown
            have HO := put (hown.more (show w.heap.size ≤ w1.heap.size + 1 by omega))
            clear hown
            go_wp2
            go_ret2
            exact ⟨_, retL (by rw [hf.out]), by rw [hf.out]; exact HO.out, b1.trans (hbel.mono (Nat.le_of_lt hsz1))⟩

end Go.Proofs.Ytfdijeeilfhjeaa

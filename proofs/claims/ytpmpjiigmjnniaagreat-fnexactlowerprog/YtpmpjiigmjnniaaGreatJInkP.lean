/-
  The laws' marks on a copied program: numbers over numbers, in the copy's own blocks alone. Contracts.
-/
import Derived.Test.YtpmpjiigmjnniaaGreatJPrgTo2
import Derived.Test.YtpmpjiigmjnniaaGreatJSpA
namespace Go.Proofs.YtpmpjiigmjnniaaGreat
open Go.RowKit Exs


set_option maxHeartbeats 400000 in
set_option maxRecDepth 100000 in
theorem markInts_ink (A : Option Addr) (n c : Nat) (xs : List Int) (k : Int) (L : Nat) (wc w0 w : World) (m : MInts wc L A n xs) (hw : Below wc.heap.size wc w0) (hi : Inked L wc.heap.size w0 w) (hn : n ≤ 1048576) (hk0 : 0 ≤ k) (hk1 : k ≤ 1000000000) :
    Calls Tryz.prog 31 #[.slice A n c, .int .i64 k] w fun e w' => e = .returned (.int .i64 (k + (n : Int))) ∧ Inked L wc.heap.size w0 w' := by
  obtain ⟨g, rfl, hL, hroom, hl⟩ := m
  have hlt := hroom.lt
  obtain ⟨cs, hg0, hcs⟩ := hroom.cells_
  have hg := (hw.block g hlt).trans hg0
  clear hg0
  have HL := put hl
  have HG := put hg
  have HLT := put hlt
  have HC := put hcs
  clear hg hcs hl hroom hlt
  go_enter Tryz.func31, Tryz.ntmps31
  go_wp2
  go_loopw [1, 5] (fun u i wr => ∃ j : Nat, j ≤ n ∧ i = .int .i64 j ∧ u = .int .i64 (k + (j : Int)) ∧ Inked L wc.heap.size w0 wr) (fun _ i _ => n - (intOf i).toNat)
  case atStart => exact ⟨0, Nat.zero_le _, rfl, by simp, hi⟩
  case round =>
    clear hi
    obtain ⟨j, hj, rfl, rfl, hi⟩ := hrel
    by_cases hlt : j < n
    · have hc := HC.out j (by rw [HL.out]; exact hlt)
      obtain ⟨y, hy⟩ := hi.num HG.out hc
      have hfr := hi.frozen HG.out j
      have hset := put (hi.set hL HLT.out HG.out hc (k + (j : Int)))
      clear hc
      go_wp2
      go_roundw
      case rel => exact ⟨j + 1, by omega, by go_num, by first | (congr 1; done) | (congr 1; omega), hset.out⟩
      case measure => simp [intOf]; omega
    · obtain rfl : j = n := by omega
      go_wp2
      go_ret
      exact ⟨rfl, hi⟩

set_option maxHeartbeats 400000 in
set_option maxRecDepth 100000 in
theorem markToks_ink (A : Option Addr) (n c : Nat) (ts : List Token) (k : Int) (L : Nat) (wc w0 w : World) (m : MToks wc L A n ts) (hw : Below wc.heap.size wc w0) (hi : Inked L wc.heap.size w0 w) (hn : n ≤ 1048576) (hk0 : 0 ≤ k) (hk1 : k ≤ 1000000000) :
    Calls Tryz.prog 74 #[.slice A n c, .int .i64 k] w fun e w' => e = .returned (.int .i64 (k + 2 * (n : Int))) ∧ Inked L wc.heap.size w0 w' := by
  obtain ⟨g, rfl, hL, hroom, hl⟩ := m
  have hlt := hroom.lt
  obtain ⟨cs, hg0, hcs⟩ := hroom.cells_
  have hg := (hw.block g hlt).trans hg0
  clear hg0
  rw [flat_length, hl] at hcs
  have HG := put hg
  have HLT := put hlt
  have HC := put hcs
  clear hg hcs hl hroom hlt
  go_enter Tryz.func74, Tryz.ntmps74
  go_wp2
  go_loopw [1, 5] (fun u i wr => ∃ j : Nat, j ≤ n ∧ i = .int .i64 j ∧ u = .int .i64 (k + 2 * (j : Int)) ∧ Inked L wc.heap.size w0 wr) (fun _ i _ => n - (intOf i).toNat)
  case atStart => exact ⟨0, Nat.zero_le _, rfl, by simp, hi⟩
  case round =>
    clear hi
    obtain ⟨j, hj, rfl, rfl, hi⟩ := hrel
    by_cases hlt : j < n
    · have hc := HC.out (j * 2) (by omega)
      have hc' := HC.out (j * 2 + 1) (by omega)
      obtain ⟨y, hy⟩ := hi.num HG.out hc
      obtain ⟨y', hy'⟩ := hi.num HG.out hc'
      have hfr := hi.frozen HG.out (j * 2)
      have hfr' := hi.frozen HG.out (j * 2 + 1)
      have hset := put ((hi.set hL HLT.out HG.out hc (k + 2 * (j : Int))).set hL HLT.out HG.out hc' (k + 2 * (j : Int) + 1))
      clear hc hc'
      go_wp2
      go_roundw
      case rel => exact ⟨j + 1, by omega, by go_num, by first | (congr 1; done) | (congr 1; omega), hset.out⟩
      case measure => simp [intOf]; omega
    · obtain rfl : j = n := by omega
      go_wp2
      go_ret
      exact ⟨rfl, hi⟩



set_option maxHeartbeats 1000000 in
set_option maxRecDepth 100000 in
theorem markStmts_ink (A : Option Addr) (n c : Nat) (ss : List St) (k : Int) (L : Nat) (wc w0 w : World) (m : MStmts wc L A n ss) (hw : Below wc.heap.size wc w0) (hi : Inked L wc.heap.size w0 w) (hn : n ≤ 1048576) (hs : ∀ x ∈ ss, SmallS x) (hk0 : 0 ≤ k) (hk1 : k + (inkSs ss : Int) ≤ 1000000000) :
    Calls Tryz.prog 55 #[.slice A n c, .int .i64 k] w fun e w' => e = .returned (.int .i64 (k + (inkSs ss : Int))) ∧ Inked L wc.heap.size w0 w' := by
  obtain ⟨g, rfl, hL, hroom, hl⟩ := m
  have hgl := hroom.lt
  obtain ⟨cs, hg0, _, hcs⟩ := hroom
  have hg := (hw.block g hgl).trans hg0
  have HLT := put hgl
  clear hg0 hgl
  have HL := put hl
  have HG := put hg
  have HC := put hcs
  have HK := put hk1
  clear hg hcs hl hk1
  go_enter Tryz.func55, Tryz.ntmps55
  go_wp2
  go_loopw [1, 5] (fun u i wr => ∃ j : Nat, j ≤ n ∧ i = .int .i64 j ∧ u = .int .i64 (k + (inkSs (ss.take j) : Int)) ∧ Inked L wc.heap.size w0 wr) (fun _ i _ => n - (intOf i).toNat)
  case atStart => exact ⟨0, Nat.zero_le _, rfl, by simp [inkSs], hi⟩
  case round =>
    clear hi
    obtain ⟨j, hj, rfl, rfl, hi⟩ := hrel
    by_cases hlt : j < n
    · have hx : ss[j]? = some (ss[j]'(by rw [HL.out]; exact hlt)) := List.getElem?_eq_getElem _
      generalize ss[j]'(by rw [HL.out]; exact hlt) = s at hx
      obtain ⟨A1, n1, c1, A2, n2, c2, A3, n3, c3, g0, g1, g2, g3, g4, ms⟩ := HC.out j s hx
      have hss := hs s (mem_of_at hx)
      have l1 : n1 ≤ 1048576 := by obtain ⟨_, _, _, _, e⟩ := ms.ex; rw [← e]; exact hss.1
      have l2 : n2 ≤ 1048576 := by obtain ⟨_, _, _, _, e⟩ := ms.th; rw [← e]; exact hss.2.1
      have l3 : n3 ≤ 1048576 := by obtain ⟨_, _, _, _, e⟩ := ms.el; rw [← e]; exact hss.2.2
      have hstep := inkSs_step hx
      have hval : inkS s = 2 + 2 * n1 + n2 + n3 := by
        obtain ⟨_, _, _, _, e1⟩ := ms.ex; obtain ⟨_, _, _, _, e2⟩ := ms.th; obtain ⟨_, _, _, _, e3⟩ := ms.el
        unfold inkS; rw [e1, e2, e3]
      have hbd : k + ((inkSs (ss.take j) : Nat) : Int) + 2 + 2 * (n1 : Int) + (n2 : Int) + (n3 : Int) ≤ 1000000000 := by have := HK.out; have := hstep.2; omega
      have HN := put (show (k + ((inkSs (ss.take j) : Nat) : Int) + 1 + 1 + 2 * (n1 : Int) + (n2 : Int) + (n3 : Int)) = k + ((inkSs (ss.take (j + 1)) : Nat) : Int) by rw [hstep.1, hval]; omega)
      generalize inkSs (ss.take j) = T at hbd HN
      clear hstep hval
      obtain ⟨y, hy⟩ := hi.num HG.out g0
      obtain ⟨y', hy'⟩ := hi.num HG.out g1
      have hfr := hi.frozen HG.out (j * 5)
      have hfr' := hi.frozen HG.out (j * 5 + 1)
      have hi2 := (hi.set hL HLT.out HG.out g0 (k + (T : Int))).set hL HLT.out HG.out g1 (k + (T : Int) + 1)
      have q2 := hi.slc HG.out g2
      clear g0 g1 hx
      have M1 := put (ms.ex.from (show L ≤ g + 1 by omega))
      have M2 := put (ms.th.from (show L ≤ g + 1 by omega))
      have M3 := put (ms.el.from (show L ≤ g + 1 by omega))
      have G2 := put g2
      have G3 := put g3
      have G4 := put g4
      clear g2 g3 g4 ms hi
      go_wp2_with fail
      generalize (wr.setCell ⟨g, j * 5, none⟩ (.int .i64 (k + (T : Int)))).setCell ⟨g, j * 5 + 1, none⟩ (.int .i64 (k + (T : Int) + 1)) = W at hi2 ⊢
      clear hy hy' hfr hfr' q2
      refine (markToks_ink A1 n1 c1 s.ex (k + (T : Int) + 1 + 1) L wc w0 W M1.out hw hi2 l1 (by omega) (by omega)).mono ?_
      rintro e W1 ⟨rfl, hi3⟩
      have q3 := hi3.slc HG.out G3.out
      clear hi2
      go_wp2_with fail
      clear q3
      refine (markInts_ink A2 n2 c2 s.th (k + (T : Int) + 1 + 1 + 2 * (n1 : Int)) L wc w0 W1 M2.out hw hi3 l2 (by omega) (by omega)).mono ?_
      rintro e W2 ⟨rfl, hi4⟩
      have q4 := hi4.slc HG.out G4.out
      clear hi3
      go_wp2_with fail
      clear q4
      refine (markInts_ink A3 n3 c3 s.el (k + (T : Int) + 1 + 1 + 2 * (n1 : Int) + (n2 : Int)) L wc w0 W2 M3.out hw hi4 l3 (by omega) (by omega)).mono ?_
      rintro e W3 ⟨rfl, hi5⟩
      clear hi4
      go_wp2
      go_roundw
      case rel => exact ⟨j + 1, by omega, by go_num, by rw [HN.out], hi5⟩
      case measure => simp [intOf]; omega
    · have hfin := put (show ss.take j = ss from List.take_of_length_le (by rw [HL.out]; omega))
      go_wp2
      go_ret
      exact ⟨ret_int (by rw [hfin.out]), hi⟩

set_option maxHeartbeats 1000000 in
set_option maxRecDepth 100000 in
theorem markFuncs_ink (A : Option Addr) (n c : Nat) (fs : List Fc) (k : Int) (L : Nat) (wc w0 w : World) (m : MFuncs wc L A n fs) (hw : Below wc.heap.size wc w0) (hi : Inked L wc.heap.size w0 w) (hn : n ≤ 1048576) (hs : ∀ x ∈ fs, SmallF x) (hk0 : 0 ≤ k) (hk1 : k + (inkFs fs : Int) ≤ 1000000000) :
    Calls Tryz.prog 30 #[.slice A n c, .int .i64 k] w fun e w' => e = .returned (.int .i64 (k + (inkFs fs : Int))) ∧ Inked L wc.heap.size w0 w' := by
  obtain ⟨g, rfl, hL, hroom, hl⟩ := m
  have hgl := hroom.lt
  obtain ⟨cs, hg0, _, hcs⟩ := hroom
  have hg := (hw.block g hgl).trans hg0
  have HLT := put hgl
  clear hg0 hgl
  have HL := put hl
  have HG := put hg
  have HC := put hcs
  have HK := put hk1
  clear hg hcs hl hk1
  go_enter Tryz.func30, Tryz.ntmps30
  go_wp2
  go_loopw [1, 5] (fun u i wr => ∃ j : Nat, j ≤ n ∧ i = .int .i64 j ∧ u = .int .i64 (k + (inkFs (fs.take j) : Int)) ∧ Inked L wc.heap.size w0 wr) (fun _ i _ => n - (intOf i).toNat)
  case atStart => exact ⟨0, Nat.zero_le _, rfl, by simp [inkFs], hi⟩
  case round =>
    clear hi
    obtain ⟨j, hj, rfl, rfl, hi⟩ := hrel
    by_cases hlt : j < n
    · have hx : fs[j]? = some (fs[j]'(by rw [HL.out]; exact hlt)) := List.getElem?_eq_getElem _
      generalize fs[j]'(by rw [HL.out]; exact hlt) = s at hx
      obtain ⟨A1, n1, c1, A2, n2, c2, g0, g1, g2, g3, ms⟩ := HC.out j s hx
      have hss := hs s (mem_of_at hx)
      have l1 : n1 ≤ 1048576 := by obtain ⟨_, _, _, _, e⟩ := ms.body; rw [← e]; exact hss.1
      have l2 : n2 ≤ 1048576 := by obtain ⟨_, _, _, _, e⟩ := ms.stmts; rw [← e]; exact hss.2.1
      have hstep := inkFs_step hx
      have hval : inkF s = n1 + inkSs s.stmts := by
        obtain ⟨_, _, _, _, e1⟩ := ms.body
        unfold inkF; rw [e1]
      have hbd : k + ((inkFs (fs.take j) : Nat) : Int) + 2 + (n1 : Int) + ((inkSs s.stmts : Nat) : Int) ≤ 1000000000 := by have := HK.out; have := hstep.2; omega
      have HN := put (show (k + ((inkFs (fs.take j) : Nat) : Int) + 1 + 1 + (n1 : Int) + ((inkSs s.stmts : Nat) : Int)) = k + ((inkFs (fs.take (j + 1)) : Nat) : Int) by rw [hstep.1, hval]; omega)
      generalize inkFs (fs.take j) = T at hbd HN
      clear hstep hval
      obtain ⟨y, hy⟩ := hi.num HG.out g0
      obtain ⟨y', hy'⟩ := hi.num HG.out g1
      have hfr := hi.frozen HG.out (j * 4)
      have hfr' := hi.frozen HG.out (j * 4 + 1)
      have hi2 := (hi.set hL HLT.out HG.out g0 (k + (T : Int))).set hL HLT.out HG.out g1 (k + (T : Int) + 1)
      have q2 := hi.slc HG.out g2
      clear g0 g1 hx
      have M1 := put (ms.body.from (show L ≤ g + 1 by omega))
      have M2 := put (ms.stmts.from (show L ≤ g + 1 by omega))
      have G3 := put g3
      have HB := put hbd
      clear g2 g3 ms hi
      go_wp2_with fail
      generalize (wr.setCell ⟨g, j * 4, none⟩ (.int .i64 (k + (T : Int)))).setCell ⟨g, j * 4 + 1, none⟩ (.int .i64 (k + (T : Int) + 1)) = W at hi2 ⊢
      clear hy hy' hfr hfr' q2
      refine (markInts_ink A1 n1 c1 s.body (k + (T : Int) + 1 + 1) L wc w0 W M1.out hw hi2 l1 (by omega) (by omega)).mono ?_
      rintro e W1 ⟨rfl, hi3⟩
      have q3 := hi3.slc HG.out G3.out
      clear hi2
      go_wp2_with fail
      clear q3
      refine (markStmts_ink A2 n2 c2 s.stmts (k + (T : Int) + 1 + 1 + (n1 : Int)) L wc w0 W1 M2.out hw hi3 l2 hss.2.2 (by omega) (by omega)).mono ?_
      rintro e W2 ⟨rfl, hi4⟩
      clear hi3
      go_wp2
      go_roundw
      case rel => exact ⟨j + 1, by omega, by go_num, by rw [HN.out], hi4⟩
      case measure => simp [intOf]; omega
    · have hfin := put (show fs.take j = fs from List.take_of_length_le (by rw [HL.out]; omega))
      go_wp2
      go_ret
      exact ⟨ret_int (by rw [hfin.out]), hi⟩

set_option maxHeartbeats 400000 in
theorem markProg_ink (A : Option Addr) (n c : Nat) (fs : List Fc) (k : Int) (L : Nat) (wc w : World) (m : MFuncs wc L A n fs) (hL : L ≤ wc.heap.size) (hw : Below wc.heap.size wc w) (hs : SmallP fs) (hk0 : 0 ≤ k) (hk1 : k + (inkFs fs : Int) ≤ 1000000000) :
    Calls Tryz.prog 11 #[.agg #[.slice A n c], .int .i64 k] w fun e w' => e = .returned (.int .i64 (k + (inkFs fs : Int))) ∧ Inked L wc.heap.size w w' := by
  have hi1 := (Inked.refl L wc.heap.size w).alloc (Nat.le_trans hL hw.size) (.cells #[.slice A n c] 35)
  have hn : n ≤ 1048576 := by obtain ⟨_, _, _, _, e⟩ := m; rw [← e]; exact hs.1
  go_enter Tryz.func11, Tryz.ntmps11
  go_wp2_with fail
  refine (markFuncs_ink A n c fs k L wc w _ m hw hi1 hn hs.2 hk0 hk1).mono ?_
  rintro e w1 ⟨rfl, hi2⟩
  go_wp2
  go_ret
  exact ⟨rfl, hi2⟩


end Go.Proofs.YtpmpjiigmjnniaaGreat

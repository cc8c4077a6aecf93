/-
  The laws' marks on a copied program, and on a row of numbers of the call's own: contracts.
-/
import Derived.Test.YtfdijeeilfhjeaaInk
import Derived.Test.YtfdijeeilfhjeaaSpA
namespace Go.Proofs.Ytfdijeeilfhjeaa
open Go.RowKit Exs

set_option maxHeartbeats 1000000 in
set_option maxRecDepth 100000 in
theorem markStmts_ink (A : Option Addr) (n c : Nat) (ss : List St) (k : Int) (L : Nat) (wc w0 w : World) (m : MStmts wc L A n ss) (hw : Below wc.heap.size wc w0) (hi : Inked L wc.heap.size w0 w) (hn : n ≤ 1048576) (hs : ∀ x ∈ ss, SmallS x) (hk0 : 0 ≤ k) (hk1 : k + (inkSs ss : Int) ≤ 1000000000) :
    Calls Try.prog 67 #[.slice A n c, .int .i64 k] w fun e w' => e = .returned (.int .i64 (k + (inkSs ss : Int))) ∧ Inked L wc.heap.size w0 w' := by
  obtain ⟨g, rfl, hL, hroom, hl⟩ := m
  have hgl := hroom.lt
  obtain ⟨cs, hg0, _, hcs⟩ := hroom
  have hg := (hw.block g hgl).trans hg0
  have HLT := put hgl
  clear hg0 hgl
  have HL := put hl
  have HG := put hg
  have HC := put hcs
  have HK := put hk1
  clear hg hcs hl hk1
  go_enter Try.func67, Try.ntmps67
  go_wp2
  go_loopw [1, 5] (fun u i wr => ∃ j : Nat, j ≤ n ∧ i = .int .i64 j ∧ u = .int .i64 (k + (inkSs (ss.take j) : Int)) ∧ Inked L wc.heap.size w0 wr) (fun _ i _ => n - (intOf i).toNat)
  case atStart => exact ⟨0, Nat.zero_le _, rfl, by simp [inkSs], hi⟩
  case round =>
    clear hi
    obtain ⟨j, hj, rfl, rfl, hi⟩ := hrel
    by_cases hlt : j < n
    · have hx : ss[j]? = some (ss[j]'(by rw [HL.out]; exact hlt)) := List.getElem?_eq_getElem _
      generalize ss[j]'(by rw [HL.out]; exact hlt) = s at hx
      obtain ⟨A1, n1, c1, A2, n2, c2, A3, n3, c3, g0, g1, g2, g3, g4, ms⟩ := HC.out j s hx
      have hss := hs s (mem_of_at hx)
      have l1 : n1 ≤ 1048576 := by obtain ⟨_, _, _, _, e⟩ := ms.ex; rw [← e]; exact hss.1
      have l2 : n2 ≤ 1048576 := by obtain ⟨_, _, _, _, e⟩ := ms.th; rw [← e]; exact hss.2.1
      have l3 : n3 ≤ 1048576 := by obtain ⟨_, _, _, _, e⟩ := ms.el; rw [← e]; exact hss.2.2
      have hstep := inkSs_step hx
      have hval : inkS s = 2 + 2 * n1 + n2 + n3 := by
        obtain ⟨_, _, _, _, e1⟩ := ms.ex; obtain ⟨_, _, _, _, e2⟩ := ms.th; obtain ⟨_, _, _, _, e3⟩ := ms.el
        unfold inkS; rw [e1, e2, e3]
      have hbd : k + ((inkSs (ss.take j) : Nat) : Int) + 2 + 2 * (n1 : Int) + (n2 : Int) + (n3 : Int) ≤ 1000000000 := by have := HK.out; have := hstep.2; omega
      have HN := put (show (k + ((inkSs (ss.take j) : Nat) : Int) + 1 + 1 + 2 * (n1 : Int) + (n2 : Int) + (n3 : Int)) = k + ((inkSs (ss.take (j + 1)) : Nat) : Int) by rw [hstep.1, hval]; omega)
      generalize inkSs (ss.take j) = T at hbd HN
      clear hstep hval
      obtain ⟨y, hy⟩ := hi.num HG.out g0
      obtain ⟨y', hy'⟩ := hi.num HG.out g1
      have hfr := hi.frozen HG.out (j * 5)
      have hfr' := hi.frozen HG.out (j * 5 + 1)
      have hi2 := (hi.set hL HLT.out HG.out g0 (k + (T : Int))).set hL HLT.out HG.out g1 (k + (T : Int) + 1)
      have q2 := hi.slc HG.out g2
      clear g0 g1 hx
      have M1 := put (ms.ex.from (show L ≤ g + 1 by omega))
      have M2 := put (ms.th.from (show L ≤ g + 1 by omega))
      have M3 := put (ms.el.from (show L ≤ g + 1 by omega))
      have G2 := put g2
      have G3 := put g3
      have G4 := put g4
      clear g2 g3 g4 ms hi
      go_wp2_with fail
      generalize (wr.setCell ⟨g, j * 5, none⟩ (.int .i64 (k + (T : Int)))).setCell ⟨g, j * 5 + 1, none⟩ (.int .i64 (k + (T : Int) + 1)) = W at hi2 ⊢
      clear hy hy' hfr hfr' q2
      refine (markToks_ink A1 n1 c1 s.ex (k + (T : Int) + 1 + 1) L wc w0 W M1.out hw hi2 l1 (by omega) (by omega)).mono ?_
      rintro e W1 ⟨rfl, hi3⟩
      have q3 := hi3.slc HG.out G3.out
      clear hi2
      go_wp2_with fail
      clear q3
      refine (markInts_ink A2 n2 c2 s.th (k + (T : Int) + 1 + 1 + 2 * (n1 : Int)) L wc w0 W1 M2.out hw hi3 l2 (by omega) (by omega)).mono ?_
      rintro e W2 ⟨rfl, hi4⟩
      have q4 := hi4.slc HG.out G4.out
      clear hi3
      go_wp2_with fail
      clear q4
      refine (markInts_ink A3 n3 c3 s.el (k + (T : Int) + 1 + 1 + 2 * (n1 : Int) + (n2 : Int)) L wc w0 W2 M3.out hw hi4 l3 (by omega) (by omega)).mono ?_
      rintro e W3 ⟨rfl, hi5⟩
      clear hi4
      go_wp2
      go_roundw
      case rel => exact ⟨j + 1, by omega, by go_num, by rw [HN.out], hi5⟩
      case measure => simp [intOf]; omega
    · have hfin := put (show ss.take j = ss from List.take_of_length_le (by rw [HL.out]; omega))
      go_wp2
      go_ret
      exact ⟨ret_int (by rw [hfin.out]), hi⟩

set_option maxHeartbeats 400000 in
theorem markFunc_ink (f : Fc) (A1 : Option Addr) (n1 c1 : Nat) (A2 : Option Addr) (n2 c2 : Nat) (k : Int) (L : Nat) (wc w : World) (m : MFc wc L f A1 n1 A2 n2) (hL : L ≤ wc.heap.size) (hw : Below wc.heap.size wc w) (hs : SmallF f) (hk0 : 0 ≤ k) (hk1 : k + (inkF f : Int) ≤ 1000000000) :
    Calls Try.prog 26 #[fcV f A1 n1 c1 A2 n2 c2, .int .i64 k] w fun e w' => e = .returned (.int .i64 (k + (inkF f : Int))) ∧ Inked L wc.heap.size w w' := by
  have hi1 := (Inked.refl L wc.heap.size w).alloc (Nat.le_trans hL hw.size) (.cells #[.int .i64 f.params, .int .i64 f.vars, .slice A1 n1 c1, .slice A2 n2 c2] 58)
  have hw1 := hw.alloc hw.size (.cells #[.int .i64 f.params, .int .i64 f.vars, .slice A1 n1 c1, .slice A2 n2 c2] 58)
  have hk := Keep.new w #[.int .i64 f.params, .int .i64 f.vars, .slice A1 n1 c1, .slice A2 n2 c2] 58
  have e1 : f.body.length = n1 := by obtain ⟨_, _, _, _, e⟩ := m.body; exact e
  have l1 : n1 ≤ 1048576 := by rw [← e1]; exact hs.1
  have l2 : n2 ≤ 1048576 := by obtain ⟨_, _, _, _, e⟩ := m.stmts; rw [← e]; exact hs.2.1
  have hval : ((inkF f : Nat) : Int) = (n1 : Int) + ((inkSs f.stmts : Nat) : Int) := by unfold inkF; rw [e1]; omega
  have hsz := hw.size
  rw [hval] at hk1 ⊢
  clear hval e1
  have HK := put hk1
  unfold fcV
  go_enter Try.func26, Try.ntmps26
  go_wp2_with fail
  generalize w.alloc (.cells #[.int .i64 f.params, .int .i64 f.vars, .slice A1 n1 c1, .slice A2 n2 c2] 58) = W at hi1 hw1 hk ⊢
  refine (markInts_ink A1 n1 c1 f.body k L wc W W m.body hw1 (Inked.refl _ _ _) l1 hk0 (by have := HK.out; omega)).mono ?_
  rintro e w1 ⟨rfl, hi2⟩
  have y : w1.cell? ⟨w.heap.size, 3, none⟩ = some (.slice A2 n2 c2) := by
    have h1 : Keep w1 w.heap.size #[.int .i64 f.params, .int .i64 f.vars, .slice A1 n1 c1, .slice A2 n2 c2] 58 := (hi2.above _ hsz hk.lt).trans hk
    simpa using h1.cell 3
  go_wp2_with fail
  refine (markStmts_ink A2 n2 c2 f.stmts (k + (n1 : Int)) L wc W w1 m.stmts hw1 hi2 l2 hs.2.2 (by omega) (by have := HK.out; omega)).mono ?_
  rintro e w2 ⟨rfl, hi3⟩
  go_wp2
  go_ret
  exact ⟨ret_int (by omega), hi1.trans hi3⟩

end Go.Proofs.Ytfdijeeilfhjeaa

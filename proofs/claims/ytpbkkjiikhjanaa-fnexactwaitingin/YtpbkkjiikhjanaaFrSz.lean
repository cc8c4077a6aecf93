/-
  The laws' counting of frames' values.
-/
import Derived.Test.YtpbkkjiikhjanaaFrM
namespace Go.Proofs.Ytpbkkjiikhjanaa
open Go.RowKit Exs


set_option maxHeartbeats 1000000 in
theorem szFr_any (s : Fr) (A1 : Option Addr) (n1 c1 : Nat) (A2 : Option Addr) (n2 c2 : Nat) (A3 : Option Addr) (n3 c3 : Nat) (left : Int) (w : World) (e1 : s.pile.length = n1) (e2 : s.vars.length = n2) (e3 : s.flags.length = n3) (hl : LongFr s) (h0 : 0 ≤ left) (h1 : left ≤ 1048576) :
    Calls Try.prog 27 #[frV s A1 n1 c1 A2 n2 c2 A3 n3 c3, .int .i64 left] w fun e w' => e = .returned (.int .i64 (szA (manyFr s) left)) ∧ Below w.heap.size w w' := by
  obtain ⟨l1, l2, l3⟩ := hl
  have hm := put (show manyFr s = n1 + n2 + n3 by simp only [manyFr, e1, e2, e3])
  rw [e1] at l1
  rw [e2] at l2
  rw [e3] at l3
  have z1 := fun (W : World) (left : Int) (h0 : 0 ≤ left) (h1 : left ≤ 1048576) => szInts_any A1 n1 c1 left W l1 h0 h1
  have z2 := fun (W : World) (left : Int) (h0 : 0 ≤ left) (h1 : left ≤ 1048576) => szInts_any A2 n2 c2 left W l2 h0 h1
  have z3 := fun (W : World) (left : Int) (h0 : 0 ≤ left) (h1 : left ≤ 1048576) => szBools_any A3 n3 c3 left W l3 h0 h1
  clear  e1 e2 e3
  have hb0 : Below w.heap.size w (w.alloc (.cells #[.int .i64 s.ide, .int .i64 s.fn, .int .i64 s.pla, .slice A1 n1 c1, .slice A2 n2 c2, .slice A3 n3 c3, .int .i64 s.result, .int .i64 s.mode, .int .i64 s.value, .int .i64 s.base, .bool s.off] 58)) := (Below.refl _ _).alloc (Nat.le_refl _) _
  have hk0 := Keep.new w #[.int .i64 s.ide, .int .i64 s.fn, .int .i64 s.pla, .slice A1 n1 c1, .slice A2 n2 c2, .slice A3 n3 c3, .int .i64 s.result, .int .i64 s.mode, .int .i64 s.value, .int .i64 s.base, .bool s.off] 58
  have Z1 := put z1
  have Z2 := put z2
  have Z3 := put z3
  clear z1 z2 z3
  unfold frV
  by_cases k1 : ((n1 : Nat) : Int) ≤ left
  · by_cases k2 : ((n2 : Nat) : Int) ≤ left - n1
    · by_cases k3 : ((n3 : Nat) : Int) ≤ left - n1 - n2
      · rw [szA_fit (by rw [hm.out]; omega)]
        go_enter Try.func27, Try.ntmps27
        go_wp2_with fail
        generalize hW : w.alloc (.cells #[.int .i64 s.ide, .int .i64 s.fn, .int .i64 s.pla, .slice A1 n1 c1, .slice A2 n2 c2, .slice A3 n3 c3, .int .i64 s.result, .int .i64 s.mode, .int .i64 s.value, .int .i64 s.base, .bool s.off] 58) = W0 at hb0 hk0 ⊢
        clear hW
        refine (Z1.out _ (left) (by omega) (by omega)).mono ?_
        rintro e W1 ⟨rfl, rfl⟩
        have hb1 := hb0
        have hk1 := hk0
        rw [szA_fit k1]
        clear hb0 hk0
        have y := hk1.cell 4
        simp at y
        go_wp2_with fail
        clear y
        refine (Z2.out _ (left - n1) (by omega) (by omega)).mono ?_
        rintro e W2 ⟨rfl, rfl⟩
        have hb2 := hb1
        have hk2 := hk1
        rw [szA_fit k2]
        clear hb1 hk1
        have y := hk2.cell 5
        simp at y
        go_wp2_with fail
        clear y
        refine (Z3.out _ (left - n1 - n2) (by omega) (by omega)).mono ?_
        rintro e W3 ⟨rfl, rfl⟩
        have hb3 := hb2
        have hk3 := hk2
        rw [szA_fit k3]
        clear hb2 hk2
        go_wp2
        go_ret
        exact ⟨ret_int (by rw [hm.out]; omega), hb3⟩
      · have k3 := Int.not_le.1 k3
        rw [szA_no (by rw [hm.out]; omega)]
        go_enter Try.func27, Try.ntmps27
        go_wp2_with fail
        generalize hW : w.alloc (.cells #[.int .i64 s.ide, .int .i64 s.fn, .int .i64 s.pla, .slice A1 n1 c1, .slice A2 n2 c2, .slice A3 n3 c3, .int .i64 s.result, .int .i64 s.mode, .int .i64 s.value, .int .i64 s.base, .bool s.off] 58) = W0 at hb0 hk0 ⊢
        clear hW
        refine (Z1.out _ (left) (by omega) (by omega)).mono ?_
        rintro e W1 ⟨rfl, rfl⟩
        have hb1 := hb0
        have hk1 := hk0
        rw [szA_fit k1]
        clear hb0 hk0
        have y := hk1.cell 4
        simp at y
        go_wp2_with fail
        clear y
        refine (Z2.out _ (left - n1) (by omega) (by omega)).mono ?_
        rintro e W2 ⟨rfl, rfl⟩
        have hb2 := hb1
        have hk2 := hk1
        rw [szA_fit k2]
        clear hb1 hk1
        have y := hk2.cell 5
        simp at y
        go_wp2_with fail
        clear y
        refine (Z3.out _ (left - n1 - n2) (by omega) (by omega)).mono ?_
        rintro e W3 ⟨rfl, rfl⟩
        have hb3 := hb2
        have hk3 := hk2
        rw [szA_no k3]
        clear hb2 hk2
        go_wp2
        go_ret
        exact ⟨rfl, hb3⟩
    · have k2 := Int.not_le.1 k2
      rw [szA_no (by rw [hm.out]; omega)]
      go_enter Try.func27, Try.ntmps27
      go_wp2_with fail
      generalize hW : w.alloc (.cells #[.int .i64 s.ide, .int .i64 s.fn, .int .i64 s.pla, .slice A1 n1 c1, .slice A2 n2 c2, .slice A3 n3 c3, .int .i64 s.result, .int .i64 s.mode, .int .i64 s.value, .int .i64 s.base, .bool s.off] 58) = W0 at hb0 hk0 ⊢
      clear hW
      refine (Z1.out _ (left) (by omega) (by omega)).mono ?_
      rintro e W1 ⟨rfl, rfl⟩
      have hb1 := hb0
      have hk1 := hk0
      rw [szA_fit k1]
      clear hb0 hk0
      have y := hk1.cell 4
      simp at y
      go_wp2_with fail
      clear y
      refine (Z2.out _ (left - n1) (by omega) (by omega)).mono ?_
      rintro e W2 ⟨rfl, rfl⟩
      have hb2 := hb1
      have hk2 := hk1
      rw [szA_no k2]
      clear hb1 hk1
      go_wp2
      go_ret
      exact ⟨rfl, hb2⟩
  · have k1 := Int.not_le.1 k1
    rw [szA_no (by rw [hm.out]; omega)]
    go_enter Try.func27, Try.ntmps27
    go_wp2_with fail
    generalize hW : w.alloc (.cells #[.int .i64 s.ide, .int .i64 s.fn, .int .i64 s.pla, .slice A1 n1 c1, .slice A2 n2 c2, .slice A3 n3 c3, .int .i64 s.result, .int .i64 s.mode, .int .i64 s.value, .int .i64 s.base, .bool s.off] 58) = W0 at hb0 hk0 ⊢
    clear hW
    refine (Z1.out _ (left) (by omega) (by omega)).mono ?_
    rintro e W1 ⟨rfl, rfl⟩
    have hb1 := hb0
    have hk1 := hk0
    rw [szA_no k1]
    clear hb0 hk0
    go_wp2
    go_ret
    exact ⟨rfl, hb1⟩

set_option maxHeartbeats 1000000 in
set_option maxRecDepth 100000 in
theorem szFrs_any (A : Option Addr) (n c : Nat) (ss : List Fr) (left : Int) (w : World) (hr : ReadsFr w w.heap.size A n ss) (hn : n ≤ maxLen) (hl : ∀ s ∈ ss, LongFr s) (h0 : 0 ≤ left) (h1 : left ≤ 1048576) :
    Calls Try.prog 13 #[.slice A n c, .int .i64 left] w fun e w' => e = .returned (.int .i64 (szA (n + manyFrs ss) left)) ∧ Below w.heap.size w w' := by
  unfold maxLen at hn
  by_cases h : (n : Int) ≤ left
  · go_enter Try.func13, Try.ntmps13
    go_wp2
    go_loopw [1, 5] (fun l i wr => ∃ k : Nat, k ≤ n ∧ i = .int .i64 k ∧ Hid (((n + manyFrs (ss.take k) : Nat) : Int) ≤ left) ∧ l = .int .i64 (left - n - manyFrs (ss.take k)) ∧ Below w.heap.size w wr) (fun _ i _ => n - (intOf i).toNat)
    case atStart => exact ⟨0, Nat.zero_le _, rfl, put (by simp [manyFrs]; exact h), by simp [manyFrs], Below.refl _ _⟩
    case round =>
      obtain ⟨k, hk, rfl, hfit, rfl, hbel⟩ := hrel
      obtain ⟨m, hm⟩ : ∃ m : Nat, manyFrs (ss.take k) = m := ⟨_, rfl⟩
      rw [hm] at hfit ⊢
      have hfit := hfit.out
      by_cases hlt : k < n
      · obtain ⟨b, off, s, A1, n1, c1, A2, n2, c2, A3, n3, c3, rfl, hb, g0, g1, g2, g3, g4, g5, g6, g7, g8, g9, g10, rr, hx⟩ := (hr.below hbel).at_ hlt
        have hmore := put (show manyFrs (ss.take (k + 1)) = m + manyFr s by rw [takeA_more hx.out, manyFrs_append, hm]; simp [manyFrs])
        have hall := put (show m + manyFr s ≤ manyFrs ss by
          have e : ss = ss.take (k + 1) ++ ss.drop (k + 1) := (List.take_append_drop _ _).symm
          rw [← hmore.out]; conv => rhs; rw [e, manyFrs_append]
          omega)
        clear hm
        have RR := put rr
        clear rr
        by_cases hf : ((manyFr s : Nat) : Int) ≤ left - n - m
        · have hsz := szA_fit hf
          go_wp2_with fail
          have rr := RR.out
          refine (szFr_any s A1 n1 c1 A2 n2 c2 A3 n3 c3 _ _ rr.pile.1 rr.vars.1 rr.flags.1 (hl _ (mem_of_at hx.out)) (by omega) (by omega)).mono ?_
          rintro e w1 ⟨rfl, hb1⟩
          rw [hsz]
          clear hsz rr RR g0 g1 g2 g3 g4 g5 g6 g7 g8 g9 g10
          go_wp2
          go_roundw
          case rel => exact ⟨k + 1, by omega, by go_num, put (by rw [hmore.out]; omega), by rw [hmore.out]; exact congrArg _ (by omega), hbel.trans (hb1.mono hbel.size)⟩
          case measure => simp [intOf]; omega
        · have hf := Int.not_le.1 hf
          have hsz := szA_no hf
          go_wp2_with fail
          have rr := RR.out
          refine (szFr_any s A1 n1 c1 A2 n2 c2 A3 n3 c3 _ _ rr.pile.1 rr.vars.1 rr.flags.1 (hl _ (mem_of_at hx.out)) (by omega) (by omega)).mono ?_
          rintro e w1 ⟨rfl, hb1⟩
          rw [hsz]
          clear hsz rr RR g0 g1 g2 g3 g4 g5 g6 g7 g8 g9 g10
          go_wp2
          go_ret
          exact ⟨ret_int (szA_no (by have := hall.out; omega)).symm, hbel.trans (hb1.mono hbel.size)⟩
      · have hfin := put (show manyFrs ss = m by rw [← hm, List.take_of_length_le (by rw [hr.1]; omega)])
        clear hm
        go_wp2
        go_ret
        exact ⟨ret_int (by rw [hfin.out, szA_fit hfit]; omega), hbel⟩
  · have h := Int.not_le.1 h
    rw [szA_no (by omega)]
    go_enter Try.func13, Try.ntmps13
    go_wp2
    go_ret
    exact ⟨rfl, Below.refl _ _⟩

end Go.Proofs.Ytpbkkjiikhjanaa

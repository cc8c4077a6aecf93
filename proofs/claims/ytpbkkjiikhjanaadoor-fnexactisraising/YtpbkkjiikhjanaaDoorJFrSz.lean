/-
  Texts joined: FrSz McSz McV.
-/
import Derived.Test.YtpbkkjiikhjanaaDoorJVzD
import Derived.Test.YtpbkkjiikhjanaaDoorJMcTo
/-
  The laws' counting of frames' values.
-/
namespace Go.Proofs.YtpbkkjiikhjanaaDoor
open Go.RowKit Exs


set_option maxHeartbeats 1000000 in
theorem szFr_any (s : Fr) (A1 : Option Addr) (n1 c1 : Nat) (A2 : Option Addr) (n2 c2 : Nat) (A3 : Option Addr) (n3 c3 : Nat) (left : Int) (w : World) (e1 : s.pile.length = n1) (e2 : s.vars.length = n2) (e3 : s.flags.length = n3) (hl : LongFr s) (h0 : 0 ≤ left) (h1 : left ≤ 1048576) :
    Calls Tryd.prog 29 #[frV s A1 n1 c1 A2 n2 c2 A3 n3 c3, .int .i64 left] w fun e w' => e = .returned (.int .i64 (szA (manyFr s) left)) ∧ Below w.heap.size w w' := by
  obtain ⟨l1, l2, l3⟩ := hl
  have hm := put (show manyFr s = n1 + n2 + n3 by simp only [manyFr, e1, e2, e3])
  rw [e1] at l1
  rw [e2] at l2
  rw [e3] at l3
  have z1 := fun (W : World) (left : Int) (h0 : 0 ≤ left) (h1 : left ≤ 1048576) => szInts_any A1 n1 c1 left W l1 h0 h1
  have z2 := fun (W : World) (left : Int) (h0 : 0 ≤ left) (h1 : left ≤ 1048576) => szInts_any A2 n2 c2 left W l2 h0 h1
  have z3 := fun (W : World) (left : Int) (h0 : 0 ≤ left) (h1 : left ≤ 1048576) => szBools_any A3 n3 c3 left W l3 h0 h1
  clear  e1 e2 e3
  have hb0 : Below w.heap.size w (w.alloc (.cells #[.int .i64 s.ide, .int .i64 s.fn, .int .i64 s.pla, .slice A1 n1 c1, .slice A2 n2 c2, .slice A3 n3 c3, .int .i64 s.result, .int .i64 s.mode, .int .i64 s.value, .int .i64 s.base, .bool s.off] 69)) := (Below.refl _ _).alloc (Nat.le_refl _) _
  have hk0 := Keep.new w #[.int .i64 s.ide, .int .i64 s.fn, .int .i64 s.pla, .slice A1 n1 c1, .slice A2 n2 c2, .slice A3 n3 c3, .int .i64 s.result, .int .i64 s.mode, .int .i64 s.value, .int .i64 s.base, .bool s.off] 69
  have Z1 := put z1
  have Z2 := put z2
  have Z3 := put z3
  clear z1 z2 z3
  unfold frV
  by_cases k1 : ((n1 : Nat) : Int) ≤ left
  · by_cases k2 : ((n2 : Nat) : Int) ≤ left - n1
    · by_cases k3 : ((n3 : Nat) : Int) ≤ left - n1 - n2
      · rw [szA_fit (by rw [hm.out]; omega)]
        go_enter Tryd.func29, Tryd.ntmps29
        go_wp2_with fail
        generalize hW : w.alloc (.cells #[.int .i64 s.ide, .int .i64 s.fn, .int .i64 s.pla, .slice A1 n1 c1, .slice A2 n2 c2, .slice A3 n3 c3, .int .i64 s.result, .int .i64 s.mode, .int .i64 s.value, .int .i64 s.base, .bool s.off] 69) = W0 at hb0 hk0 ⊢
        clear hW
        refine (Z1.out _ (left) (by omega) (by omega)).mono ?_
        rintro e W1 ⟨rfl, rfl⟩
        have hb1 := hb0
        have hk1 := hk0
        rw [szA_fit k1]
        clear hb0 hk0
        have y := hk1.cell 4
        simp at y
        go_wp2_with fail
        clear y
        refine (Z2.out _ (left - n1) (by omega) (by omega)).mono ?_
        rintro e W2 ⟨rfl, rfl⟩
        have hb2 := hb1
        have hk2 := hk1
        rw [szA_fit k2]
        clear hb1 hk1
        have y := hk2.cell 5
        simp at y
        go_wp2_with fail
        clear y
        refine (Z3.out _ (left - n1 - n2) (by omega) (by omega)).mono ?_
        rintro e W3 ⟨rfl, rfl⟩
        have hb3 := hb2
        have hk3 := hk2
        rw [szA_fit k3]
        clear hb2 hk2
        go_wp2
        go_ret
        exact ⟨ret_int (by rw [hm.out]; omega), hb3⟩
      · have k3 := Int.not_le.1 k3
        rw [szA_no (by rw [hm.out]; omega)]
        go_enter Tryd.func29, Tryd.ntmps29
        go_wp2_with fail
        generalize hW : w.alloc (.cells #[.int .i64 s.ide, .int .i64 s.fn, .int .i64 s.pla, .slice A1 n1 c1, .slice A2 n2 c2, .slice A3 n3 c3, .int .i64 s.result, .int .i64 s.mode, .int .i64 s.value, .int .i64 s.base, .bool s.off] 69) = W0 at hb0 hk0 ⊢
        clear hW
        refine (Z1.out _ (left) (by omega) (by omega)).mono ?_
        rintro e W1 ⟨rfl, rfl⟩
        have hb1 := hb0
        have hk1 := hk0
        rw [szA_fit k1]
        clear hb0 hk0
        have y := hk1.cell 4
        simp at y
        go_wp2_with fail
        clear y
        refine (Z2.out _ (left - n1) (by omega) (by omega)).mono ?_
        rintro e W2 ⟨rfl, rfl⟩
        have hb2 := hb1
        have hk2 := hk1
        rw [szA_fit k2]
        clear hb1 hk1
        have y := hk2.cell 5
        simp at y
        go_wp2_with fail
        clear y
        refine (Z3.out _ (left - n1 - n2) (by omega) (by omega)).mono ?_
        rintro e W3 ⟨rfl, rfl⟩
        have hb3 := hb2
        have hk3 := hk2
        rw [szA_no k3]
        clear hb2 hk2
        go_wp2
        go_ret
        exact ⟨rfl, hb3⟩
    · have k2 := Int.not_le.1 k2
      rw [szA_no (by rw [hm.out]; omega)]
      go_enter Tryd.func29, Tryd.ntmps29
      go_wp2_with fail
      generalize hW : w.alloc (.cells #[.int .i64 s.ide, .int .i64 s.fn, .int .i64 s.pla, .slice A1 n1 c1, .slice A2 n2 c2, .slice A3 n3 c3, .int .i64 s.result, .int .i64 s.mode, .int .i64 s.value, .int .i64 s.base, .bool s.off] 69) = W0 at hb0 hk0 ⊢
      clear hW
      refine (Z1.out _ (left) (by omega) (by omega)).mono ?_
      rintro e W1 ⟨rfl, rfl⟩
      have hb1 := hb0
      have hk1 := hk0
      rw [szA_fit k1]
      clear hb0 hk0
      have y := hk1.cell 4
      simp at y
      go_wp2_with fail
      clear y
      refine (Z2.out _ (left - n1) (by omega) (by omega)).mono ?_
      rintro e W2 ⟨rfl, rfl⟩
      have hb2 := hb1
      have hk2 := hk1
      rw [szA_no k2]
      clear hb1 hk1
      go_wp2
      go_ret
      exact ⟨rfl, hb2⟩
  · have k1 := Int.not_le.1 k1
    rw [szA_no (by rw [hm.out]; omega)]
    go_enter Tryd.func29, Tryd.ntmps29
    go_wp2_with fail
    generalize hW : w.alloc (.cells #[.int .i64 s.ide, .int .i64 s.fn, .int .i64 s.pla, .slice A1 n1 c1, .slice A2 n2 c2, .slice A3 n3 c3, .int .i64 s.result, .int .i64 s.mode, .int .i64 s.value, .int .i64 s.base, .bool s.off] 69) = W0 at hb0 hk0 ⊢
    clear hW
    refine (Z1.out _ (left) (by omega) (by omega)).mono ?_
    rintro e W1 ⟨rfl, rfl⟩
    have hb1 := hb0
    have hk1 := hk0
    rw [szA_no k1]
    clear hb0 hk0
    go_wp2
    go_ret
    exact ⟨rfl, hb1⟩

set_option maxHeartbeats 1000000 in
set_option maxRecDepth 100000 in
theorem szFrs_any (A : Option Addr) (n c : Nat) (ss : List Fr) (left : Int) (w : World) (hr : ReadsFr w w.heap.size A n ss) (hn : n ≤ maxLen) (hl : ∀ s ∈ ss, LongFr s) (h0 : 0 ≤ left) (h1 : left ≤ 1048576) :
    Calls Tryd.prog 13 #[.slice A n c, .int .i64 left] w fun e w' => e = .returned (.int .i64 (szA (n + manyFrs ss) left)) ∧ Below w.heap.size w w' := by
  unfold maxLen at hn
  by_cases h : (n : Int) ≤ left
  · go_enter Tryd.func13, Tryd.ntmps13
    go_wp2
    go_loopw [1, 5] (fun l i wr => ∃ k : Nat, k ≤ n ∧ i = .int .i64 k ∧ Hid (((n + manyFrs (ss.take k) : Nat) : Int) ≤ left) ∧ l = .int .i64 (left - n - manyFrs (ss.take k)) ∧ Below w.heap.size w wr) (fun _ i _ => n - (intOf i).toNat)
    case atStart => exact ⟨0, Nat.zero_le _, rfl, put (by simp [manyFrs]; exact h), by simp [manyFrs], Below.refl _ _⟩
    case round =>
      obtain ⟨k, hk, rfl, hfit, rfl, hbel⟩ := hrel
      obtain ⟨m, hm⟩ : ∃ m : Nat, manyFrs (ss.take k) = m := ⟨_, rfl⟩
      rw [hm] at hfit ⊢
      have hfit := hfit.out
      by_cases hlt : k < n
      · obtain ⟨b, off, s, A1, n1, c1, A2, n2, c2, A3, n3, c3, rfl, hb, g0, g1, g2, g3, g4, g5, g6, g7, g8, g9, g10, rr, hx⟩ := (hr.below hbel).at_ hlt
        have hmore := put (show manyFrs (ss.take (k + 1)) = m + manyFr s by rw [takeA_more hx.out, manyFrs_append, hm]; simp [manyFrs])
        have hall := put (show m + manyFr s ≤ manyFrs ss by
          have e : ss = ss.take (k + 1) ++ ss.drop (k + 1) := (List.take_append_drop _ _).symm
          rw [← hmore.out]; conv => rhs; rw [e, manyFrs_append]
          omega)
        clear hm
        have RR := put rr
        clear rr
        by_cases hf : ((manyFr s : Nat) : Int) ≤ left - n - m
        · have hsz := szA_fit hf
          go_wp2_with fail
          have rr := RR.out
          refine (szFr_any s A1 n1 c1 A2 n2 c2 A3 n3 c3 _ _ rr.pile.1 rr.vars.1 rr.flags.1 (hl _ (mem_of_at hx.out)) (by omega) (by omega)).mono ?_
          rintro e w1 ⟨rfl, hb1⟩
          rw [hsz]
          clear hsz rr RR g0 g1 g2 g3 g4 g5 g6 g7 g8 g9 g10
          go_wp2
          go_roundw
          case rel => exact ⟨k + 1, by omega, by go_num, put (by rw [hmore.out]; omega), by rw [hmore.out]; exact congrArg _ (by omega), hbel.trans (hb1.mono hbel.size)⟩
          case measure => simp [intOf]; omega
        · have hf := Int.not_le.1 hf
          have hsz := szA_no hf
          go_wp2_with fail
          have rr := RR.out
          refine (szFr_any s A1 n1 c1 A2 n2 c2 A3 n3 c3 _ _ rr.pile.1 rr.vars.1 rr.flags.1 (hl _ (mem_of_at hx.out)) (by omega) (by omega)).mono ?_
          rintro e w1 ⟨rfl, hb1⟩
          rw [hsz]
          clear hsz rr RR g0 g1 g2 g3 g4 g5 g6 g7 g8 g9 g10
          go_wp2
          go_ret
          exact ⟨ret_int (szA_no (by have := hall.out; omega)).symm, hbel.trans (hb1.mono hbel.size)⟩
      · have hfin := put (show manyFrs ss = m by rw [← hm, List.take_of_length_le (by rw [hr.1]; omega)])
        clear hm
        go_wp2
        go_ret
        exact ⟨ret_int (by rw [hfin.out, szA_fit hfit]; omega), hbel⟩
  · have h := Int.not_le.1 h
    rw [szA_no (by omega)]
    go_enter Tryd.func13, Tryd.ntmps13
    go_wp2
    go_ret
    exact ⟨rfl, Below.refl _ _⟩

end Go.Proofs.YtpbkkjiikhjanaaDoor

/-
  The laws' counting of a machine's values.
-/
namespace Go.Proofs.YtpbkkjiikhjanaaDoor
open Go.RowKit Exs


set_option maxHeartbeats 1000000 in
theorem szMc_any (s : Mc) (A1 : Option Addr) (n1 c1 : Nat) (A2 : Option Addr) (n2 c2 : Nat) (A3 : Option Addr) (n3 c3 : Nat) (left : Int) (w : World) (hr : IsMc w w.heap.size s A1 n1 A2 n2 A3 n3) (hl : LongMc s) (h0 : 0 ≤ left) (h1 : left ≤ 1048576) :
    Calls Tryd.prog 5 #[mcV s A1 n1 c1 A2 n2 c2 A3 n3 c3, .int .i64 left] w fun e w' => e = .returned (.int .i64 (szA (manyMc s) left)) ∧ Below w.heap.size w w' := by
  obtain ⟨l1, q1, l2, l3⟩ := hl
  have e1 : s.frames.length = n1 := hr.frames.1
  have e2 : s.trace.length = n2 := hr.trace.1
  have e3 : s.notes.length = n3 := hr.notes.1
  obtain ⟨t1, ht1⟩ : ∃ t : Nat, n1 + manyFrs s.frames = t := ⟨_, rfl⟩
  have hm := put (show manyMc s = t1 + n2 + n3 by simp only [manyMc, ← ht1, e1, e2, e3])
  rw [e1] at l1
  rw [e2] at l2
  rw [e3] at l3
  have z1 := fun (W : World) (hW : Below w.heap.size w W) (left : Int) (h0 : 0 ≤ left) (h1 : left ≤ 1048576) => szFrs_any A1 n1 c1 s.frames left W (hr.frames.now hW) l1 q1 h0 h1
  rw [ht1] at z1
  have z2 := fun (W : World) (left : Int) (h0 : 0 ≤ left) (h1 : left ≤ 1048576) => szInts_any A2 n2 c2 left W l2 h0 h1
  have z3 := fun (W : World) (left : Int) (h0 : 0 ≤ left) (h1 : left ≤ 1048576) => szNotes_any A3 n3 c3 left W l3 h0 h1
  clear ht1 e1 e2 e3
  have hb0 : Below w.heap.size w (w.alloc (.cells #[.slice A1 n1 c1, .slice A2 n2 c2, .int .i64 s.used, .int .i64 s.code, .int .i64 s.value, .int .i64 s.made, .slice A3 n3 c3] 29)) := (Below.refl _ _).alloc (Nat.le_refl _) _
  have hk0 := Keep.new w #[.slice A1 n1 c1, .slice A2 n2 c2, .int .i64 s.used, .int .i64 s.code, .int .i64 s.value, .int .i64 s.made, .slice A3 n3 c3] 29
  have Z1 := put z1
  have Z2 := put z2
  have Z3 := put z3
  clear z1 z2 z3
  unfold mcV
  by_cases k1 : ((t1 : Nat) : Int) ≤ left
  · by_cases k2 : ((n2 : Nat) : Int) ≤ left - t1
    · by_cases k3 : ((n3 : Nat) : Int) ≤ left - t1 - n2
      · rw [szA_fit (by rw [hm.out]; omega)]
        go_enter Tryd.func5, Tryd.ntmps5
        go_wp2_with fail
        generalize hW : w.alloc (.cells #[.slice A1 n1 c1, .slice A2 n2 c2, .int .i64 s.used, .int .i64 s.code, .int .i64 s.value, .int .i64 s.made, .slice A3 n3 c3] 29) = W0 at hb0 hk0 ⊢
        clear hW
        refine (Z1.out _ hb0 (left) (by omega) (by omega)).mono ?_
        rintro e W1 ⟨rfl, hc0⟩
        have hb1 : Below w.heap.size w W1 := hb0.trans (hc0.mono hb0.size)
        have hk1 := hk0.below hc0
        rw [szA_fit k1]
        clear hb0 hk0
        have y := hk1.cell 1
        simp at y
        go_wp2_with fail
        clear y
        refine (Z2.out _ (left - t1) (by omega) (by omega)).mono ?_
        rintro e W2 ⟨rfl, rfl⟩
        have hb2 := hb1
        have hk2 := hk1
        rw [szA_fit k2]
        clear hb1 hk1
        have y := hk2.cell 6
        simp at y
        go_wp2_with fail
        clear y
        refine (Z3.out _ (left - t1 - n2) (by omega) (by omega)).mono ?_
        rintro e W3 ⟨rfl, rfl⟩
        have hb3 := hb2
        have hk3 := hk2
        rw [szA_fit k3]
        clear hb2 hk2
        go_wp2
        go_ret
        exact ⟨ret_int (by rw [hm.out]; omega), hb3⟩
      · have k3 := Int.not_le.1 k3
        rw [szA_no (by rw [hm.out]; omega)]
        go_enter Tryd.func5, Tryd.ntmps5
        go_wp2_with fail
        generalize hW : w.alloc (.cells #[.slice A1 n1 c1, .slice A2 n2 c2, .int .i64 s.used, .int .i64 s.code, .int .i64 s.value, .int .i64 s.made, .slice A3 n3 c3] 29) = W0 at hb0 hk0 ⊢
        clear hW
        refine (Z1.out _ hb0 (left) (by omega) (by omega)).mono ?_
        rintro e W1 ⟨rfl, hc0⟩
        have hb1 : Below w.heap.size w W1 := hb0.trans (hc0.mono hb0.size)
        have hk1 := hk0.below hc0
        rw [szA_fit k1]
        clear hb0 hk0
        have y := hk1.cell 1
        simp at y
        go_wp2_with fail
        clear y
        refine (Z2.out _ (left - t1) (by omega) (by omega)).mono ?_
        rintro e W2 ⟨rfl, rfl⟩
        have hb2 := hb1
        have hk2 := hk1
        rw [szA_fit k2]
        clear hb1 hk1
        have y := hk2.cell 6
        simp at y
        go_wp2_with fail
        clear y
        refine (Z3.out _ (left - t1 - n2) (by omega) (by omega)).mono ?_
        rintro e W3 ⟨rfl, rfl⟩
        have hb3 := hb2
        have hk3 := hk2
        rw [szA_no k3]
        clear hb2 hk2
        go_wp2
        go_ret
        exact ⟨rfl, hb3⟩
    · have k2 := Int.not_le.1 k2
      rw [szA_no (by rw [hm.out]; omega)]
      go_enter Tryd.func5, Tryd.ntmps5
      go_wp2_with fail
      generalize hW : w.alloc (.cells #[.slice A1 n1 c1, .slice A2 n2 c2, .int .i64 s.used, .int .i64 s.code, .int .i64 s.value, .int .i64 s.made, .slice A3 n3 c3] 29) = W0 at hb0 hk0 ⊢
      clear hW
      refine (Z1.out _ hb0 (left) (by omega) (by omega)).mono ?_
      rintro e W1 ⟨rfl, hc0⟩
      have hb1 : Below w.heap.size w W1 := hb0.trans (hc0.mono hb0.size)
      have hk1 := hk0.below hc0
      rw [szA_fit k1]
      clear hb0 hk0
      have y := hk1.cell 1
      simp at y
      go_wp2_with fail
      clear y
      refine (Z2.out _ (left - t1) (by omega) (by omega)).mono ?_
      rintro e W2 ⟨rfl, rfl⟩
      have hb2 := hb1
      have hk2 := hk1
      rw [szA_no k2]
      clear hb1 hk1
      go_wp2
      go_ret
      exact ⟨rfl, hb2⟩
  · have k1 := Int.not_le.1 k1
    rw [szA_no (by rw [hm.out]; omega)]
    go_enter Tryd.func5, Tryd.ntmps5
    go_wp2_with fail
    generalize hW : w.alloc (.cells #[.slice A1 n1 c1, .slice A2 n2 c2, .int .i64 s.used, .int .i64 s.code, .int .i64 s.value, .int .i64 s.made, .slice A3 n3 c3] 29) = W0 at hb0 hk0 ⊢
    clear hW
    refine (Z1.out _ hb0 (left) (by omega) (by omega)).mono ?_
    rintro e W1 ⟨rfl, hc0⟩
    have hb1 : Below w.heap.size w W1 := hb0.trans (hc0.mono hb0.size)
    have hk1 := hk0.below hc0
    rw [szA_no k1]
    clear hb0 hk0
    go_wp2
    go_ret
    exact ⟨rfl, hb1⟩

end Go.Proofs.YtpbkkjiikhjanaaDoor

/-
  The contracts of what the law of SameVm calls, at machines written out.
-/
namespace Go.Proofs.YtpbkkjiikhjanaaDoor
open Go.RowKit Go.Deep Exs

theorem smallFr_of {s : Fr} (h : manyFr s ≤ 1048576) : SmallFr s := by unfold manyFr at h; exact ⟨by omega, by omega, by omega⟩
theorem smallMc_of {s : Mc} (h : manyMc s ≤ 1048576) : SmallMc s := by
  unfold manyMc at h
  exact ⟨by omega, fun x hx => smallFr_of (by have := manyFrs_mem hx; omega), by omega, by omega⟩

theorem szMc_v (s : Mc) (A1 : Option Addr) (n1 c1 : Nat) (A2 : Option Addr) (n2 c2 : Nat) (A3 : Option Addr) (n3 c3 : Nat) (left : Int) (w : World) (hr : IsMc w w.heap.size s A1 n1 A2 n2 A3 n3) (hl : LongMc s) (h0 : 0 ≤ left) (h1 : left ≤ 1048576) :
    Calls Tryd.prog 5 #[.agg #[.slice A1 n1 c1, .slice A2 n2 c2, .int .i64 s.used, .int .i64 s.code, .int .i64 s.value, .int .i64 s.made, .slice A3 n3 c3], .int .i64 left] w fun e w' => e = .returned (.int .i64 (szA (manyMc s) left)) ∧ Below w.heap.size w w' := szMc_any s A1 n1 c1 A2 n2 c2 A3 n3 c3 left w hr hl h0 h1
theorem toMc_v (s : Mc) (A1 : Option Addr) (n1 c1 : Nat) (A2 : Option Addr) (n2 c2 : Nat) (A3 : Option Addr) (n3 c3 : Nat) (w : World) (hr : IsMc w w.heap.size s A1 n1 A2 n2 A3 n3) (hs : SmallMc s) :
    Calls Tryd.prog 8 #[.agg #[.slice A1 n1 c1, .slice A2 n2 c2, .int .i64 s.used, .int .i64 s.code, .int .i64 s.value, .int .i64 s.made, .slice A3 n3 c3]] w fun e w' => ∃ B1 B2 B3, e = .returned (.agg #[.slice B1 n1 n1, .slice B2 n2 n2, .int .i64 s.used, .int .i64 s.code, .int .i64 s.value, .int .i64 s.made, .slice B3 n3 n3]) ∧ MMc w' w.heap.size s B1 n1 B2 n2 B3 n3 ∧ Below w.heap.size w w' := toMc_any s A1 n1 c1 A2 n2 c2 A3 n3 c3 w hr hs
theorem eqMc_v (s : Mc) (A1 : Option Addr) (n1 c1 : Nat) (A2 : Option Addr) (n2 c2 : Nat) (A3 : Option Addr) (n3 c3 : Nat) (B1 : Option Addr) (m1 d1 : Nat) (B2 : Option Addr) (m2 d2 : Nat) (B3 : Option Addr) (m3 d3 : Nat) (w : World) (hr : IsMc w w.heap.size s A1 n1 A2 n2 A3 n3) (hr' : IsMc w w.heap.size s B1 m1 B2 m2 B3 m3) (hs : SmallMc s) :
    Calls Tryd.prog 11 #[.agg #[.slice A1 n1 c1, .slice A2 n2 c2, .int .i64 s.used, .int .i64 s.code, .int .i64 s.value, .int .i64 s.made, .slice A3 n3 c3], .agg #[.slice B1 m1 d1, .slice B2 m2 d2, .int .i64 s.used, .int .i64 s.code, .int .i64 s.value, .int .i64 s.made, .slice B3 m3 d3]] w fun e w' => e = .returned (.bool true) ∧ Below w.heap.size w w' := by
  obtain rfl : n1 = m1 := by rw [← hr.frames.1, ← hr'.frames.1]
  obtain rfl : n2 = m2 := by rw [← hr.trace.1, ← hr'.trace.1]
  obtain rfl : n3 = m3 := by rw [← hr.notes.1, ← hr'.notes.1]
  exact eqMc_same s A1 n1 c1 A2 n2 c2 A3 n3 c3 B1 d1 B2 d2 B3 d3 w hr hr' hs

end Go.Proofs.YtpbkkjiikhjanaaDoor

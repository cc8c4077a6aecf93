/-
  The laws' counting of a machine's values.
-/
import Derived.Test.YtpbkkjiikhjanaaMcM
import Derived.Test.YtpbkkjiikhjanaaFrSz
namespace Go.Proofs.Ytpbkkjiikhjanaa
open Go.RowKit Exs


set_option maxHeartbeats 1000000 in
theorem szMc_any (s : Mc) (A1 : Option Addr) (n1 c1 : Nat) (A2 : Option Addr) (n2 c2 : Nat) (A3 : Option Addr) (n3 c3 : Nat) (left : Int) (w : World) (hr : IsMc w w.heap.size s A1 n1 A2 n2 A3 n3) (hl : LongMc s) (h0 : 0 ≤ left) (h1 : left ≤ 1048576) :
    Calls Try.prog 4 #[mcV s A1 n1 c1 A2 n2 c2 A3 n3 c3, .int .i64 left] w fun e w' => e = .returned (.int .i64 (szA (manyMc s) left)) ∧ Below w.heap.size w w' := by
  obtain ⟨l1, q1, l2, l3⟩ := hl
  have e1 : s.frames.length = n1 := hr.frames.1
  have e2 : s.trace.length = n2 := hr.trace.1
  have e3 : s.notes.length = n3 := hr.notes.1
  obtain ⟨t1, ht1⟩ : ∃ t : Nat, n1 + manyFrs s.frames = t := ⟨_, rfl⟩
  have hm := put (show manyMc s = t1 + n2 + n3 by simp only [manyMc, ← ht1, e1, e2, e3])
  rw [e1] at l1
  rw [e2] at l2
  rw [e3] at l3
  have z1 := fun (W : World) (hW : Below w.heap.size w W) (left : Int) (h0 : 0 ≤ left) (h1 : left ≤ 1048576) => szFrs_any A1 n1 c1 s.frames left W (hr.frames.now hW) l1 q1 h0 h1
  rw [ht1] at z1
  have z2 := fun (W : World) (left : Int) (h0 : 0 ≤ left) (h1 : left ≤ 1048576) => szInts_any A2 n2 c2 left W l2 h0 h1
  have z3 := fun (W : World) (left : Int) (h0 : 0 ≤ left) (h1 : left ≤ 1048576) => szRows_any A3 n3 c3 left W l3 h0 h1
  clear ht1 e1 e2 e3
  have hb0 : Below w.heap.size w (w.alloc (.cells #[.slice A1 n1 c1, .slice A2 n2 c2, .int .i64 s.used, .int .i64 s.code, .int .i64 s.value, .int .i64 s.made, .slice A3 n3 c3] 26)) := (Below.refl _ _).alloc (Nat.le_refl _) _
  have hk0 := Keep.new w #[.slice A1 n1 c1, .slice A2 n2 c2, .int .i64 s.used, .int .i64 s.code, .int .i64 s.value, .int .i64 s.made, .slice A3 n3 c3] 26
  have Z1 := put z1
  have Z2 := put z2
  have Z3 := put z3
  clear z1 z2 z3
  unfold mcV
  by_cases k1 : ((t1 : Nat) : Int) ≤ left
  · by_cases k2 : ((n2 : Nat) : Int) ≤ left - t1
    · by_cases k3 : ((n3 : Nat) : Int) ≤ left - t1 - n2
      · rw [szA_fit (by rw [hm.out]; omega)]
        go_enter Try.func4, Try.ntmps4
        go_wp2_with fail
        generalize hW : w.alloc (.cells #[.slice A1 n1 c1, .slice A2 n2 c2, .int .i64 s.used, .int .i64 s.code, .int .i64 s.value, .int .i64 s.made, .slice A3 n3 c3] 26) = W0 at hb0 hk0 ⊢
        clear hW
        refine (Z1.out _ hb0 (left) (by omega) (by omega)).mono ?_
        rintro e W1 ⟨rfl, hc0⟩
        have hb1 : Below w.heap.size w W1 := hb0.trans (hc0.mono hb0.size)
        have hk1 := hk0.below hc0
        rw [szA_fit k1]
        clear hb0 hk0
        have y := hk1.cell 1
        simp at y
        go_wp2_with fail
        clear y
        refine (Z2.out _ (left - t1) (by omega) (by omega)).mono ?_
        rintro e W2 ⟨rfl, rfl⟩
        have hb2 := hb1
        have hk2 := hk1
        rw [szA_fit k2]
        clear hb1 hk1
        have y := hk2.cell 6
        simp at y
        go_wp2_with fail
        clear y
        refine (Z3.out _ (left - t1 - n2) (by omega) (by omega)).mono ?_
        rintro e W3 ⟨rfl, rfl⟩
        have hb3 := hb2
        have hk3 := hk2
        rw [szA_fit k3]
        clear hb2 hk2
        go_wp2
        go_ret
        exact ⟨ret_int (by rw [hm.out]; omega), hb3⟩
      · have k3 := Int.not_le.1 k3
        rw [szA_no (by rw [hm.out]; omega)]
        go_enter Try.func4, Try.ntmps4
        go_wp2_with fail
        generalize hW : w.alloc (.cells #[.slice A1 n1 c1, .slice A2 n2 c2, .int .i64 s.used, .int .i64 s.code, .int .i64 s.value, .int .i64 s.made, .slice A3 n3 c3] 26) = W0 at hb0 hk0 ⊢
        clear hW
        refine (Z1.out _ hb0 (left) (by omega) (by omega)).mono ?_
        rintro e W1 ⟨rfl, hc0⟩
        have hb1 : Below w.heap.size w W1 := hb0.trans (hc0.mono hb0.size)
        have hk1 := hk0.below hc0
        rw [szA_fit k1]
        clear hb0 hk0
        have y := hk1.cell 1
        simp at y
        go_wp2_with fail
        clear y
        refine (Z2.out _ (left - t1) (by omega) (by omega)).mono ?_
        rintro e W2 ⟨rfl, rfl⟩
        have hb2 := hb1
        have hk2 := hk1
        rw [szA_fit k2]
        clear hb1 hk1
        have y := hk2.cell 6
        simp at y
        go_wp2_with fail
        clear y
        refine (Z3.out _ (left - t1 - n2) (by omega) (by omega)).mono ?_
        rintro e W3 ⟨rfl, rfl⟩
        have hb3 := hb2
        have hk3 := hk2
        rw [szA_no k3]
        clear hb2 hk2
        go_wp2
        go_ret
        exact ⟨rfl, hb3⟩
    · have k2 := Int.not_le.1 k2
      rw [szA_no (by rw [hm.out]; omega)]
      go_enter Try.func4, Try.ntmps4
      go_wp2_with fail
      generalize hW : w.alloc (.cells #[.slice A1 n1 c1, .slice A2 n2 c2, .int .i64 s.used, .int .i64 s.code, .int .i64 s.value, .int .i64 s.made, .slice A3 n3 c3] 26) = W0 at hb0 hk0 ⊢
      clear hW
      refine (Z1.out _ hb0 (left) (by omega) (by omega)).mono ?_
      rintro e W1 ⟨rfl, hc0⟩
      have hb1 : Below w.heap.size w W1 := hb0.trans (hc0.mono hb0.size)
      have hk1 := hk0.below hc0
      rw [szA_fit k1]
      clear hb0 hk0
      have y := hk1.cell 1
      simp at y
      go_wp2_with fail
      clear y
      refine (Z2.out _ (left - t1) (by omega) (by omega)).mono ?_
      rintro e W2 ⟨rfl, rfl⟩
      have hb2 := hb1
      have hk2 := hk1
      rw [szA_no k2]
      clear hb1 hk1
      go_wp2
      go_ret
      exact ⟨rfl, hb2⟩
  · have k1 := Int.not_le.1 k1
    rw [szA_no (by rw [hm.out]; omega)]
    go_enter Try.func4, Try.ntmps4
    go_wp2_with fail
    generalize hW : w.alloc (.cells #[.slice A1 n1 c1, .slice A2 n2 c2, .int .i64 s.used, .int .i64 s.code, .int .i64 s.value, .int .i64 s.made, .slice A3 n3 c3] 26) = W0 at hb0 hk0 ⊢
    clear hW
    refine (Z1.out _ hb0 (left) (by omega) (by omega)).mono ?_
    rintro e W1 ⟨rfl, hc0⟩
    have hb1 : Below w.heap.size w W1 := hb0.trans (hc0.mono hb0.size)
    have hk1 := hk0.below hc0
    rw [szA_no k1]
    clear hb0 hk0
    go_wp2
    go_ret
    exact ⟨rfl, hb1⟩

end Go.Proofs.Ytpbkkjiikhjanaa

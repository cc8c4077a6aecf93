/-
  Sized images: the reference's side.
-/
import Derived.Test.YtpbkkjiikhjanaaGreatDoorJSz1
namespace Go.Proofs.YtpbkkjiikhjanaaGreatDoor
open Go.RowKit Exs

theorem within_no {n lo hi : Int} (h : ¬ (lo ≤ n ∧ n ≤ hi)) : within n lo hi = false := no_of fun h' => h ((within_iff n lo hi).1 h')
theorem within_yes {n lo hi : Int} (h : lo ≤ n ∧ n ≤ hi) : within n lo hi = true := (within_iff n lo hi).2 h

set_option maxHeartbeats 2000000 in
set_option maxRecDepth 100000 in
theorem l5Sized_any (A : Option Addr) (n c : Nat) (cs : List Cd) (w : World) (hr : ReadsC w w.heap.size A n cs) (hn : n ≤ 1048576) (hs : ∀ c ∈ cs, SmallC c) :
    Calls Tryz.prog 76 #[.agg #[.slice A n c]] w fun e w' => e = .returned (.bool (imB cs)) ∧ Below w.heap.size w w' := by
  have hB := imB_iff cs
  rw [hr.1] at hB
  have hb := (Below.refl w.heap.size w).alloc (Nat.le_refl _) (Obj.cells #[.slice A n c] 36)
  have k0 := Keep.new w #[.slice A n c] 36
  have hlt0 := k0.lt
  have HB := put hB
  have HS := put hs
  clear hB hs
  go_enter Tryz.func76, Tryz.ntmps76
  go_wp2
  generalize hW : w.alloc (Obj.cells #[.slice A n c] 36) = W0 at hb k0 hlt0 ⊢
  clear hW
  go_loopw [10] (fun i wr => ∃ k : Nat, k ≤ n ∧ i = .int .i64 k ∧ Hid (∀ t ∈ cs.take k, cdB t = true) ∧ Below W0.heap.size W0 wr) (fun i _ => n - (intOf i).toNat)
  case atStart => exact ⟨0, Nat.zero_le _, rfl, put (fun t h => by simp at h), Below.refl _ _⟩
  case round =>
    obtain ⟨k, hk, rfl, hall, hbel⟩ := hrel
    have hbw : Below w.heap.size w wr := hb.trans (hbel.mono hb.size)
    by_cases hlt : k < n
    · obtain ⟨b, off, s, A1, n1, c1, A2, n2, c2, A3, n3, c3, rfl, hb', g0, g1, g2, g3, g4, r1, r2, r3, hx⟩ := (hr.below hbw).at_ hlt
      have hb1 := hbel.alloc hbel.size (.cells #[.int .i64 s.params, .int .i64 s.vars, .slice A1 n1 c1, .slice A2 n2 c2, .slice A3 n3 c3] 82)
      have hbw1 : Below w.heap.size w _ := hb.trans (hb1.mono hb.size)
      have hsm := HS.out s (mem_of_at hx.out)
      have HC := put (cdB_iff s)
      rw [r1.1, r2.1, r3.1] at HC
      unfold SmallC at hsm
      rw [r1.1, r2.1, r3.1] at hsm
      obtain ⟨l1, l2, l3⟩ := hsm
      have HNO := put (show cdB s = false → imB cs = false from fun h0 => no_of fun h => by have h1 := (HB.out.1 h).2 _ (mem_of_at hx.out); rw [h0] at h1; cases h1)
      have RI := put (r2.below ((Below.refl _ wr).alloc hbw.size (.cells #[.int .i64 s.params, .int .i64 s.vars, .slice A1 n1 c1, .slice A2 n2 c2, .slice A3 n3 c3] 82)))
      clear r1 r3 r2
      by_cases p1 : 0 ≤ s.params ∧ s.params ≤ 2
      rotate_left
      · have q1 := within_no p1
        go_wp2_with fail
        refine (l1In_any s.params 0 2 _).mono ?_
        rintro e w1 ⟨rfl, rfl⟩
        rw [q1]
        go_wp2
        go_ret
        exact ⟨ret_bool (HNO.out (no_of fun h => by have := HC.out.1 h; omega)).symm, hbw1⟩
      have q1 := within_yes p1
      by_cases p2 : s.params ≤ s.vars ∧ s.vars ≤ 6
      rotate_left
      · have q2 := within_no p2
        go_wp2_with fail
        refine (l1In_any s.params 0 2 _).mono ?_
        rintro e w1 ⟨rfl, rfl⟩
        rw [q1]
        go_wp2_with fail
        refine (l1In_any s.vars s.params 6 _).mono ?_
        rintro e w1 ⟨rfl, rfl⟩
        rw [q2]
        go_wp2
        go_ret
        exact ⟨ret_bool (HNO.out (no_of fun h => by have := HC.out.1 h; omega)).symm, hbw1⟩
      have q2 := within_yes p2
      by_cases p3 : 4 < n1
      · clear p1 p2
        go_wp2_with fail
        refine (l1In_any s.params 0 2 _).mono ?_
        rintro e w1 ⟨rfl, rfl⟩
        rw [q1]
        go_wp2_with fail
        refine (l1In_any s.vars s.params 6 _).mono ?_
        rintro e w1 ⟨rfl, rfl⟩
        rw [q2]
        go_wp2
        go_ret
        exact ⟨ret_bool (HNO.out (no_of fun h => by have := HC.out.1 h; omega)).symm, hbw1⟩
      replace p3 : n1 ≤ 4 := by omega
      by_cases p4 : (1 : Int) ≤ n2 ∧ (n2 : Int) ≤ 300
      rotate_left
      · have q4 := within_no p4
        go_wp2_with fail
        refine (l1In_any s.params 0 2 _).mono ?_
        rintro e w1 ⟨rfl, rfl⟩
        rw [q1]
        go_wp2_with fail
        refine (l1In_any s.vars s.params 6 _).mono ?_
        rintro e w1 ⟨rfl, rfl⟩
        rw [q2]
        go_wp2_with fail
        refine (l1In_any (n2 : Int) 1 300 _).mono ?_
        rintro e w1 ⟨rfl, rfl⟩
        rw [q4]
        go_wp2
        go_ret
        exact ⟨ret_bool (HNO.out (no_of fun h => by have := HC.out.1 h; omega)).symm, hbw1⟩
      have q4 := within_yes p4
      by_cases p5 : 300 < n3
      · go_wp2_with fail
        refine (l1In_any s.params 0 2 _).mono ?_
        rintro e w1 ⟨rfl, rfl⟩
        rw [q1]
        go_wp2_with fail
        refine (l1In_any s.vars s.params 6 _).mono ?_
        rintro e w1 ⟨rfl, rfl⟩
        rw [q2]
        go_wp2_with fail
        refine (l1In_any (n2 : Int) 1 300 _).mono ?_
        rintro e w1 ⟨rfl, rfl⟩
        rw [q4]
        go_wp2
        go_ret
        exact ⟨ret_bool (HNO.out (no_of fun h => by have := HC.out.1 h; omega)).symm, hbw1⟩
      replace p5 : n3 ≤ 300 := by omega
      have HALL := put (show cdB s = true ↔ ∀ t ∈ s.ins, insB t.1 t.2 = true from ⟨fun h => (HC.out.1 h).2, fun h => HC.out.2 ⟨by omega, h⟩⟩)
      have HALL2 := put (fun (h : cdB s = true) => all_more (p := cdB) hall.out hx.out h)
      have hn2 : n2 ≤ 300 := by omega
      clear HC p1 p2 p4
      go_wp2_with fail
      refine (l1In_any s.params 0 2 _).mono ?_
      rintro e w1 ⟨rfl, rfl⟩
      rw [q1]
      go_wp2_with fail
      refine (l1In_any s.vars s.params 6 _).mono ?_
      rintro e w1 ⟨rfl, rfl⟩
      rw [q2]
      go_wp2_with fail
      refine (l1In_any (n2 : Int) 1 300 _).mono ?_
      rintro e w1 ⟨rfl, rfl⟩
      rw [q4]
      go_wp2
      generalize hW1 : wr.alloc (Obj.cells #[.int .i64 s.params, .int .i64 s.vars, .slice A1 n1 c1, .slice A2 n2 c2, .slice A3 n3 c3] 82) = W1 at hb1 hbw1 RI ⊢
      clear hW1 g0 g1 g2 g3 g4 q1 q2 q4 p3 p5
      go_loopw [48] (fun i wr => ∃ j : Nat, j ≤ n2 ∧ i = .int .i64 j ∧ Hid (∀ t ∈ s.ins.take j, insB t.1 t.2 = true) ∧ Below W1.heap.size W1 wr) (fun i _ => n2 - (intOf i).toNat)
      case atStart => exact ⟨0, Nat.zero_le _, rfl, put (fun t h => by simp at h), Below.refl _ _⟩
      case round =>
        obtain ⟨j, hj, rfl, hin, hb2⟩ := hrel
        have hbw2 : Below w.heap.size w wr := hbw1.trans (hb2.mono hbw1.size)
        by_cases hlt2 : j < n2
        · obtain ⟨b2, off2, op, x, rfl, hb2', hc1, hc2, hx2⟩ := (RI.out.below (hb2.mono hbw1.size)).at_ hlt2
          have hb3 := hbw2.alloc hbw2.size (.cells #[.int .i64 op, .int .i64 x] 129)
          have hb4 := hb2.alloc hb2.size (.cells #[.int .i64 op, .int .i64 x] 129)
          cases hi : insB op x
          · have HI := put hi
            clear hi
            have HNO2 := put (no_of (b := cdB s) (fun h => by have h1 := HALL.out.1 h _ (mem_of_at hx2.out); rw [show insB op x = false from HI.out] at h1; cases h1))
            go_wp2_with fail
            refine (l5Ins_any op x _).mono ?_
            rintro e w1 ⟨rfl, hb5⟩
            rw [HI.out]
            go_wp2
            go_ret
            exact ⟨ret_bool (HNO.out HNO2.out).symm, hb3.trans (hb5.mono hb3.size)⟩
          · have HI := put hi
            clear hi
            have hin2 := put (all_more (p := fun t => insB t.1 t.2) hin.out hx2.out HI.out)
            go_wp2_with fail
            refine (l5Ins_any op x _).mono ?_
            rintro e w1 ⟨rfl, hb5⟩
            rw [HI.out]
            go_wp2
            go_roundw
            case rel => exact ⟨j + 1, by omega, by go_num, hin2, hb4.trans (hb5.mono hb4.size)⟩
            case measure => simp [intOf]; omega
        · have hfin := put (show s.ins.take j = s.ins from List.take_of_length_le (by rw [RI.out.1]; omega))
          have HYES := put (HALL.out.2 (by have := hin.out; rwa [hfin.out] at this))
          go_wp2
          go_roundw
          case rel => exact ⟨k + 1, by omega, by go_num, put (HALL2.out HYES.out), hb1.trans (hb2.mono hb1.size)⟩
          case measure => simp [intOf]; omega
    · have hfin := put (show cs.take k = cs from List.take_of_length_le (by rw [hr.1]; omega))
      have k1 := k0.below hbel
      have y0 := k1.cell 0
      simp at y0
      have HYES := put (show imB cs = within n 1 5 by
        have h1 := hall.out
        rw [hfin.out] at h1
        unfold imB
        rw [List.all_eq_true.2 h1, hr.1, Bool.and_true])
      go_wp2_with fail
      refine (l1In_any (n : Int) 1 5 _).mono ?_
      rintro e w1 ⟨rfl, rfl⟩
      go_wp2
      go_ret
      exact ⟨ret_bool HYES.out.symm, hbw⟩

end Go.Proofs.YtpbkkjiikhjanaaGreatDoor

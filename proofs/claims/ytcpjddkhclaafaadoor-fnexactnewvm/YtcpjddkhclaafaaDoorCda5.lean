/-
  GoodCode, GoodImage, HeightsOf: both sides' contracts.
-/
import Derived.Test.YtcpjddkhclaafaaDoorCda3
import Derived.Test.YtcpjddkhclaafaaDoorCda4
namespace Go.Proofs.YtcpjddkhclaafaaDoor
open Go.RowKit Exs Ht

noncomputable def cdAt (cs : List Cd) (j : Nat) : Int := match cs[j]? with | some s => cdAns cs s | none => 0
theorem cdAt_at {cs : List Cd} {j : Nat} {s : Cd} (h : cs[j]? = some s) : cdAt cs j = cdAns cs s := by simp [cdAt, h]
noncomputable def gcAns (cs : List Cd) (fn : Int) : Int × Bool := if imB cs && within fn 0 ((cs.length : Int) - 1) then (cdAt cs fn.toNat, true) else (0, false)
theorem gcAns_no {cs : List Cd} {fn : Int} (h : imB cs = false ∨ within fn 0 ((cs.length : Int) - 1) = false) : gcAns cs fn = (0, false) := by
  unfold gcAns
  rcases h with h | h <;> simp [h]
theorem gcAns_yes {cs : List Cd} {j : Nat} {s : Cd} (h : imB cs = true) (hj : cs[j]? = some s) : gcAns cs (j : Int) = (cdAns cs s, true) := by
  have hl := (List.getElem?_eq_some_iff.1 hj).1
  unfold gcAns
  rw [h, within_yes ⟨by omega, by omega⟩]
  simp [cdAt_at hj]
theorem ret_ib {a a' : Int} {q q' : Bool} (h : (a, q) = (a', q')) : Ending.returned (.tuple #[.int .i64 a, .bool q]) = .returned (.tuple #[.int .i64 a', .bool q']) := by cases h; rfl
open Classical in
noncomputable def giB (cs : List Cd) : Bool := decide (imB cs = true ∧ (∃ s, cs[0]? = some s ∧ s.params = 0) ∧ ∀ s ∈ cs, cdAns cs s = 0)
theorem giB_iff (cs : List Cd) : giB cs = true ↔ imB cs = true ∧ (∃ s, cs[0]? = some s ∧ s.params = 0) ∧ ∀ s ∈ cs, cdAns cs s = 0 := by unfold giB; exact decide_eq_true_iff
noncomputable def hoAns (cs : List Cd) (fn : Int) : List Int × Bool := match cs[fn.toNat]? with
  | some s => if gcAns cs fn = (0, true) then htAns (hts (gr cs s)) else ([], false)
  | none => ([], false)
theorem hoAns_no {cs : List Cd} {fn : Int} (h : gcAns cs fn ≠ (0, true)) : hoAns cs fn = ([], false) := by
  unfold hoAns
  split
  · rw [if_neg h]
  · rfl
theorem hoAns_yes {cs : List Cd} {j : Nat} {s : Cd} (hj : cs[j]? = some s) (h : gcAns cs (j : Int) = (0, true)) : hoAns cs (j : Int) = htAns (hts (gr cs s)) := by
  unfold hoAns
  rw [Int.toNat_natCast, hj, h]
  simp
theorem gcAns_at {cs : List Cd} {fn : Int} (h : (gcAns cs fn).2 = true) : imB cs = true ∧ ∃ (j : Nat) (s : Cd), fn = (j : Int) ∧ cs[j]? = some s ∧ gcAns cs fn = (cdAns cs s, true) := by
  unfold gcAns at h
  split at h
  · rename_i h1
    rw [Bool.and_eq_true] at h1
    have h2 := (within_iff _ _ _).1 h1.2
    obtain ⟨j, rfl⟩ : ∃ j : Nat, fn = (j : Int) := ⟨fn.toNat, by omega⟩
    exact ⟨h1.1, j, _, rfl, List.getElem?_eq_getElem (by omega), gcAns_yes h1.1 (List.getElem?_eq_getElem (by omega))⟩
  · cases h
theorem hoAns_len {cs : List Cd} {fn : Int} : (hoAns cs fn).1.length ≤ 1048576 := by
  unfold hoAns
  split
  · rename_i s hs
    split
    · rename_i h
      have h1 := (gcAns_at (by rw [h]))
      obtain ⟨hi, j, s', rfl, hj, _⟩ := h1
      rw [Int.toNat_natCast, hj] at hs
      injection hs with hs
      subst hs
      cases hh : hts (gr cs s') with
      | none => simp [htAns]
      | some l =>
        have h2 := (hts_is hh).len
        have h3 := (cdB_iff s').1 (((imB_iff cs).1 hi).2 _ (mem_of_at hj))
        have h4 : (gr cs s').n = s'.ins.length := rfl
        simp only [htAns]
        omega
    · simp
  · simp

set_option maxHeartbeats 2000000 in
set_option maxRecDepth 100000 in
theorem specGoodImage_any (A : Option Addr) (n c : Nat) (cs : List Cd) (w : World) (hr : ReadsC w w.heap.size A n cs) (hs : SmallI cs) :
    Calls Tryd.prog 14 #[.agg #[.slice A n c]] w fun e w' => e = .returned (.bool (giB cs)) ∧ Below w.heap.size w w' := by
  have hb := (Below.refl w.heap.size w).alloc (Nat.le_refl _) (Obj.cells #[.slice A n c] 35)
  have k1 := Keep.new w #[.slice A n c] 35
  have hl := hr.1
  have hrd := hr.now hb
  have GI := put (giB_iff cs)
  have hn0 : n ≤ 1048576 := by rw [← hl]; exact hs.1
  have CS := put (l5Sized_any A n c cs _ hrd hn0 hs.2)
  clear hs
  cases hi : imB cs
  · have HI := put hi
    have HN := put (show giB cs = false from no_of fun h => by have := (GI.out.1 h).1; rw [hi] at this; cases this)
    clear hi
    go_enter Tryd.func14, Tryd.ntmps14
    go_wp2_with fail
    generalize hW : w.alloc (Obj.cells #[.slice A n c] 35) = W at hb k1 CS hrd ⊢
    clear hW
    refine CS.out.mono ?_
    rintro e w1 ⟨rfl, hb1⟩
    rw [HI.out]
    go_wp2
    go_ret
    exact ⟨ret_bool HN.out.symm, hb.trans (hb1.mono hb.size)⟩
  have HI := put hi
  have h15 := ((imB_iff cs).1 hi).1
  have HP := put ((imB_iff cs).1 hi).2
  have hn1 : 1 ≤ n := by omega
  have hn5 : n ≤ 5 := by omega
  clear hi h15
  obtain ⟨b, off, s0, A1, n1, c1, A2, n2, c2, A3, n3, c3, rfl, hb', g0, g1, g2, g3, g4, r1, r2, r3, hx0⟩ := hr.at_ (j := 0) (by omega)
  have G0 := put g0
  clear g0 g1 g2 g3 g4 r1 r2 r3
  go_enter Tryd.func14, Tryd.ntmps14
  go_wp2_with fail
  generalize hW : w.alloc (Obj.cells #[.slice (some ⟨b, off, none⟩) n c] 35) = W at hb k1 CS hrd ⊢
  clear hW
  refine CS.out.mono ?_
  rintro e w1 ⟨rfl, hb1⟩
  rw [HI.out]
  have b1 := hb.trans (hb1.mono hb.size)
  have k2 := k1.below hb1
  have y0 := k2.cell 0
  simp at y0
  clear hb1 hb k1 CS hrd
  have hn0 : (0 : Int) < (n : Int) := by omega
  have g0 := (b1.cell (p := ⟨b, off + 0 * 5, none⟩) hb').trans G0.out
  simp only [Nat.zero_mul, Nat.add_zero] at g0
  by_cases hp : s0.params = 0
  · rw [hp] at g0
    have HZ := put (show ∃ s, cs[0]? = some s ∧ s.params = 0 from ⟨s0, hx0.out, hp⟩)
    clear hp
    go_wp2
    go_loopw [19] (fun i wr => ∃ k : Nat, k ≤ n ∧ i = .int .i64 k ∧ Hid (∀ s ∈ cs.take k, cdAns cs s = 0) ∧ Below w1.heap.size w1 wr) (fun i _ => n - (intOf i).toNat)
    case atStart => exact ⟨0, Nat.zero_le _, rfl, put (fun t h => by simp at h), Below.refl _ _⟩
    case round =>
      clear g0 y0
      obtain ⟨k, hk, rfl, hall, hbel⟩ := hrel
      by_cases hlt : k < n
      · have bw := b1.trans (hbel.mono b1.size)
        obtain ⟨b9, off9, s, A1, n1, c1, A2, n2, c2, A3, n3, c3, hA9, hb9, g0, g1, g2, g3, g4, r1, r2, r3, hx⟩ := (hr.below bw).at_ hlt
        injection hA9 with hA9
        injection hA9 with e1 e2 e3
        subst e1 e2
        have CC := put (fun W (hW : Below w.heap.size w W) (hW2 : Below wr.heap.size wr W) => l5Code_any (some ⟨b, off, none⟩) n c cs s A1 n1 c1 A2 n2 c2 A3 n3 c3 W (hr.now hW) ((((IsCd.mk r1 r2 r3).more bw.size).below hW2).more hW2.size) hn5 (HP.out s (mem_of_at hx.out)) HP.out)
        unfold cdV at CC
        have hB := (Below.refl wr.heap.size wr).alloc (Nat.le_refl _) (Obj.cells #[.int .i64 s.params, .int .i64 s.vars, .slice A1 n1 c1, .slice A2 n2 c2, .slice A3 n3 c3] 67)
        have bw2 := bw.trans (hB.mono bw.size)
        have k3 := (k2.below hbel).below hB
        have kn := Keep.new wr #[.int .i64 s.params, .int .i64 s.vars, .slice A1 n1 c1, .slice A2 n2 c2, .slice A3 n3 c3] 67
        have y0 := k3.cell 0
        simp at y0
        have hall2 := put (fun (h : cdAns cs s = 0) => (show ∀ s ∈ cs.take (k + 1), cdAns cs s = 0 from fun t ht => by
          rw [takeA_more hx.out] at ht
          rcases List.mem_append.1 ht with ht | ht
          · exact hall.out t ht
          · simp at ht; subst ht; exact h))
        have HNO := put (fun (h : cdAns cs s ≠ 0) => (show giB cs = false from no_of fun h' => h ((GI.out.1 h').2.2 s (mem_of_at hx.out))))
        have BD := put (cdAns_bounds cs s)
        clear r1 r2 r3
        go_wp2_with fail
        refine (CC.out _ bw2 hB).mono ?_
        rintro e w2 ⟨rfl, hb2⟩
        obtain ⟨bd0, bd1⟩ := BD.out
        generalize cdAns cs s = z at hall2 HNO bd0 bd1 ⊢
        by_cases hz : z = 0
        · subst hz
          have H2 := put (hall2.out rfl)
          clear hall2 HNO bd0 bd1
          go_wp2
          go_roundw
          case rel => exact ⟨k + 1, by omega, by go_num, H2, (hbel.trans (hB.mono hbel.size)).trans (hb2.mono (by have := hbel.size; have := hB.size; omega))⟩
          case measure => simp [intOf]; omega
        · have HN := put (HNO.out hz)
          have hz1 : 0 < z := by omega
          have hz2 : (z != 0) = true := by simp [hz]
          clear hall2 HNO hz
          go_wp2
          go_ret
          exact ⟨ret_bool HN.out.symm, bw2.trans (hb2.mono bw2.size)⟩
      · have hfin := put (show cs.take k = cs from List.take_of_length_le (by omega))
        have HYES := put (GI.out.2 ⟨HI.out, HZ.out, by have := hall.out; rwa [hfin.out] at this⟩)
        go_wp2
        go_ret
        exact ⟨ret_bool HYES.out.symm, b1.trans (hbel.mono b1.size)⟩
  · have HN := put (show giB cs = false from no_of fun h => by
      obtain ⟨s, h1, h2⟩ := (GI.out.1 h).2.1
      rw [hx0.out] at h1
      injection h1 with e
      subst e
      exact hp h2)
    have hp2 : (s0.params != 0) = true := by simp [hp]
    clear hp
    go_wp2
    go_ret
    exact ⟨ret_bool HN.out.symm, b1⟩

set_option maxHeartbeats 2000000 in
set_option maxRecDepth 100000 in
theorem goodImage_any (A : Option Addr) (n c : Nat) (cs : List Cd) (w : World) (hr : ReadsC w w.heap.size A n cs) (hk : Kinds w) (hpos : 0 < w.heap.size) :
    Calls Tryd.prog 17 #[.agg #[.slice A n c]] w fun e w' => e = .returned (.bool (giB cs)) ∧ Below w.heap.size w w' := by
  have hb := (Below.refl w.heap.size w).alloc (Nat.le_refl _) (Obj.cells #[.slice A n c] 35)
  have k1 := Keep.new w #[.slice A n c] 35
  have hl := hr.1
  have hrd := hr.now hb
  have GI := put (giB_iff cs)
  have CS := put (sizedImage_any A n c cs _ hrd (hk.below hb hpos) (by have := hb.size; omega))
  have HKK := put hk
  clear hk
  cases hi : imB cs
  · have HI := put hi
    have HN := put (show giB cs = false from no_of fun h => by have := (GI.out.1 h).1; rw [hi] at this; cases this)
    clear hi
    go_enter Tryd.func17, Tryd.ntmps17
    go_wp2_with fail
    generalize hW : w.alloc (Obj.cells #[.slice A n c] 35) = W at hb k1 CS hrd ⊢
    clear hW
    refine CS.out.mono ?_
    rintro e w1 ⟨rfl, hb1⟩
    rw [HI.out]
    go_wp2
    go_ret
    exact ⟨ret_bool HN.out.symm, hb.trans (hb1.mono hb.size)⟩
  have HI := put hi
  have h15 := ((imB_iff cs).1 hi).1
  have HP := put ((imB_iff cs).1 hi).2
  have hn1 : 1 ≤ n := by omega
  have hn5 : n ≤ 5 := by omega
  clear hi h15
  obtain ⟨b, off, s0, A1, n1, c1, A2, n2, c2, A3, n3, c3, rfl, hb', g0, g1, g2, g3, g4, r1, r2, r3, hx0⟩ := hr.at_ (j := 0) (by omega)
  have G0 := put g0
  clear g0 g1 g2 g3 g4 r1 r2 r3
  go_enter Tryd.func17, Tryd.ntmps17
  go_wp2_with fail
  generalize hW : w.alloc (Obj.cells #[.slice (some ⟨b, off, none⟩) n c] 35) = W at hb k1 CS hrd ⊢
  clear hW
  refine CS.out.mono ?_
  rintro e w1 ⟨rfl, hb1⟩
  rw [HI.out]
  have b1 := hb.trans (hb1.mono hb.size)
  have k2 := k1.below hb1
  have y0 := k2.cell 0
  simp at y0
  clear hb1 hb k1 CS hrd
  have hn0 : (0 : Int) < (n : Int) := by omega
  have g0 := (b1.cell (p := ⟨b, off + 0 * 5, none⟩) hb').trans G0.out
  simp only [Nat.zero_mul, Nat.add_zero] at g0
  by_cases hp : s0.params = 0
  · rw [hp] at g0
    have HZ := put (show ∃ s, cs[0]? = some s ∧ s.params = 0 from ⟨s0, hx0.out, hp⟩)
    clear hp
    go_wp2
    go_loopw [19] (fun i wr => ∃ k : Nat, k ≤ n ∧ i = .int .i64 k ∧ Hid (∀ s ∈ cs.take k, cdAns cs s = 0) ∧ Below w1.heap.size w1 wr) (fun i _ => n - (intOf i).toNat)
    case atStart => exact ⟨0, Nat.zero_le _, rfl, put (fun t h => by simp at h), Below.refl _ _⟩
    case round =>
      clear g0 y0
      obtain ⟨k, hk, rfl, hall, hbel⟩ := hrel
      by_cases hlt : k < n
      · have bw := b1.trans (hbel.mono b1.size)
        obtain ⟨b9, off9, s, A1, n1, c1, A2, n2, c2, A3, n3, c3, hA9, hb9, g0, g1, g2, g3, g4, r1, r2, r3, hx⟩ := (hr.below bw).at_ hlt
        injection hA9 with hA9
        injection hA9 with e1 e2 e3
        subst e1 e2
        have CC := put (fun W (hW : Below w.heap.size w W) (hW2 : Below wr.heap.size wr W) => codeFault_any (some ⟨b, off, none⟩) n c cs s A1 n1 c1 A2 n2 c2 A3 n3 c3 W (hr.now hW) ((((IsCd.mk r1 r2 r3).more bw.size).below hW2).more hW2.size) hn5 (HP.out s (mem_of_at hx.out)) HP.out (HKK.out.below hW hpos) (by have := hW.size; omega))
        unfold cdV at CC
        have hB := (Below.refl wr.heap.size wr).alloc (Nat.le_refl _) (Obj.cells #[.int .i64 s.params, .int .i64 s.vars, .slice A1 n1 c1, .slice A2 n2 c2, .slice A3 n3 c3] 67)
        have bw2 := bw.trans (hB.mono bw.size)
        have k3 := (k2.below hbel).below hB
        have kn := Keep.new wr #[.int .i64 s.params, .int .i64 s.vars, .slice A1 n1 c1, .slice A2 n2 c2, .slice A3 n3 c3] 67
        have y0 := k3.cell 0
        simp at y0
        have hall2 := put (fun (h : cdAns cs s = 0) => (show ∀ s ∈ cs.take (k + 1), cdAns cs s = 0 from fun t ht => by
          rw [takeA_more hx.out] at ht
          rcases List.mem_append.1 ht with ht | ht
          · exact hall.out t ht
          · simp at ht; subst ht; exact h))
        have HNO := put (fun (h : cdAns cs s ≠ 0) => (show giB cs = false from no_of fun h' => h ((GI.out.1 h').2.2 s (mem_of_at hx.out))))
        have BD := put (cdAns_bounds cs s)
        clear r1 r2 r3
        go_wp2_with fail
        refine (CC.out _ bw2 hB).mono ?_
        rintro e w2 ⟨rfl, hb2⟩
        obtain ⟨bd0, bd1⟩ := BD.out
        generalize cdAns cs s = z at hall2 HNO bd0 bd1 ⊢
        by_cases hz : z = 0
        · subst hz
          have H2 := put (hall2.out rfl)
          clear hall2 HNO bd0 bd1
          go_wp2
          go_roundw
          case rel => exact ⟨k + 1, by omega, by go_num, H2, (hbel.trans (hB.mono hbel.size)).trans (hb2.mono (by have := hbel.size; have := hB.size; omega))⟩
          case measure => simp [intOf]; omega
        · have HN := put (HNO.out hz)
          have hz1 : 0 < z := by omega
          have hz2 : (z != 0) = true := by simp [hz]
          clear hall2 HNO hz
          go_wp2
          go_ret
          exact ⟨ret_bool HN.out.symm, bw2.trans (hb2.mono bw2.size)⟩
      · have hfin := put (show cs.take k = cs from List.take_of_length_le (by omega))
        have HYES := put (GI.out.2 ⟨HI.out, HZ.out, by have := hall.out; rwa [hfin.out] at this⟩)
        go_wp2
        go_ret
        exact ⟨ret_bool HYES.out.symm, b1.trans (hbel.mono b1.size)⟩
  · have HN := put (show giB cs = false from no_of fun h => by
      obtain ⟨s, h1, h2⟩ := (GI.out.1 h).2.1
      rw [hx0.out] at h1
      injection h1 with e
      subst e
      exact hp h2)
    have hp2 : (s0.params != 0) = true := by simp [hp]
    clear hp
    go_wp2
    go_ret
    exact ⟨ret_bool HN.out.symm, b1⟩

end Go.Proofs.YtcpjddkhclaafaaDoor

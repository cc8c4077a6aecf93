/-
  Texts joined: Cda5 CoEq CoSz.
-/
import Derived.Test.YtpbkkjiikhjanaaDoorJCda3
import Derived.Test.YtpbkkjiikhjanaaDoorJWys
import Derived.Test.YtpbkkjiikhjanaaDoorJCoTo2
import Derived.Test.YtpbkkjiikhjanaaDoorJKit
/-
  GoodCode, GoodImage, HeightsOf: both sides' contracts.
-/
namespace Go.Proofs.YtpbkkjiikhjanaaDoor
open Go.RowKit Exs Ht

noncomputable def cdAt (cs : List Cd) (j : Nat) : Int := match cs[j]? with | some s => cdAns cs s | none => 0
theorem cdAt_at {cs : List Cd} {j : Nat} {s : Cd} (h : cs[j]? = some s) : cdAt cs j = cdAns cs s := by simp [cdAt, h]
noncomputable def gcAns (cs : List Cd) (fn : Int) : Int × Bool := if imB cs && within fn 0 ((cs.length : Int) - 1) then (cdAt cs fn.toNat, true) else (0, false)
theorem gcAns_no {cs : List Cd} {fn : Int} (h : imB cs = false ∨ within fn 0 ((cs.length : Int) - 1) = false) : gcAns cs fn = (0, false) := by
  unfold gcAns
  rcases h with h | h <;> simp [h]
theorem gcAns_yes {cs : List Cd} {j : Nat} {s : Cd} (h : imB cs = true) (hj : cs[j]? = some s) : gcAns cs (j : Int) = (cdAns cs s, true) := by
  have hl := (List.getElem?_eq_some_iff.1 hj).1
  unfold gcAns
  rw [h, within_yes ⟨by omega, by omega⟩]
  simp [cdAt_at hj]
theorem ret_ib {a a' : Int} {q q' : Bool} (h : (a, q) = (a', q')) : Ending.returned (.tuple #[.int .i64 a, .bool q]) = .returned (.tuple #[.int .i64 a', .bool q']) := by cases h; rfl
open Classical in
noncomputable def giB (cs : List Cd) : Bool := decide (imB cs = true ∧ (∃ s, cs[0]? = some s ∧ s.params = 0) ∧ ∀ s ∈ cs, cdAns cs s = 0)
theorem giB_iff (cs : List Cd) : giB cs = true ↔ imB cs = true ∧ (∃ s, cs[0]? = some s ∧ s.params = 0) ∧ ∀ s ∈ cs, cdAns cs s = 0 := by unfold giB; exact decide_eq_true_iff
noncomputable def hoAns (cs : List Cd) (fn : Int) : List Int × Bool := match cs[fn.toNat]? with
  | some s => if gcAns cs fn = (0, true) then htAns (hts (gr cs s)) else ([], false)
  | none => ([], false)
theorem hoAns_no {cs : List Cd} {fn : Int} (h : gcAns cs fn ≠ (0, true)) : hoAns cs fn = ([], false) := by
  unfold hoAns
  split
  · rw [if_neg h]
  · rfl
theorem hoAns_yes {cs : List Cd} {j : Nat} {s : Cd} (hj : cs[j]? = some s) (h : gcAns cs (j : Int) = (0, true)) : hoAns cs (j : Int) = htAns (hts (gr cs s)) := by
  unfold hoAns
  rw [Int.toNat_natCast, hj, h]
  simp
theorem gcAns_at {cs : List Cd} {fn : Int} (h : (gcAns cs fn).2 = true) : imB cs = true ∧ ∃ (j : Nat) (s : Cd), fn = (j : Int) ∧ cs[j]? = some s ∧ gcAns cs fn = (cdAns cs s, true) := by
  unfold gcAns at h
  split at h
  · rename_i h1
    rw [Bool.and_eq_true] at h1
    have h2 := (within_iff _ _ _).1 h1.2
    obtain ⟨j, rfl⟩ : ∃ j : Nat, fn = (j : Int) := ⟨fn.toNat, by omega⟩
    exact ⟨h1.1, j, _, rfl, List.getElem?_eq_getElem (by omega), gcAns_yes h1.1 (List.getElem?_eq_getElem (by omega))⟩
  · cases h
theorem hoAns_len {cs : List Cd} {fn : Int} : (hoAns cs fn).1.length ≤ 1048576 := by
  unfold hoAns
  split
  · rename_i s hs
    split
    · rename_i h
      have h1 := (gcAns_at (by rw [h]))
      obtain ⟨hi, j, s', rfl, hj, _⟩ := h1
      rw [Int.toNat_natCast, hj] at hs
      injection hs with hs
      subst hs
      cases hh : hts (gr cs s') with
      | none => simp [htAns]
      | some l =>
        have h2 := (hts_is hh).len
        have h3 := (cdB_iff s').1 (((imB_iff cs).1 hi).2 _ (mem_of_at hj))
        have h4 : (gr cs s').n = s'.ins.length := rfl
        simp only [htAns]
        omega
    · simp
  · simp

set_option maxHeartbeats 2000000 in
set_option maxRecDepth 100000 in
theorem specGoodImage_any (A : Option Addr) (n c : Nat) (cs : List Cd) (w : World) (hr : ReadsC w w.heap.size A n cs) (hs : SmallI cs) :
    Calls Tryd.prog 30 #[.agg #[.slice A n c]] w fun e w' => e = .returned (.bool (giB cs)) ∧ Below w.heap.size w w' := by
  have hb := (Below.refl w.heap.size w).alloc (Nat.le_refl _) (Obj.cells #[.slice A n c] 36)
  have k1 := Keep.new w #[.slice A n c] 36
  have hl := hr.1
  have hrd := hr.now hb
  have GI := put (giB_iff cs)
  have hn0 : n ≤ 1048576 := by rw [← hl]; exact hs.1
  have CS := put (l5Sized_any A n c cs _ hrd hn0 hs.2)
  clear hs
  cases hi : imB cs
  · have HI := put hi
    have HN := put (show giB cs = false from no_of fun h => by have := (GI.out.1 h).1; rw [hi] at this; cases this)
    clear hi
    go_enter Tryd.func30, Tryd.ntmps30
    go_wp2_with fail
    generalize hW : w.alloc (Obj.cells #[.slice A n c] 36) = W at hb k1 CS hrd ⊢
    clear hW
    refine CS.out.mono ?_
    rintro e w1 ⟨rfl, hb1⟩
    rw [HI.out]
    go_wp2
    go_ret
    exact ⟨ret_bool HN.out.symm, hb.trans (hb1.mono hb.size)⟩
  have HI := put hi
  have h15 := ((imB_iff cs).1 hi).1
  have HP := put ((imB_iff cs).1 hi).2
  have hn1 : 1 ≤ n := by omega
  have hn5 : n ≤ 5 := by omega
  clear hi h15
  obtain ⟨b, off, s0, A1, n1, c1, A2, n2, c2, A3, n3, c3, rfl, hb', g0, g1, g2, g3, g4, r1, r2, r3, hx0⟩ := hr.at_ (j := 0) (by omega)
  have G0 := put g0
  clear g0 g1 g2 g3 g4 r1 r2 r3
  go_enter Tryd.func30, Tryd.ntmps30
  go_wp2_with fail
  generalize hW : w.alloc (Obj.cells #[.slice (some ⟨b, off, none⟩) n c] 36) = W at hb k1 CS hrd ⊢
  clear hW
  refine CS.out.mono ?_
  rintro e w1 ⟨rfl, hb1⟩
  rw [HI.out]
  have b1 := hb.trans (hb1.mono hb.size)
  have k2 := k1.below hb1
  have y0 := k2.cell 0
  simp at y0
  clear hb1 hb k1 CS hrd
  have hn0 : (0 : Int) < (n : Int) := by omega
  have g0 := (b1.cell (p := ⟨b, off + 0 * 5, none⟩) hb').trans G0.out
  simp only [Nat.zero_mul, Nat.add_zero] at g0
  by_cases hp : s0.params = 0
  · rw [hp] at g0
    have HZ := put (show ∃ s, cs[0]? = some s ∧ s.params = 0 from ⟨s0, hx0.out, hp⟩)
    clear hp
    go_wp2
    go_loopw [19] (fun i wr => ∃ k : Nat, k ≤ n ∧ i = .int .i64 k ∧ Hid (∀ s ∈ cs.take k, cdAns cs s = 0) ∧ Below w1.heap.size w1 wr) (fun i _ => n - (intOf i).toNat)
    case atStart => exact ⟨0, Nat.zero_le _, rfl, put (fun t h => by simp at h), Below.refl _ _⟩
    case round =>
      clear g0 y0
      obtain ⟨k, hk, rfl, hall, hbel⟩ := hrel
      by_cases hlt : k < n
      · have bw := b1.trans (hbel.mono b1.size)
        obtain ⟨b9, off9, s, A1, n1, c1, A2, n2, c2, A3, n3, c3, hA9, hb9, g0, g1, g2, g3, g4, r1, r2, r3, hx⟩ := (hr.below bw).at_ hlt
        injection hA9 with hA9
        injection hA9 with e1 e2 e3
        subst e1 e2
        have CC := put (fun W (hW : Below w.heap.size w W) (hW2 : Below wr.heap.size wr W) => l5Code_any (some ⟨b, off, none⟩) n c cs s A1 n1 c1 A2 n2 c2 A3 n3 c3 W (hr.now hW) ((((IsCd.mk r1 r2 r3).more bw.size).below hW2).more hW2.size) hn5 (HP.out s (mem_of_at hx.out)) HP.out)
        unfold cdV at CC
        have hB := (Below.refl wr.heap.size wr).alloc (Nat.le_refl _) (Obj.cells #[.int .i64 s.params, .int .i64 s.vars, .slice A1 n1 c1, .slice A2 n2 c2, .slice A3 n3 c3] 76)
        have bw2 := bw.trans (hB.mono bw.size)
        have k3 := (k2.below hbel).below hB
        have kn := Keep.new wr #[.int .i64 s.params, .int .i64 s.vars, .slice A1 n1 c1, .slice A2 n2 c2, .slice A3 n3 c3] 76
        have y0 := k3.cell 0
        simp at y0
        have hall2 := put (fun (h : cdAns cs s = 0) => (show ∀ s ∈ cs.take (k + 1), cdAns cs s = 0 from fun t ht => by
          rw [takeA_more hx.out] at ht
          rcases List.mem_append.1 ht with ht | ht
          · exact hall.out t ht
          · simp at ht; subst ht; exact h))
        have HNO := put (fun (h : cdAns cs s ≠ 0) => (show giB cs = false from no_of fun h' => h ((GI.out.1 h').2.2 s (mem_of_at hx.out))))
        have BD := put (cdAns_bounds cs s)
        clear r1 r2 r3
        go_wp2_with fail
        refine (CC.out _ bw2 hB).mono ?_
        rintro e w2 ⟨rfl, hb2⟩
        obtain ⟨bd0, bd1⟩ := BD.out
        generalize cdAns cs s = z at hall2 HNO bd0 bd1 ⊢
        by_cases hz : z = 0
        · subst hz
          have H2 := put (hall2.out rfl)
          clear hall2 HNO bd0 bd1
          go_wp2
          go_roundw
          case rel => exact ⟨k + 1, by omega, by go_num, H2, (hbel.trans (hB.mono hbel.size)).trans (hb2.mono (by have := hbel.size; have := hB.size; omega))⟩
          case measure => simp [intOf]; omega
        · have HN := put (HNO.out hz)
          have hz1 : 0 < z := by omega
          have hz2 : (z != 0) = true := by simp [hz]
          clear hall2 HNO hz
          go_wp2
          go_ret
          exact ⟨ret_bool HN.out.symm, bw2.trans (hb2.mono bw2.size)⟩
      · have hfin := put (show cs.take k = cs from List.take_of_length_le (by omega))
        have HYES := put (GI.out.2 ⟨HI.out, HZ.out, by have := hall.out; rwa [hfin.out] at this⟩)
        go_wp2
        go_ret
        exact ⟨ret_bool HYES.out.symm, b1.trans (hbel.mono b1.size)⟩
  · have HN := put (show giB cs = false from no_of fun h => by
      obtain ⟨s, h1, h2⟩ := (GI.out.1 h).2.1
      rw [hx0.out] at h1
      injection h1 with e
      subst e
      exact hp h2)
    have hp2 : (s0.params != 0) = true := by simp [hp]
    clear hp
    go_wp2
    go_ret
    exact ⟨ret_bool HN.out.symm, b1⟩

set_option maxHeartbeats 2000000 in
set_option maxRecDepth 100000 in
theorem goodImage_any (A : Option Addr) (n c : Nat) (cs : List Cd) (w : World) (hr : ReadsC w w.heap.size A n cs) (hk : Kinds w) (hpos : 0 < w.heap.size) :
    Calls Tryd.prog 35 #[.agg #[.slice A n c]] w fun e w' => e = .returned (.bool (giB cs)) ∧ Below w.heap.size w w' := by
  have hb := (Below.refl w.heap.size w).alloc (Nat.le_refl _) (Obj.cells #[.slice A n c] 36)
  have k1 := Keep.new w #[.slice A n c] 36
  have hl := hr.1
  have hrd := hr.now hb
  have GI := put (giB_iff cs)
  have CS := put (sizedImage_any A n c cs _ hrd (hk.below hb hpos) (by have := hb.size; omega))
  have HKK := put hk
  clear hk
  cases hi : imB cs
  · have HI := put hi
    have HN := put (show giB cs = false from no_of fun h => by have := (GI.out.1 h).1; rw [hi] at this; cases this)
    clear hi
    go_enter Tryd.func35, Tryd.ntmps35
    go_wp2_with fail
    generalize hW : w.alloc (Obj.cells #[.slice A n c] 36) = W at hb k1 CS hrd ⊢
    clear hW
    refine CS.out.mono ?_
    rintro e w1 ⟨rfl, hb1⟩
    rw [HI.out]
    go_wp2
    go_ret
    exact ⟨ret_bool HN.out.symm, hb.trans (hb1.mono hb.size)⟩
  have HI := put hi
  have h15 := ((imB_iff cs).1 hi).1
  have HP := put ((imB_iff cs).1 hi).2
  have hn1 : 1 ≤ n := by omega
  have hn5 : n ≤ 5 := by omega
  clear hi h15
  obtain ⟨b, off, s0, A1, n1, c1, A2, n2, c2, A3, n3, c3, rfl, hb', g0, g1, g2, g3, g4, r1, r2, r3, hx0⟩ := hr.at_ (j := 0) (by omega)
  have G0 := put g0
  clear g0 g1 g2 g3 g4 r1 r2 r3
  go_enter Tryd.func35, Tryd.ntmps35
  go_wp2_with fail
  generalize hW : w.alloc (Obj.cells #[.slice (some ⟨b, off, none⟩) n c] 36) = W at hb k1 CS hrd ⊢
  clear hW
  refine CS.out.mono ?_
  rintro e w1 ⟨rfl, hb1⟩
  rw [HI.out]
  have b1 := hb.trans (hb1.mono hb.size)
  have k2 := k1.below hb1
  have y0 := k2.cell 0
  simp at y0
  clear hb1 hb k1 CS hrd
  have hn0 : (0 : Int) < (n : Int) := by omega
  have g0 := (b1.cell (p := ⟨b, off + 0 * 5, none⟩) hb').trans G0.out
  simp only [Nat.zero_mul, Nat.add_zero] at g0
  by_cases hp : s0.params = 0
  · rw [hp] at g0
    have HZ := put (show ∃ s, cs[0]? = some s ∧ s.params = 0 from ⟨s0, hx0.out, hp⟩)
    clear hp
    go_wp2
    go_loopw [19] (fun i wr => ∃ k : Nat, k ≤ n ∧ i = .int .i64 k ∧ Hid (∀ s ∈ cs.take k, cdAns cs s = 0) ∧ Below w1.heap.size w1 wr) (fun i _ => n - (intOf i).toNat)
    case atStart => exact ⟨0, Nat.zero_le _, rfl, put (fun t h => by simp at h), Below.refl _ _⟩
    case round =>
      clear g0 y0
      obtain ⟨k, hk, rfl, hall, hbel⟩ := hrel
      by_cases hlt : k < n
      · have bw := b1.trans (hbel.mono b1.size)
        obtain ⟨b9, off9, s, A1, n1, c1, A2, n2, c2, A3, n3, c3, hA9, hb9, g0, g1, g2, g3, g4, r1, r2, r3, hx⟩ := (hr.below bw).at_ hlt
        injection hA9 with hA9
        injection hA9 with e1 e2 e3
        subst e1 e2
        have CC := put (fun W (hW : Below w.heap.size w W) (hW2 : Below wr.heap.size wr W) => codeFault_any (some ⟨b, off, none⟩) n c cs s A1 n1 c1 A2 n2 c2 A3 n3 c3 W (hr.now hW) ((((IsCd.mk r1 r2 r3).more bw.size).below hW2).more hW2.size) hn5 (HP.out s (mem_of_at hx.out)) HP.out (HKK.out.below hW hpos) (by have := hW.size; omega))
        unfold cdV at CC
        have hB := (Below.refl wr.heap.size wr).alloc (Nat.le_refl _) (Obj.cells #[.int .i64 s.params, .int .i64 s.vars, .slice A1 n1 c1, .slice A2 n2 c2, .slice A3 n3 c3] 76)
        have bw2 := bw.trans (hB.mono bw.size)
        have k3 := (k2.below hbel).below hB
        have kn := Keep.new wr #[.int .i64 s.params, .int .i64 s.vars, .slice A1 n1 c1, .slice A2 n2 c2, .slice A3 n3 c3] 76
        have y0 := k3.cell 0
        simp at y0
        have hall2 := put (fun (h : cdAns cs s = 0) => (show ∀ s ∈ cs.take (k + 1), cdAns cs s = 0 from fun t ht => by
          rw [takeA_more hx.out] at ht
          rcases List.mem_append.1 ht with ht | ht
          · exact hall.out t ht
          · simp at ht; subst ht; exact h))
        have HNO := put (fun (h : cdAns cs s ≠ 0) => (show giB cs = false from no_of fun h' => h ((GI.out.1 h').2.2 s (mem_of_at hx.out))))
        have BD := put (cdAns_bounds cs s)
        clear r1 r2 r3
        go_wp2_with fail
        refine (CC.out _ bw2 hB).mono ?_
        rintro e w2 ⟨rfl, hb2⟩
        obtain ⟨bd0, bd1⟩ := BD.out
        generalize cdAns cs s = z at hall2 HNO bd0 bd1 ⊢
        by_cases hz : z = 0
        · subst hz
          have H2 := put (hall2.out rfl)
          clear hall2 HNO bd0 bd1
          go_wp2
          go_roundw
          case rel => exact ⟨k + 1, by omega, by go_num, H2, (hbel.trans (hB.mono hbel.size)).trans (hb2.mono (by have := hbel.size; have := hB.size; omega))⟩
          case measure => simp [intOf]; omega
        · have HN := put (HNO.out hz)
          have hz1 : 0 < z := by omega
          have hz2 : (z != 0) = true := by simp [hz]
          clear hall2 HNO hz
          go_wp2
          go_ret
          exact ⟨ret_bool HN.out.symm, bw2.trans (hb2.mono bw2.size)⟩
      · have hfin := put (show cs.take k = cs from List.take_of_length_le (by omega))
        have HYES := put (GI.out.2 ⟨HI.out, HZ.out, by have := hall.out; rwa [hfin.out] at this⟩)
        go_wp2
        go_ret
        exact ⟨ret_bool HYES.out.symm, b1.trans (hbel.mono b1.size)⟩
  · have HN := put (show giB cs = false from no_of fun h => by
      obtain ⟨s, h1, h2⟩ := (GI.out.1 h).2.1
      rw [hx0.out] at h1
      injection h1 with e
      subst e
      exact hp h2)
    have hp2 : (s0.params != 0) = true := by simp [hp]
    clear hp
    go_wp2
    go_ret
    exact ⟨ret_bool HN.out.symm, b1⟩

end Go.Proofs.YtpbkkjiikhjanaaDoor

/-
  The laws' comparing of images: one that reads the same is the same.
-/
namespace Go.Proofs.YtpbkkjiikhjanaaDoor
open Go.RowKit Exs

theorem eqInts_below (A A' : Option Addr) (n c c' : Nat) (xs : List Int) (w : World) (hr : Reads w w.heap.size .i64 A n xs) (hr' : Reads w w.heap.size .i64 A' n xs) (hn : n ≤ 1048576) :
    Calls Tryd.prog 26 #[.slice A n c, .slice A' n c'] w fun e w' => e = .returned (.bool true) ∧ Below w.heap.size w w' :=
  (eqInts_same A A' n c c' xs w hr hr' hn).mono fun _ _ ⟨he, q, hq⟩ => ⟨he, by rw [hq]; exact below_drewN (Below.refl _ _) _⟩

set_option maxHeartbeats 400000 in
theorem eqRow_same (x y z : Int) (w : World) : Calls Tryd.prog 88 #[.agg #[.int .i64 x, .int .i64 y, .int .i64 z], .agg #[.int .i64 x, .int .i64 y, .int .i64 z]] w fun e w' => e = .returned (.bool true) ∧ Below w.heap.size w w' := by
  go_enter Tryd.func88, Tryd.ntmps88
  go_wp2
  go_ret
  exact ⟨rfl, ((Below.refl _ _).alloc (Nat.le_refl _) _).alloc (by simp) _⟩

set_option maxHeartbeats 400000 in
set_option maxRecDepth 100000 in
theorem eqRows_same (A A' : Option Addr) (n c c' : Nat) (ts : List Row3) (w : World) (hr : ReadsR w w.heap.size A n ts) (hr' : ReadsR w w.heap.size A' n ts) (hn : n ≤ 1048576) :
    Calls Tryd.prog 64 #[.slice A n c, .slice A' n c'] w fun e w' => e = .returned (.bool true) ∧ Below w.heap.size w w' := by
  go_enter Tryd.func64, Tryd.ntmps64
  go_wp2
  go_loopw [5] (fun i wr => ∃ k : Nat, k ≤ n ∧ i = .int .i64 k ∧ Below w.heap.size w wr) (fun i _ => n - (intOf i).toNat)
  case atStart => exact ⟨0, Nat.zero_le _, rfl, Below.refl _ _⟩
  case round =>
    obtain ⟨k, hk, rfl, hbel⟩ := hrel
    by_cases hlt : k < n
    · obtain ⟨b, off, x, y, z, rfl, hb, hc1, hc2, hc3, hx⟩ := (hr.below hbel).at_ hlt
      obtain ⟨b', off', x', y', z', rfl, hb', hc1', hc2', hc3', hx'⟩ := (hr'.below hbel).at_ hlt
      obtain ⟨rfl, rfl, rfl⟩ : x = x' ∧ y = y' ∧ z = z' := by have := hx.out; rw [hx'.out] at this; injection this with this; injection this with a b; injection b with b c; exact ⟨a.symm, b.symm, c.symm⟩
      have g1 := cell_regrown hc1
      have g2 := cell_regrown hc2
      have g3 := cell_regrown hc3
      have g4 := cell_regrown hc1'
      have g5 := cell_regrown hc2'
      have g6 := cell_regrown hc3'
      go_wp2
      refine wp_region_quiet_below (by kernel_rfl) (by kernel_rfl) ?_
      repeat (first | go_big_quiet_step ((go_at_call 88; exact Calls.regrown_of (eqRow_same x y z _))) | quiet_step (fail))
      refine wpQuiet_nil ?_
      intro _ hw'
      obtain ⟨⟨dq, osq⟩, hw''⟩ := hw'
      subst hw''
      go_wp2
      go_roundw
      case rel => exact ⟨k + 1, by omega, by go_num, hbel.trans ((below_regrown wr dq osq).mono hbel.size)⟩
      case measure => simp [intOf]; omega
    · go_wp2
      go_ret
      exact ⟨rfl, hbel⟩

set_option maxHeartbeats 1000000 in
set_option maxRecDepth 100000 in
theorem eqCode_same (s : Cd) (A1 : Option Addr) (n1 c1 : Nat) (A2 : Option Addr) (n2 c2 : Nat) (A3 : Option Addr) (n3 c3 : Nat) (B1 : Option Addr) (d1 : Nat) (B2 : Option Addr) (d2 : Nat) (B3 : Option Addr) (d3 : Nat) (w : World)
    (hr : IsCd w w.heap.size s A1 n1 A2 n2 A3 n3) (hr' : IsCd w w.heap.size s B1 n1 B2 n2 B3 n3) (hs : SmallC s) :
    Calls Tryd.prog 39 #[cdV s A1 n1 c1 A2 n2 c2 A3 n3 c3, cdV s B1 n1 d1 B2 n2 d2 B3 n3 d3] w fun e w' => e = .returned (.bool true) ∧ Below w.heap.size w w' := by
  obtain ⟨l1, l2, l3⟩ := hs
  rw [hr.sites.1] at l1; rw [hr.ins.1] at l2; rw [hr.rows.1] at l3
  unfold cdV
  go_enter Tryd.func39, Tryd.ntmps39
  go_wp2_with fail
  have hb0 : Below w.heap.size w ((w.alloc (.cells #[.int .i64 s.params, .int .i64 s.vars, .slice A1 n1 c1, .slice A2 n2 c2, .slice A3 n3 c3] 76)).alloc (.cells #[.int .i64 s.params, .int .i64 s.vars, .slice B1 n1 d1, .slice B2 n2 d2, .slice B3 n3 d3] 76)) := ((Below.refl _ _).alloc (Nat.le_refl _) _).alloc (by simp) _
  have hx0 : Keep ((w.alloc (.cells #[.int .i64 s.params, .int .i64 s.vars, .slice A1 n1 c1, .slice A2 n2 c2, .slice A3 n3 c3] 76)).alloc (.cells #[.int .i64 s.params, .int .i64 s.vars, .slice B1 n1 d1, .slice B2 n2 d2, .slice B3 n3 d3] 76)) w.heap.size #[.int .i64 s.params, .int .i64 s.vars, .slice A1 n1 c1, .slice A2 n2 c2, .slice A3 n3 c3] 76 := (Keep.new _ _ _).alloc _
  have hy0 : Keep ((w.alloc (.cells #[.int .i64 s.params, .int .i64 s.vars, .slice A1 n1 c1, .slice A2 n2 c2, .slice A3 n3 c3] 76)).alloc (.cells #[.int .i64 s.params, .int .i64 s.vars, .slice B1 n1 d1, .slice B2 n2 d2, .slice B3 n3 d3] 76)) (w.heap.size + 1) #[.int .i64 s.params, .int .i64 s.vars, .slice B1 n1 d1, .slice B2 n2 d2, .slice B3 n3 d3] 76 := by
    have := Keep.new (w.alloc (.cells #[.int .i64 s.params, .int .i64 s.vars, .slice A1 n1 c1, .slice A2 n2 c2, .slice A3 n3 c3] 76)) #[.int .i64 s.params, .int .i64 s.vars, .slice B1 n1 d1, .slice B2 n2 d2, .slice B3 n3 d3] 76
    rw [World.size_alloc] at this
    exact this
  generalize hW0 : (w.alloc (.cells #[.int .i64 s.params, .int .i64 s.vars, .slice A1 n1 c1, .slice A2 n2 c2, .slice A3 n3 c3] 76)).alloc (.cells #[.int .i64 s.params, .int .i64 s.vars, .slice B1 n1 d1, .slice B2 n2 d2, .slice B3 n3 d3] 76) = W0 at hb0 hx0 hy0 ⊢
  clear hW0
  refine (eqInts_below A1 B1 n1 c1 d1 s.sites _ (hr.sites.now hb0) (hr'.sites.now hb0) l1).mono ?_
  rintro e W1 ⟨rfl, hc0⟩
  have hb1 : Below w.heap.size w W1 := hb0.trans (hc0.mono hb0.size)
  have hx1 := hx0.below hc0
  have hy1 := hy0.below hc0
  clear hx0 hy0 hc0 hb0
  have q1 := hx1.cell 3
  have q2 := hy1.cell 3
  simp at q1 q2
  go_wp2_with fail
  clear q1 q2
  refine (eqToks_same A2 B2 n2 c2 d2 s.ins _ (hr.ins.now hb1) (hr'.ins.now hb1) l2).mono ?_
  rintro e W2 ⟨rfl, hc1⟩
  have hb2 : Below w.heap.size w W2 := hb1.trans (hc1.mono hb1.size)
  have hx2 := hx1.below hc1
  have hy2 := hy1.below hc1
  clear hx1 hy1 hc1 hb1
  have q1 := hx2.cell 4
  have q2 := hy2.cell 4
  simp at q1 q2
  go_wp2_with fail
  clear q1 q2
  refine (eqRows_same A3 B3 n3 c3 d3 s.rows _ (hr.rows.now hb2) (hr'.rows.now hb2) l3).mono ?_
  rintro e W3 ⟨rfl, hc2⟩
  have hb3 : Below w.heap.size w W3 := hb2.trans (hc2.mono hb2.size)
  have hx3 := hx2.below hc2
  have hy3 := hy2.below hc2
  clear hx2 hy2 hc2 hb2
  go_wp2
  go_ret
  exact ⟨rfl, hb3⟩

set_option maxHeartbeats 1000000 in
set_option maxRecDepth 100000 in
theorem eqCodes_same (A A' : Option Addr) (n c c' : Nat) (ss : List Cd) (w : World) (hr : ReadsC w w.heap.size A n ss) (hr' : ReadsC w w.heap.size A' n ss) (hn : n ≤ 1048576) (hs : ∀ x ∈ ss, SmallC x) :
    Calls Tryd.prog 24 #[.slice A n c, .slice A' n c'] w fun e w' => e = .returned (.bool true) ∧ Below w.heap.size w w' := by
  go_enter Tryd.func24, Tryd.ntmps24
  go_wp2
  go_loopw [5] (fun i wr => ∃ k : Nat, k ≤ n ∧ i = .int .i64 k ∧ Below w.heap.size w wr) (fun i _ => n - (intOf i).toNat)
  case atStart => exact ⟨0, Nat.zero_le _, rfl, Below.refl _ _⟩
  case round =>
    obtain ⟨k, hk, rfl, hbel⟩ := hrel
    by_cases hlt : k < n
    · obtain ⟨b, off, s, A1, n1, c1, A2, n2, c2, A3, n3, c3, rfl, hb, g0, g1, g2, g3, g4, r1, r2, r3, hx⟩ := (hr.below hbel).at_ hlt
      obtain ⟨b', off', s', B1, m1, d1, B2, m2, d2, B3, m3, d3, rfl, hb', h0, h1, h2, h3, h4, q1, q2, q3, hx'⟩ := (hr'.below hbel).at_ hlt
      obtain rfl : s = s' := by have := hx.out; rw [hx'.out] at this; injection this with this; exact this.symm
      have u0 := cell_regrown g0
      have v0 := cell_regrown h0
      have u1 := cell_regrown g1
      have v1 := cell_regrown h1
      have u2 := cell_regrown g2
      have v2 := cell_regrown h2
      have u3 := cell_regrown g3
      have v3 := cell_regrown h3
      have u4 := cell_regrown g4
      have v4 := cell_regrown h4
      obtain rfl : n1 = m1 := by have := r1.1; have := q1.1; omega
      obtain rfl : n2 = m2 := by have := r2.1; have := q2.1; omega
      obtain rfl : n3 = m3 := by have := r3.1; have := q3.1; omega
      have hcon := fun W (hW : Below wr.heap.size wr W) => eqCode_same s A1 n1 c1 A2 n2 c2 A3 n3 c3 B1 d1 B2 d2 B3 d3 W ((IsCd.more ⟨r1, r2, r3⟩ hbel.size).now hW) ((IsCd.more ⟨q1, q2, q3⟩ hbel.size).now hW) (hs _ (mem_of_at hx.out))
      unfold cdV at hcon
      clear r1 r2 r3 q1 q2 q3
      go_wp2
      refine wp_region_quiet_below (by kernel_rfl) (by kernel_rfl) ?_
      repeat (first | go_big_quiet_step ((go_at_call 39; exact Calls.regrown_of (hcon _ (below_regrown wr _ _)))) | quiet_step (fail))
      refine wpQuiet_nil ?_
      intro _ hw'
      obtain ⟨⟨dq, osq⟩, hw''⟩ := hw'
      subst hw''
      go_wp2
      go_roundw
      case rel => exact ⟨k + 1, by omega, by go_num, hbel.trans ((below_regrown wr dq osq).mono hbel.size)⟩
      case measure => simp [intOf]; omega
    · go_wp2
      go_ret
      exact ⟨rfl, hbel⟩

set_option maxHeartbeats 1000000 in
theorem eqImage_same (A A' : Option Addr) (n c c' : Nat) (cs : List Cd) (w : World) (hr : ReadsC w w.heap.size A n cs) (hr' : ReadsC w w.heap.size A' n cs) (hs : SmallI cs) :
    Calls Tryd.prog 10 #[.agg #[.slice A n c], .agg #[.slice A' n c']] w fun e w' => e = .returned (.bool true) ∧ Below w.heap.size w w' := by
  obtain ⟨l1, l2⟩ := hs
  rw [hr.1] at l1
  have hb0 : Below w.heap.size w ((w.alloc (.cells #[.slice A n c] 36)).alloc (.cells #[.slice A' n c'] 36)) := ((Below.refl _ _).alloc (Nat.le_refl _) _).alloc (by simp) _
  go_enter Tryd.func10, Tryd.ntmps10
  go_wp2_with fail
  refine (eqCodes_same A A' n c c' cs _ (hr.now hb0) (hr'.now hb0) l1 l2).mono ?_
  rintro e W1 ⟨rfl, hc⟩
  go_wp2
  go_ret
  exact ⟨rfl, hb0.trans (hc.mono hb0.size)⟩

end Go.Proofs.YtpbkkjiikhjanaaDoor

/-
  The laws' counting of an image's values.
-/
namespace Go.Proofs.YtpbkkjiikhjanaaDoor
open Go.RowKit Exs

def szA (m : Nat) (left : Int) : Int := if (m : Int) ≤ left then left - m else -1
theorem szA_fit {m : Nat} {left : Int} (h : (m : Int) ≤ left) : szA m left = left - m := by simp [szA, h]
theorem szA_no {m : Nat} {left : Int} (h : left < (m : Int)) : szA m left = -1 := by simp [szA]; omega

set_option maxHeartbeats 400000 in
theorem szInts_any (A : Option Addr) (n c : Nat) (left : Int) (w : World) (hn : n ≤ maxLen) (h0 : 0 ≤ left) (h1 : left ≤ 1048576) : Calls Tryd.prog 14 #[.slice A n c, .int .i64 left] w fun e w' => e = .returned (.int .i64 (szA n left)) ∧ w = w' := by
  unfold maxLen at hn
  by_cases h : (n : Int) ≤ left
  · rw [szA_fit h]
    go_enter Tryd.func14, Tryd.ntmps14
    go_wp2
    go_ret
    exact ⟨rfl, rfl⟩
  · have h := Int.not_le.1 h
    rw [szA_no h]
    go_enter Tryd.func14, Tryd.ntmps14
    go_wp2
    go_ret
    exact ⟨rfl, rfl⟩
set_option maxHeartbeats 400000 in
theorem szToks_any (A : Option Addr) (n c : Nat) (left : Int) (w : World) (hn : n ≤ maxLen) (h0 : 0 ≤ left) (h1 : left ≤ 1048576) : Calls Tryd.prog 42 #[.slice A n c, .int .i64 left] w fun e w' => e = .returned (.int .i64 (szA n left)) ∧ w = w' := by
  unfold maxLen at hn
  by_cases h : (n : Int) ≤ left
  · rw [szA_fit h]
    go_enter Tryd.func42, Tryd.ntmps42
    go_wp2
    go_ret
    exact ⟨rfl, rfl⟩
  · have h := Int.not_le.1 h
    rw [szA_no h]
    go_enter Tryd.func42, Tryd.ntmps42
    go_wp2
    go_ret
    exact ⟨rfl, rfl⟩

set_option maxHeartbeats 400000 in
theorem szRows_any (A : Option Addr) (n c : Nat) (left : Int) (w : World) (hn : n ≤ maxLen) (h0 : 0 ≤ left) (h1 : left ≤ 1048576) : Calls Tryd.prog 43 #[.slice A n c, .int .i64 left] w fun e w' => e = .returned (.int .i64 (szA n left)) ∧ w = w' := by
  unfold maxLen at hn
  by_cases h : (n : Int) ≤ left
  · rw [szA_fit h]
    go_enter Tryd.func43, Tryd.ntmps43
    go_wp2
    go_ret
    exact ⟨rfl, rfl⟩
  · have h := Int.not_le.1 h
    rw [szA_no h]
    go_enter Tryd.func43, Tryd.ntmps43
    go_wp2
    go_ret
    exact ⟨rfl, rfl⟩

/-- Slices no longer than memory lets them be. -/
def LongC (s : Cd) : Prop := s.sites.length ≤ maxLen ∧ s.ins.length ≤ maxLen ∧ s.rows.length ≤ maxLen
set_option maxHeartbeats 400000 in
theorem szCode_any (s : Cd) (A1 : Option Addr) (n1 c1 : Nat) (A2 : Option Addr) (n2 c2 : Nat) (A3 : Option Addr) (n3 c3 : Nat) (left : Int) (w : World) (e1 : s.sites.length = n1) (e2 : s.ins.length = n2) (e3 : s.rows.length = n3) (hl : LongC s) (h0 : 0 ≤ left) (h1 : left ≤ 1048576) :
    Calls Tryd.prog 28 #[cdV s A1 n1 c1 A2 n2 c2 A3 n3 c3, .int .i64 left] w fun e w' => e = .returned (.int .i64 (szA (manyC s) left)) ∧ Below w.heap.size w w' := by
  obtain ⟨l1, l2, l3⟩ := hl
  have hm := put (show manyC s = n1 + n2 + n3 by simp [manyC, e1, e2, e3])
  rw [e1] at l1; rw [e2] at l2; rw [e3] at l3
  clear e1 e2 e3
  unfold cdV
  by_cases k1 : (n1 : Int) ≤ left
  · by_cases k2 : (n2 : Int) ≤ left - n1
    · by_cases k3 : (n3 : Int) ≤ left - n1 - n2
      · rw [szA_fit (by rw [hm.out]; omega)]
        go_enter Tryd.func28, Tryd.ntmps28
        go_wp2_with fail
        refine (szInts_any _ _ _ _ _ l1 h0 h1).mono ?_
        rintro e w1 ⟨rfl, rfl⟩
        rw [szA_fit k1]
        go_wp2_with fail
        refine (szToks_any _ _ _ _ _ l2 (by omega) (by omega)).mono ?_
        rintro e w1 ⟨rfl, rfl⟩
        rw [szA_fit k2]
        go_wp2_with fail
        refine (szRows_any _ _ _ _ _ l3 (by omega) (by omega)).mono ?_
        rintro e w1 ⟨rfl, rfl⟩
        rw [szA_fit k3]
        go_wp2
        go_ret
        exact ⟨ret_int (by rw [hm.out]; omega), (Below.refl _ _).alloc (Nat.le_refl _) _⟩
      · have k3 := Int.not_le.1 k3
        rw [szA_no (by rw [hm.out]; omega)]
        go_enter Tryd.func28, Tryd.ntmps28
        go_wp2_with fail
        refine (szInts_any _ _ _ _ _ l1 h0 h1).mono ?_
        rintro e w1 ⟨rfl, rfl⟩
        rw [szA_fit k1]
        go_wp2_with fail
        refine (szToks_any _ _ _ _ _ l2 (by omega) (by omega)).mono ?_
        rintro e w1 ⟨rfl, rfl⟩
        rw [szA_fit k2]
        go_wp2_with fail
        refine (szRows_any _ _ _ _ _ l3 (by omega) (by omega)).mono ?_
        rintro e w1 ⟨rfl, rfl⟩
        rw [szA_no k3]
        go_wp2
        go_ret
        exact ⟨rfl, (Below.refl _ _).alloc (Nat.le_refl _) _⟩
    · have k2 := Int.not_le.1 k2
      rw [szA_no (by rw [hm.out]; omega)]
      go_enter Tryd.func28, Tryd.ntmps28
      go_wp2_with fail
      refine (szInts_any _ _ _ _ _ l1 h0 h1).mono ?_
      rintro e w1 ⟨rfl, rfl⟩
      rw [szA_fit k1]
      go_wp2_with fail
      refine (szToks_any _ _ _ _ _ l2 (by omega) (by omega)).mono ?_
      rintro e w1 ⟨rfl, rfl⟩
      rw [szA_no k2]
      go_wp2
      go_ret
      exact ⟨rfl, (Below.refl _ _).alloc (Nat.le_refl _) _⟩
  · have k1 := Int.not_le.1 k1
    rw [szA_no (by rw [hm.out]; omega)]
    go_enter Tryd.func28, Tryd.ntmps28
    go_wp2_with fail
    refine (szInts_any _ _ _ _ _ l1 h0 h1).mono ?_
    rintro e w1 ⟨rfl, rfl⟩
    rw [szA_no k1]
    go_wp2
    go_ret
    exact ⟨rfl, (Below.refl _ _).alloc (Nat.le_refl _) _⟩

set_option maxHeartbeats 400000 in
set_option maxRecDepth 100000 in
theorem szCodes_any (A : Option Addr) (n c : Nat) (ss : List Cd) (left : Int) (w : World) (hr : ReadsC w w.heap.size A n ss) (hn : n ≤ maxLen) (hl : ∀ s ∈ ss, LongC s) (h0 : 0 ≤ left) (h1 : left ≤ 1048576) :
    Calls Tryd.prog 12 #[.slice A n c, .int .i64 left] w fun e w' => e = .returned (.int .i64 (szA (n + manyCs ss) left)) ∧ Below w.heap.size w w' := by
  unfold maxLen at hn
  by_cases h : (n : Int) ≤ left
  · go_enter Tryd.func12, Tryd.ntmps12
    go_wp2
    go_loopw [1, 5] (fun l i wr => ∃ k : Nat, k ≤ n ∧ i = .int .i64 k ∧ Hid (((n + manyCs (ss.take k) : Nat) : Int) ≤ left) ∧ l = .int .i64 (left - n - manyCs (ss.take k)) ∧ Below w.heap.size w wr) (fun _ i _ => n - (intOf i).toNat)
    case atStart => exact ⟨0, Nat.zero_le _, rfl, put (by simp [manyCs]; exact h), by simp [manyCs], Below.refl _ _⟩
    case round =>
      obtain ⟨k, hk, rfl, hfit, rfl, hbel⟩ := hrel
      obtain ⟨m, hm⟩ : ∃ m : Nat, manyCs (ss.take k) = m := ⟨_, rfl⟩
      rw [hm] at hfit ⊢
      have hfit := hfit.out
      by_cases hlt : k < n
      · obtain ⟨b, off, s, A1, n1, c1, A2, n2, c2, A3, n3, c3, rfl, hb, g0, g1, g2, g3, g4, r1, r2, r3, hx⟩ := (hr.below hbel).at_ hlt
        have hmore := put (show manyCs (ss.take (k + 1)) = m + manyC s by rw [takeA_more hx.out, manyCs_append, hm]; simp [manyCs])
        have hall := put (show m + manyC s ≤ manyCs ss by
          have e : ss = ss.take (k + 1) ++ ss.drop (k + 1) := (List.take_append_drop _ _).symm
          rw [← hmore.out]; conv => rhs; rw [e, manyCs_append]
          omega)
        clear hm
        by_cases hf : ((manyC s : Nat) : Int) ≤ left - n - m
        · have hsz := szA_fit hf
          go_wp2_with fail
          refine (szCode_any s _ _ _ _ _ _ _ _ _ _ _ r1.1 r2.1 r3.1 (hl _ (mem_of_at hx.out)) (by omega) (by omega)).mono ?_
          rintro e w1 ⟨rfl, hb1⟩
          rw [hsz]
          clear hsz r1 r2 r3 g0 g1 g2 g3 g4
          go_wp2
          go_roundw
          case rel => exact ⟨k + 1, by omega, by go_num, put (by rw [hmore.out]; omega), by rw [hmore.out]; exact congrArg _ (by omega), hbel.trans (hb1.mono hbel.size)⟩
          case measure => simp [intOf]; omega
        · have hf := Int.not_le.1 hf
          have hsz := szA_no hf
          go_wp2_with fail
          refine (szCode_any s _ _ _ _ _ _ _ _ _ _ _ r1.1 r2.1 r3.1 (hl _ (mem_of_at hx.out)) (by omega) (by omega)).mono ?_
          rintro e w1 ⟨rfl, hb1⟩
          rw [hsz]
          clear hsz r1 r2 r3 g0 g1 g2 g3 g4
          go_wp2
          go_ret
          exact ⟨ret_int (szA_no (by have := hall.out; omega)).symm, hbel.trans (hb1.mono hbel.size)⟩
      · have hfin := put (show manyCs ss = m by rw [← hm, List.take_of_length_le (by rw [hr.1]; omega)])
        clear hm
        go_wp2
        go_ret
        exact ⟨ret_int (by rw [hfin.out, szA_fit hfit]; omega), hbel⟩
  · have h := Int.not_le.1 h
    rw [szA_no (by omega)]
    go_enter Tryd.func12, Tryd.ntmps12
    go_wp2
    go_ret
    exact ⟨rfl, Below.refl _ _⟩

def LongI (cs : List Cd) : Prop := cs.length ≤ maxLen ∧ ∀ c ∈ cs, LongC c

set_option maxHeartbeats 400000 in
theorem szImage_any (A : Option Addr) (n c : Nat) (cs : List Cd) (left : Int) (w : World) (hr : ReadsC w w.heap.size A n cs) (hl : LongI cs) (h0 : 0 ≤ left) (h1 : left ≤ 1048576) :
    Calls Tryd.prog 4 #[.agg #[.slice A n c], .int .i64 left] w fun e w' => e = .returned (.int .i64 (szA (n + manyCs cs) left)) ∧ Below w.heap.size w w' := by
  have hb := (Below.refl w.heap.size w).alloc (Nat.le_refl _) (Obj.cells #[Value.slice A n c] 24)
  have hst := szCodes_any A n c cs left _ (hr.now hb) (by rw [← hr.1]; exact hl.1) hl.2 h0 h1
  clear hr hl
  obtain ⟨m, hm⟩ : ∃ m : Nat, n + manyCs cs = m := ⟨_, rfl⟩
  rw [hm] at hst ⊢
  clear hm
  by_cases h : (m : Int) ≤ left
  · rw [szA_fit h] at hst ⊢
    go_enter Tryd.func4, Tryd.ntmps4
    go_wp2_with fail
    refine hst.mono ?_
    rintro e w1 ⟨rfl, hb1⟩
    go_wp2
    go_ret
    exact ⟨rfl, hb.trans (hb1.mono hb.size)⟩
  · have h := Int.not_le.1 h
    rw [szA_no h] at hst ⊢
    go_enter Tryd.func4, Tryd.ntmps4
    go_wp2_with fail
    refine hst.mono ?_
    rintro e w1 ⟨rfl, hb1⟩
    go_wp2
    go_ret
    exact ⟨rfl, hb.trans (hb1.mono hb.size)⟩

end Go.Proofs.YtpbkkjiikhjanaaDoor

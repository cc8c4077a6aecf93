/-
  Texts joined: Cda4 Cda5 CoEq.
-/
import Derived.Test.YtpbkkjiikhjanaaGreatDoorJCda
import Derived.Test.YtpbkkjiikhjanaaGreatDoorJHtI
import Derived.Test.YtpbkkjiikhjanaaGreatDoorJCda3
import Derived.Test.YtpbkkjiikhjanaaGreatDoorJCod
/-
  The program's fault of a code: contract.
-/
namespace Go.Proofs.YtpbkkjiikhjanaaGreatDoor
open Go.RowKit Exs Ht

set_option maxHeartbeats 4000000 in
set_option maxRecDepth 100000 in
theorem codeFault_any (A : Option Addr) (n c : Nat) (cs : List Cd) (s : Cd) (A1 : Option Addr) (n1 c1 : Nat) (A2 : Option Addr) (n2 c2 : Nat) (A3 : Option Addr) (n3 c3 : Nat) (w : World) (hr : ReadsC w w.heap.size A n cs) (hs : IsCd w w.heap.size s A1 n1 A2 n2 A3 n3) (hn : n ≤ 5) (hi : cdB s = true) (hp : ∀ c ∈ cs, cdB c = true) (hkd : Kinds w) (hpos : 0 < w.heap.size) :
    Calls Tryz.prog 86 #[.agg #[.slice A n c], cdV s A1 n1 c1 A2 n2 c2 A3 n3 c3] w fun e w' => e = .returned (.int .i64 (cdAns cs s)) ∧ Below w.heap.size w w' := by
  have hb := ((Below.refl w.heap.size w).alloc (Nat.le_refl _) (Obj.cells #[.slice A n c] 36)).alloc (by simp) (Obj.cells #[.int .i64 s.params, .int .i64 s.vars, .slice A1 n1 c1, .slice A2 n2 c2, .slice A3 n3 c3] 82)
  have j2 := (Keep.new w #[.slice A n c] 36).alloc (Obj.cells #[.int .i64 s.params, .int .i64 s.vars, .slice A1 n1 c1, .slice A2 n2 c2, .slice A3 n3 c3] 82)
  have k2 := Keep.new (w.alloc (Obj.cells #[.slice A n c] 36)) #[.int .i64 s.params, .int .i64 s.vars, .slice A1 n1 c1, .slice A2 n2 c2, .slice A3 n3 c3] 82
  rw [World.size_alloc] at k2
  have hsz := cdB_iff s |>.1 hi
  rw [hs.sites.1, hs.ins.1, hs.rows.1] at hsz
  have HSZ := put hsz
  have l1 : n1 ≤ 4 := by omega
  have l2 : n2 ≤ 300 := by omega
  have l3 : n3 ≤ 300 := by omega
  have E := put hs.ins.1
  have LR := put hs.rows.1
  clear hsz
  have C1 := put (fun W hW => namesAreThere_any A n c cs s A1 n1 c1 A2 n2 c2 A3 n3 c3 W (hr.now hW) (hs.now hW) hn hi)
  have C2 := put (fun W hW => sitesAreThere_any A n c cs s A1 n1 c1 A2 n2 c2 A3 n3 c3 W (hr.now hW) (hs.now hW) hn hi)
  have C3 := put (fun W hW => goesOnWithin_any s A1 n1 c1 A2 n2 c2 A3 n3 c3 W (hs.now hW) hi)
  have C4 := put (fun W (hW : Below w.heap.size w W) => goodRows_any A3 n3 c3 s.rows n2 W (hs.rows.now hW) l3 l2)
  have C5 := put (fun W (hW : Below w.heap.size w W) h1 h3 h4 => heightsIn_any A n c cs s A1 n1 c1 A2 n2 c2 A3 n3 c3 W (hr.now hW) (hs.now hW) hn hi hp h1 h3 h4 (hkd.below hW hpos) (by have := hW.size; omega))
  have C6 := put (fun W (hW : Below w.heap.size w W) v hs0 B hv hl hg => raisesInRows_any s A1 n1 c1 A2 n2 c2 A3 n3 c3 W (hs.now hW) hi v hs0 B hv hl hg)
  have C7 := put (fun W (hW : Below w.heap.size w W) v hs0 B hv hl => endsAtNothing_any s A1 n1 c1 A2 n2 c2 A3 n3 c3 W (hs.now hW) hi v hs0 B hv hl)
  unfold cdV at C1 C2 C3 C5 C6 C7 ⊢
  clear hi hp hs hr hkd
  go_enter Tryz.func86, Tryz.ntmps86
  go_wp2_with fail
  generalize hW : (w.alloc (Obj.cells #[.slice A n c] 36)).alloc (Obj.cells #[.int .i64 s.params, .int .i64 s.vars, .slice A1 n1 c1, .slice A2 n2 c2, .slice A3 n3 c3] 82) = W0 at hb j2 k2 ⊢
  clear hW
  cases h1 : namedB cs s
  · have HA := put (cdAns_1 h1)
    have HQ := put h1
    refine (C1.out W0 hb).mono ?_
    rintro e w1 ⟨rfl, hb1⟩
    rw [HQ.out]
    go_wp2
    go_ret
    exact ⟨ret_int HA.out.symm, hb.trans (hb1.mono hb.size)⟩
  have H1 := put h1
  clear h1
  refine (C1.out W0 hb).mono ?_
  rintro e w1 ⟨rfl, hb1⟩
  rw [H1.out]
  have b1 := hb.trans (hb1.mono hb.size)
  have k3 := k2.below hb1
  have j3 := j2.below hb1
  clear hb1 hb k2 j2
  have y0 := j3.cell 0
  have z0 := k3.cell 0
  have z1 := k3.cell 1
  have z2 := k3.cell 2
  have z3 := k3.cell 3
  have z4 := k3.cell 4
  simp at y0 z0 z1 z2 z3 z4
  cases h2 : sitesB cs s
  · have HA := put (cdAns_2 H1.out h2)
    have HQ := put h2
    clear h2
    go_wp2_with fail
    refine (C2.out _ b1).mono ?_
    rintro e v1 ⟨rfl, hb1⟩
    rw [HQ.out]
    go_wp2
    go_ret
    exact ⟨ret_int HA.out.symm, b1.trans (hb1.mono b1.size)⟩
  have H2 := put h2
  clear h2
  go_wp2_with fail
  refine (C2.out _ b1).mono ?_
  rintro e w2 ⟨rfl, hb1⟩
  rw [H2.out]
  have b2 := b1.trans (hb1.mono b1.size)
  have k4 := k3.below hb1
  have j4 := j3.below hb1
  clear hb1 y0 z0 z1 z2 z3 z4 k3 j3
  have y0 := j4.cell 0
  have z0 := k4.cell 0
  have z1 := k4.cell 1
  have z2 := k4.cell 2
  have z3 := k4.cell 3
  have z4 := k4.cell 4
  simp at y0 z0 z1 z2 z3 z4
  cases h3 : goesB s
  · have HA := put (cdAns_3 H1.out H2.out h3)
    have HQ := put h3
    clear h3
    go_wp2_with fail
    refine (C3.out _ b2).mono ?_
    rintro e v1 ⟨rfl, hb1⟩
    rw [HQ.out]
    go_wp2
    go_ret
    exact ⟨ret_int HA.out.symm, b2.trans (hb1.mono b2.size)⟩
  have H3 := put h3
  clear h3
  go_wp2_with fail
  refine (C3.out _ b2).mono ?_
  rintro e w3 ⟨rfl, hb1⟩
  rw [H3.out]
  have b3 := b2.trans (hb1.mono b2.size)
  have k5 := k4.below hb1
  have j5 := j4.below hb1
  clear hb1 y0 z0 z1 z2 z3 z4 k4 j4
  have z3 := k5.cell 3
  have z4 := k5.cell 4
  simp at z3 z4
  cases h4 : rowsF n2 0 s.rows
  · have HA := put (cdAns_4 H1.out H2.out H3.out (by rw [E.out]; exact h4))
    have HQ := put h4
    clear h4
    go_wp2_with fail
    refine (C4.out _ b3).mono ?_
    rintro e v1 ⟨rfl, hb1⟩
    rw [HQ.out]
    go_wp2
    go_ret
    exact ⟨ret_int HA.out.symm, b3.trans (hb1.mono b3.size)⟩
  have H4 := put h4
  clear h4
  go_wp2_with fail
  refine (C4.out _ b3).mono ?_
  rintro e w4 ⟨rfl, hb1⟩
  rw [H4.out]
  have b4 := b3.trans (hb1.mono b3.size)
  have k6 := k5.below hb1
  have j6 := j5.below hb1
  clear hb1 z3 z4 k5 j5
  have y0 := j6.cell 0
  have z0 := k6.cell 0
  have z1 := k6.cell 1
  have z2 := k6.cell 2
  have z3 := k6.cell 3
  have z4 := k6.cell 4
  simp at y0 z0 z1 z2 z3 z4
  have ON := put (cdAns_on H1.out H2.out H3.out (by rw [E.out]; exact H4.out))
  have IS := put (fun hs0 (h : hts (gr cs s) = some hs0) => hts_is h)
  have GN := put (show (gr cs s).n = n2 from E.out)
  go_wp2_with fail
  refine (C5.out _ b4 H1.out H3.out (by rw [E.out]; exact H4.out)).mono ?_
  cases hh : hts (gr cs s) with
  | none =>
    have HA := put (ON.out.1 hh)
    clear hh
    rintro e w5 ⟨v, rfl, nu, hb1⟩
    simp only [htAns]
    go_wp2
    go_ret
    exact ⟨ret_int HA.out.symm, b4.trans (hb1.mono b4.size)⟩
  | some hs0 =>
    have HON := put (ON.out.2 hs0 hh)
    have HIS := put (IS.out hs0 hh)
    clear hh
    rintro e w5 ⟨v, rfl, nu, hb1⟩
    simp only [htAns] at nu ⊢
    have b5 := b4.trans (hb1.mono b4.size)
    have k7 := k6.below hb1
    have HLEN := put (show hs0.length = n2 by rw [HIS.out.len, GN.out])
    have HGE := put (show ∀ (a : Nat) (g : Int), hs0[a]? = some g → g = -1 ∨ 0 ≤ g from fun a g h => by
      rcases HIS.out.at_ a g h with h | h
      · exact .inr h.1
      · exact .inl h.1)
    clear hb1 y0 z0 z1 z2 z3 z4 k6 j6
    have z0 := k7.cell 0
    have z1 := k7.cell 1
    have z2 := k7.cell 2
    have z3 := k7.cell 3
    have z4 := k7.cell 4
    simp at z0 z1 z2 z3 z4
    obtain ⟨An, cn, hvn, _⟩ := nu.reads
    subst hvn
    go_wp2_with fail
    refine (C6.out _ b5 _ hs0 _ nu HLEN.out HGE.out).mono ?_
    rintro e w6 ⟨⟨q, rfl, HQ⟩, hb1⟩
    have HQ := put HQ
    have b6 := b5.trans (hb1.mono b5.size)
    have k8 := k7.below hb1
    have nu6 := nu.belowNew hb1
    clear z0 z1 z2 z3 z4 hb1 k7 nu
    cases q with
    | false =>
      have HA := put (HON.out.1 (fun h => by have := HQ.out.2 h; cases this))
      go_wp2
      go_ret
      exact ⟨ret_int HA.out.symm, b6⟩
    | true =>
      have HR := put (HQ.out.1 rfl)
      have z0 := k8.cell 0
      have z1 := k8.cell 1
      have z2 := k8.cell 2
      have z3 := k8.cell 3
      have z4 := k8.cell 4
      simp at z0 z1 z2 z3 z4
      go_wp2_with fail
      refine (C7.out _ b6 _ hs0 _ nu6 HLEN.out).mono ?_
      rintro e w7 ⟨⟨q, rfl, HE⟩, hb1⟩
      have HE := put HE
      cases q with
      | false =>
        have HA := put (HON.out.2.1 HR.out (fun h => by have := HE.out.2 h; cases this))
        go_wp2
        go_ret
        exact ⟨ret_int HA.out.symm, b6.trans (hb1.mono b6.size)⟩
      | true =>
        have HA := put (HON.out.2.2 HR.out (HE.out.1 rfl))
        go_wp2
        go_ret
        exact ⟨ret_int HA.out.symm, b6.trans (hb1.mono b6.size)⟩

end Go.Proofs.YtpbkkjiikhjanaaGreatDoor

/-
  GoodCode, GoodImage, HeightsOf: both sides' contracts.
-/
namespace Go.Proofs.YtpbkkjiikhjanaaGreatDoor
open Go.RowKit Exs Ht

noncomputable def cdAt (cs : List Cd) (j : Nat) : Int := match cs[j]? with | some s => cdAns cs s | none => 0
theorem cdAt_at {cs : List Cd} {j : Nat} {s : Cd} (h : cs[j]? = some s) : cdAt cs j = cdAns cs s := by simp [cdAt, h]
noncomputable def gcAns (cs : List Cd) (fn : Int) : Int × Bool := if imB cs && within fn 0 ((cs.length : Int) - 1) then (cdAt cs fn.toNat, true) else (0, false)
theorem gcAns_no {cs : List Cd} {fn : Int} (h : imB cs = false ∨ within fn 0 ((cs.length : Int) - 1) = false) : gcAns cs fn = (0, false) := by
  unfold gcAns
  rcases h with h | h <;> simp [h]
theorem gcAns_yes {cs : List Cd} {j : Nat} {s : Cd} (h : imB cs = true) (hj : cs[j]? = some s) : gcAns cs (j : Int) = (cdAns cs s, true) := by
  have hl := (List.getElem?_eq_some_iff.1 hj).1
  unfold gcAns
  rw [h, within_yes ⟨by omega, by omega⟩]
  simp [cdAt_at hj]
theorem ret_ib {a a' : Int} {q q' : Bool} (h : (a, q) = (a', q')) : Ending.returned (.tuple #[.int .i64 a, .bool q]) = .returned (.tuple #[.int .i64 a', .bool q']) := by cases h; rfl
open Classical in
noncomputable def giB (cs : List Cd) : Bool := decide (imB cs = true ∧ (∃ s, cs[0]? = some s ∧ s.params = 0) ∧ ∀ s ∈ cs, cdAns cs s = 0)
theorem giB_iff (cs : List Cd) : giB cs = true ↔ imB cs = true ∧ (∃ s, cs[0]? = some s ∧ s.params = 0) ∧ ∀ s ∈ cs, cdAns cs s = 0 := by unfold giB; exact decide_eq_true_iff
noncomputable def hoAns (cs : List Cd) (fn : Int) : List Int × Bool := match cs[fn.toNat]? with
  | some s => if gcAns cs fn = (0, true) then htAns (hts (gr cs s)) else ([], false)
  | none => ([], false)
theorem hoAns_no {cs : List Cd} {fn : Int} (h : gcAns cs fn ≠ (0, true)) : hoAns cs fn = ([], false) := by
  unfold hoAns
  split
  · rw [if_neg h]
  · rfl
theorem hoAns_yes {cs : List Cd} {j : Nat} {s : Cd} (hj : cs[j]? = some s) (h : gcAns cs (j : Int) = (0, true)) : hoAns cs (j : Int) = htAns (hts (gr cs s)) := by
  unfold hoAns
  rw [Int.toNat_natCast, hj, h]
  simp
theorem gcAns_at {cs : List Cd} {fn : Int} (h : (gcAns cs fn).2 = true) : imB cs = true ∧ ∃ (j : Nat) (s : Cd), fn = (j : Int) ∧ cs[j]? = some s ∧ gcAns cs fn = (cdAns cs s, true) := by
  unfold gcAns at h
  split at h
  · rename_i h1
    rw [Bool.and_eq_true] at h1
    have h2 := (within_iff _ _ _).1 h1.2
    obtain ⟨j, rfl⟩ : ∃ j : Nat, fn = (j : Int) := ⟨fn.toNat, by omega⟩
    exact ⟨h1.1, j, _, rfl, List.getElem?_eq_getElem (by omega), gcAns_yes h1.1 (List.getElem?_eq_getElem (by omega))⟩
  · cases h
theorem hoAns_len {cs : List Cd} {fn : Int} : (hoAns cs fn).1.length ≤ 1048576 := by
  unfold hoAns
  split
  · rename_i s hs
    split
    · rename_i h
      have h1 := (gcAns_at (by rw [h]))
      obtain ⟨hi, j, s', rfl, hj, _⟩ := h1
      rw [Int.toNat_natCast, hj] at hs
      injection hs with hs
      subst hs
      cases hh : hts (gr cs s') with
      | none => simp [htAns]
      | some l =>
        have h2 := (hts_is hh).len
        have h3 := (cdB_iff s').1 (((imB_iff cs).1 hi).2 _ (mem_of_at hj))
        have h4 : (gr cs s').n = s'.ins.length := rfl
        simp only [htAns]
        omega
    · simp
  · simp

set_option maxHeartbeats 2000000 in
set_option maxRecDepth 100000 in
theorem specGoodImage_any (A : Option Addr) (n c : Nat) (cs : List Cd) (w : World) (hr : ReadsC w w.heap.size A n cs) (hs : SmallI cs) :
    Calls Tryz.prog 51 #[.agg #[.slice A n c]] w fun e w' => e = .returned (.bool (giB cs)) ∧ Below w.heap.size w w' := by
  have hb := (Below.refl w.heap.size w).alloc (Nat.le_refl _) (Obj.cells #[.slice A n c] 36)
  have k1 := Keep.new w #[.slice A n c] 36
  have hl := hr.1
  have hrd := hr.now hb
  have GI := put (giB_iff cs)
  have hn0 : n ≤ 1048576 := by rw [← hl]; exact hs.1
  have CS := put (l5Sized_any A n c cs _ hrd hn0 hs.2)
  clear hs
  cases hi : imB cs
  · have HI := put hi
    have HN := put (show giB cs = false from no_of fun h => by have := (GI.out.1 h).1; rw [hi] at this; cases this)
    clear hi
    go_enter Tryz.func51, Tryz.ntmps51
    go_wp2_with fail
    generalize hW : w.alloc (Obj.cells #[.slice A n c] 36) = W at hb k1 CS hrd ⊢
    clear hW
    refine CS.out.mono ?_
    rintro e w1 ⟨rfl, hb1⟩
    rw [HI.out]
    go_wp2
    go_ret
    exact ⟨ret_bool HN.out.symm, hb.trans (hb1.mono hb.size)⟩
  have HI := put hi
  have h15 := ((imB_iff cs).1 hi).1
  have HP := put ((imB_iff cs).1 hi).2
  have hn1 : 1 ≤ n := by omega
  have hn5 : n ≤ 5 := by omega
  clear hi h15
  obtain ⟨b, off, s0, A1, n1, c1, A2, n2, c2, A3, n3, c3, rfl, hb', g0, g1, g2, g3, g4, r1, r2, r3, hx0⟩ := hr.at_ (j := 0) (by omega)
  have G0 := put g0
  clear g0 g1 g2 g3 g4 r1 r2 r3
  go_enter Tryz.func51, Tryz.ntmps51
  go_wp2_with fail
  generalize hW : w.alloc (Obj.cells #[.slice (some ⟨b, off, none⟩) n c] 36) = W at hb k1 CS hrd ⊢
  clear hW
  refine CS.out.mono ?_
  rintro e w1 ⟨rfl, hb1⟩
  rw [HI.out]
  have b1 := hb.trans (hb1.mono hb.size)
  have k2 := k1.below hb1
  have y0 := k2.cell 0
  simp at y0
  clear hb1 hb k1 CS hrd
  have hn0 : (0 : Int) < (n : Int) := by omega
  have g0 := (b1.cell (p := ⟨b, off + 0 * 5, none⟩) hb').trans G0.out
  simp only [Nat.zero_mul, Nat.add_zero] at g0
  by_cases hp : s0.params = 0
  · rw [hp] at g0
    have HZ := put (show ∃ s, cs[0]? = some s ∧ s.params = 0 from ⟨s0, hx0.out, hp⟩)
    clear hp
    go_wp2
    go_loopw [19] (fun i wr => ∃ k : Nat, k ≤ n ∧ i = .int .i64 k ∧ Hid (∀ s ∈ cs.take k, cdAns cs s = 0) ∧ Below w1.heap.size w1 wr) (fun i _ => n - (intOf i).toNat)
    case atStart => exact ⟨0, Nat.zero_le _, rfl, put (fun t h => by simp at h), Below.refl _ _⟩
    case round =>
      clear g0 y0
      obtain ⟨k, hk, rfl, hall, hbel⟩ := hrel
      by_cases hlt : k < n
      · have bw := b1.trans (hbel.mono b1.size)
        obtain ⟨b9, off9, s, A1, n1, c1, A2, n2, c2, A3, n3, c3, hA9, hb9, g0, g1, g2, g3, g4, r1, r2, r3, hx⟩ := (hr.below bw).at_ hlt
        injection hA9 with hA9
        injection hA9 with e1 e2 e3
        subst e1 e2
        have CC := put (fun W (hW : Below w.heap.size w W) (hW2 : Below wr.heap.size wr W) => l5Code_any (some ⟨b, off, none⟩) n c cs s A1 n1 c1 A2 n2 c2 A3 n3 c3 W (hr.now hW) ((((IsCd.mk r1 r2 r3).more bw.size).below hW2).more hW2.size) hn5 (HP.out s (mem_of_at hx.out)) HP.out)
        unfold cdV at CC
        have hB := (Below.refl wr.heap.size wr).alloc (Nat.le_refl _) (Obj.cells #[.int .i64 s.params, .int .i64 s.vars, .slice A1 n1 c1, .slice A2 n2 c2, .slice A3 n3 c3] 82)
        have bw2 := bw.trans (hB.mono bw.size)
        have k3 := (k2.below hbel).below hB
        have kn := Keep.new wr #[.int .i64 s.params, .int .i64 s.vars, .slice A1 n1 c1, .slice A2 n2 c2, .slice A3 n3 c3] 82
        have y0 := k3.cell 0
        simp at y0
        have hall2 := put (fun (h : cdAns cs s = 0) => (show ∀ s ∈ cs.take (k + 1), cdAns cs s = 0 from fun t ht => by
          rw [takeA_more hx.out] at ht
          rcases List.mem_append.1 ht with ht | ht
          · exact hall.out t ht
          · simp at ht; subst ht; exact h))
        have HNO := put (fun (h : cdAns cs s ≠ 0) => (show giB cs = false from no_of fun h' => h ((GI.out.1 h').2.2 s (mem_of_at hx.out))))
        have BD := put (cdAns_bounds cs s)
        clear r1 r2 r3
        go_wp2_with fail
        refine (CC.out _ bw2 hB).mono ?_
        rintro e w2 ⟨rfl, hb2⟩
        obtain ⟨bd0, bd1⟩ := BD.out
        generalize cdAns cs s = z at hall2 HNO bd0 bd1 ⊢
        by_cases hz : z = 0
        · subst hz
          have H2 := put (hall2.out rfl)
          clear hall2 HNO bd0 bd1
          go_wp2
          go_roundw
          case rel => exact ⟨k + 1, by omega, by go_num, H2, (hbel.trans (hB.mono hbel.size)).trans (hb2.mono (by have := hbel.size; have := hB.size; omega))⟩
          case measure => simp [intOf]; omega
        · have HN := put (HNO.out hz)
          have hz1 : 0 < z := by omega
          have hz2 : (z != 0) = true := by simp [hz]
          clear hall2 HNO hz
          go_wp2
          go_ret
          exact ⟨ret_bool HN.out.symm, bw2.trans (hb2.mono bw2.size)⟩
      · have hfin := put (show cs.take k = cs from List.take_of_length_le (by omega))
        have HYES := put (GI.out.2 ⟨HI.out, HZ.out, by have := hall.out; rwa [hfin.out] at this⟩)
        go_wp2
        go_ret
        exact ⟨ret_bool HYES.out.symm, b1.trans (hbel.mono b1.size)⟩
  · have HN := put (show giB cs = false from no_of fun h => by
      obtain ⟨s, h1, h2⟩ := (GI.out.1 h).2.1
      rw [hx0.out] at h1
      injection h1 with e
      subst e
      exact hp h2)
    have hp2 : (s0.params != 0) = true := by simp [hp]
    clear hp
    go_wp2
    go_ret
    exact ⟨ret_bool HN.out.symm, b1⟩

set_option maxHeartbeats 2000000 in
set_option maxRecDepth 100000 in
theorem goodImage_any (A : Option Addr) (n c : Nat) (cs : List Cd) (w : World) (hr : ReadsC w w.heap.size A n cs) (hk : Kinds w) (hpos : 0 < w.heap.size) :
    Calls Tryz.prog 58 #[.agg #[.slice A n c]] w fun e w' => e = .returned (.bool (giB cs)) ∧ Below w.heap.size w w' := by
  have hb := (Below.refl w.heap.size w).alloc (Nat.le_refl _) (Obj.cells #[.slice A n c] 36)
  have k1 := Keep.new w #[.slice A n c] 36
  have hl := hr.1
  have hrd := hr.now hb
  have GI := put (giB_iff cs)
  have CS := put (sizedImage_any A n c cs _ hrd (hk.below hb hpos) (by have := hb.size; omega))
  have HKK := put hk
  clear hk
  cases hi : imB cs
  · have HI := put hi
    have HN := put (show giB cs = false from no_of fun h => by have := (GI.out.1 h).1; rw [hi] at this; cases this)
    clear hi
    go_enter Tryz.func58, Tryz.ntmps58
    go_wp2_with fail
    generalize hW : w.alloc (Obj.cells #[.slice A n c] 36) = W at hb k1 CS hrd ⊢
    clear hW
    refine CS.out.mono ?_
    rintro e w1 ⟨rfl, hb1⟩
    rw [HI.out]
    go_wp2
    go_ret
    exact ⟨ret_bool HN.out.symm, hb.trans (hb1.mono hb.size)⟩
  have HI := put hi
  have h15 := ((imB_iff cs).1 hi).1
  have HP := put ((imB_iff cs).1 hi).2
  have hn1 : 1 ≤ n := by omega
  have hn5 : n ≤ 5 := by omega
  clear hi h15
  obtain ⟨b, off, s0, A1, n1, c1, A2, n2, c2, A3, n3, c3, rfl, hb', g0, g1, g2, g3, g4, r1, r2, r3, hx0⟩ := hr.at_ (j := 0) (by omega)
  have G0 := put g0
  clear g0 g1 g2 g3 g4 r1 r2 r3
  go_enter Tryz.func58, Tryz.ntmps58
  go_wp2_with fail
  generalize hW : w.alloc (Obj.cells #[.slice (some ⟨b, off, none⟩) n c] 36) = W at hb k1 CS hrd ⊢
  clear hW
  refine CS.out.mono ?_
  rintro e w1 ⟨rfl, hb1⟩
  rw [HI.out]
  have b1 := hb.trans (hb1.mono hb.size)
  have k2 := k1.below hb1
  have y0 := k2.cell 0
  simp at y0
  clear hb1 hb k1 CS hrd
  have hn0 : (0 : Int) < (n : Int) := by omega
  have g0 := (b1.cell (p := ⟨b, off + 0 * 5, none⟩) hb').trans G0.out
  simp only [Nat.zero_mul, Nat.add_zero] at g0
  by_cases hp : s0.params = 0
  · rw [hp] at g0
    have HZ := put (show ∃ s, cs[0]? = some s ∧ s.params = 0 from ⟨s0, hx0.out, hp⟩)
    clear hp
    go_wp2
    go_loopw [19] (fun i wr => ∃ k : Nat, k ≤ n ∧ i = .int .i64 k ∧ Hid (∀ s ∈ cs.take k, cdAns cs s = 0) ∧ Below w1.heap.size w1 wr) (fun i _ => n - (intOf i).toNat)
    case atStart => exact ⟨0, Nat.zero_le _, rfl, put (fun t h => by simp at h), Below.refl _ _⟩
    case round =>
      clear g0 y0
      obtain ⟨k, hk, rfl, hall, hbel⟩ := hrel
      by_cases hlt : k < n
      · have bw := b1.trans (hbel.mono b1.size)
        obtain ⟨b9, off9, s, A1, n1, c1, A2, n2, c2, A3, n3, c3, hA9, hb9, g0, g1, g2, g3, g4, r1, r2, r3, hx⟩ := (hr.below bw).at_ hlt
        injection hA9 with hA9
        injection hA9 with e1 e2 e3
        subst e1 e2
        have CC := put (fun W (hW : Below w.heap.size w W) (hW2 : Below wr.heap.size wr W) => codeFault_any (some ⟨b, off, none⟩) n c cs s A1 n1 c1 A2 n2 c2 A3 n3 c3 W (hr.now hW) ((((IsCd.mk r1 r2 r3).more bw.size).below hW2).more hW2.size) hn5 (HP.out s (mem_of_at hx.out)) HP.out (HKK.out.below hW hpos) (by have := hW.size; omega))
        unfold cdV at CC
        have hB := (Below.refl wr.heap.size wr).alloc (Nat.le_refl _) (Obj.cells #[.int .i64 s.params, .int .i64 s.vars, .slice A1 n1 c1, .slice A2 n2 c2, .slice A3 n3 c3] 82)
        have bw2 := bw.trans (hB.mono bw.size)
        have k3 := (k2.below hbel).below hB
        have kn := Keep.new wr #[.int .i64 s.params, .int .i64 s.vars, .slice A1 n1 c1, .slice A2 n2 c2, .slice A3 n3 c3] 82
        have y0 := k3.cell 0
        simp at y0
        have hall2 := put (fun (h : cdAns cs s = 0) => (show ∀ s ∈ cs.take (k + 1), cdAns cs s = 0 from fun t ht => by
          rw [takeA_more hx.out] at ht
          rcases List.mem_append.1 ht with ht | ht
          · exact hall.out t ht
          · simp at ht; subst ht; exact h))
        have HNO := put (fun (h : cdAns cs s ≠ 0) => (show giB cs = false from no_of fun h' => h ((GI.out.1 h').2.2 s (mem_of_at hx.out))))
        have BD := put (cdAns_bounds cs s)
        clear r1 r2 r3
        go_wp2_with fail
        refine (CC.out _ bw2 hB).mono ?_
        rintro e w2 ⟨rfl, hb2⟩
        obtain ⟨bd0, bd1⟩ := BD.out
        generalize cdAns cs s = z at hall2 HNO bd0 bd1 ⊢
        by_cases hz : z = 0
        · subst hz
          have H2 := put (hall2.out rfl)
          clear hall2 HNO bd0 bd1
          go_wp2
          go_roundw
          case rel => exact ⟨k + 1, by omega, by go_num, H2, (hbel.trans (hB.mono hbel.size)).trans (hb2.mono (by have := hbel.size; have := hB.size; omega))⟩
          case measure => simp [intOf]; omega
        · have HN := put (HNO.out hz)
          have hz1 : 0 < z := by omega
          have hz2 : (z != 0) = true := by simp [hz]
          clear hall2 HNO hz
          go_wp2
          go_ret
          exact ⟨ret_bool HN.out.symm, bw2.trans (hb2.mono bw2.size)⟩
      · have hfin := put (show cs.take k = cs from List.take_of_length_le (by omega))
        have HYES := put (GI.out.2 ⟨HI.out, HZ.out, by have := hall.out; rwa [hfin.out] at this⟩)
        go_wp2
        go_ret
        exact ⟨ret_bool HYES.out.symm, b1.trans (hbel.mono b1.size)⟩
  · have HN := put (show giB cs = false from no_of fun h => by
      obtain ⟨s, h1, h2⟩ := (GI.out.1 h).2.1
      rw [hx0.out] at h1
      injection h1 with e
      subst e
      exact hp h2)
    have hp2 : (s0.params != 0) = true := by simp [hp]
    clear hp
    go_wp2
    go_ret
    exact ⟨ret_bool HN.out.symm, b1⟩

end Go.Proofs.YtpbkkjiikhjanaaGreatDoor

/-
  The laws' comparing of images: one that reads the same is the same.
-/
namespace Go.Proofs.YtpbkkjiikhjanaaGreatDoor
open Go.RowKit Exs

theorem eqInts_below (A A' : Option Addr) (n c c' : Nat) (xs : List Int) (w : World) (hr : Reads w w.heap.size .i64 A n xs) (hr' : Reads w w.heap.size .i64 A' n xs) (hn : n ≤ 1048576) :
    Calls Tryz.prog 39 #[.slice A n c, .slice A' n c'] w fun e w' => e = .returned (.bool true) ∧ Below w.heap.size w w' :=
  (eqInts_same A A' n c c' xs w hr hr' hn).mono fun _ _ ⟨he, q, hq⟩ => ⟨he, by rw [hq]; exact below_drewN (Below.refl _ _) _⟩

set_option maxHeartbeats 400000 in
theorem eqRow_same (x y z : Int) (w : World) : Calls Tryz.prog 124 #[.agg #[.int .i64 x, .int .i64 y, .int .i64 z], .agg #[.int .i64 x, .int .i64 y, .int .i64 z]] w fun e w' => e = .returned (.bool true) ∧ Below w.heap.size w w' := by
  go_enter Tryz.func124, Tryz.ntmps124
  go_wp2
  go_ret
  exact ⟨rfl, ((Below.refl _ _).alloc (Nat.le_refl _) _).alloc (by simp) _⟩

set_option maxHeartbeats 400000 in
set_option maxRecDepth 100000 in
theorem eqRows_same (A A' : Option Addr) (n c c' : Nat) (ts : List Row3) (w : World) (hr : ReadsR w w.heap.size A n ts) (hr' : ReadsR w w.heap.size A' n ts) (hn : n ≤ 1048576) :
    Calls Tryz.prog 97 #[.slice A n c, .slice A' n c'] w fun e w' => e = .returned (.bool true) ∧ Below w.heap.size w w' := by
  go_enter Tryz.func97, Tryz.ntmps97
  go_wp2
  go_loopw [5] (fun i wr => ∃ k : Nat, k ≤ n ∧ i = .int .i64 k ∧ Below w.heap.size w wr) (fun i _ => n - (intOf i).toNat)
  case atStart => exact ⟨0, Nat.zero_le _, rfl, Below.refl _ _⟩
  case round =>
    obtain ⟨k, hk, rfl, hbel⟩ := hrel
    by_cases hlt : k < n
    · obtain ⟨b, off, x, y, z, rfl, hb, hc1, hc2, hc3, hx⟩ := (hr.below hbel).at_ hlt
      obtain ⟨b', off', x', y', z', rfl, hb', hc1', hc2', hc3', hx'⟩ := (hr'.below hbel).at_ hlt
      obtain ⟨rfl, rfl, rfl⟩ : x = x' ∧ y = y' ∧ z = z' := by have := hx.out; rw [hx'.out] at this; injection this with this; injection this with a b; injection b with b c; exact ⟨a.symm, b.symm, c.symm⟩
      have g1 := cell_regrown hc1
      have g2 := cell_regrown hc2
      have g3 := cell_regrown hc3
      have g4 := cell_regrown hc1'
      have g5 := cell_regrown hc2'
      have g6 := cell_regrown hc3'
      go_wp2
      refine wp_region_quiet_below (by kernel_rfl) (by kernel_rfl) ?_
      repeat (first | go_big_quiet_step ((go_at_call 124; exact Calls.regrown_of (eqRow_same x y z _))) | quiet_step (fail))
      refine wpQuiet_nil ?_
      intro _ hw'
      obtain ⟨⟨dq, osq⟩, hw''⟩ := hw'
      subst hw''
      go_wp2
      go_roundw
      case rel => exact ⟨k + 1, by omega, by go_num, hbel.trans ((below_regrown wr dq osq).mono hbel.size)⟩
      case measure => simp [intOf]; omega
    · go_wp2
      go_ret
      exact ⟨rfl, hbel⟩

set_option maxHeartbeats 1000000 in
set_option maxRecDepth 100000 in
theorem eqCode_same (s : Cd) (A1 : Option Addr) (n1 c1 : Nat) (A2 : Option Addr) (n2 c2 : Nat) (A3 : Option Addr) (n3 c3 : Nat) (B1 : Option Addr) (d1 : Nat) (B2 : Option Addr) (d2 : Nat) (B3 : Option Addr) (d3 : Nat) (w : World)
    (hr : IsCd w w.heap.size s A1 n1 A2 n2 A3 n3) (hr' : IsCd w w.heap.size s B1 n1 B2 n2 B3 n3) (hs : SmallC s) :
    Calls Tryz.prog 64 #[cdV s A1 n1 c1 A2 n2 c2 A3 n3 c3, cdV s B1 n1 d1 B2 n2 d2 B3 n3 d3] w fun e w' => e = .returned (.bool true) ∧ Below w.heap.size w w' := by
  obtain ⟨l1, l2, l3⟩ := hs
  rw [hr.sites.1] at l1; rw [hr.ins.1] at l2; rw [hr.rows.1] at l3
  unfold cdV
  go_enter Tryz.func64, Tryz.ntmps64
  go_wp2_with fail
  have hb0 : Below w.heap.size w ((w.alloc (.cells #[.int .i64 s.params, .int .i64 s.vars, .slice A1 n1 c1, .slice A2 n2 c2, .slice A3 n3 c3] 82)).alloc (.cells #[.int .i64 s.params, .int .i64 s.vars, .slice B1 n1 d1, .slice B2 n2 d2, .slice B3 n3 d3] 82)) := ((Below.refl _ _).alloc (Nat.le_refl _) _).alloc (by simp) _
  have hx0 : Keep ((w.alloc (.cells #[.int .i64 s.params, .int .i64 s.vars, .slice A1 n1 c1, .slice A2 n2 c2, .slice A3 n3 c3] 82)).alloc (.cells #[.int .i64 s.params, .int .i64 s.vars, .slice B1 n1 d1, .slice B2 n2 d2, .slice B3 n3 d3] 82)) w.heap.size #[.int .i64 s.params, .int .i64 s.vars, .slice A1 n1 c1, .slice A2 n2 c2, .slice A3 n3 c3] 82 := (Keep.new _ _ _).alloc _
  have hy0 : Keep ((w.alloc (.cells #[.int .i64 s.params, .int .i64 s.vars, .slice A1 n1 c1, .slice A2 n2 c2, .slice A3 n3 c3] 82)).alloc (.cells #[.int .i64 s.params, .int .i64 s.vars, .slice B1 n1 d1, .slice B2 n2 d2, .slice B3 n3 d3] 82)) (w.heap.size + 1) #[.int .i64 s.params, .int .i64 s.vars, .slice B1 n1 d1, .slice B2 n2 d2, .slice B3 n3 d3] 82 := by
    have := Keep.new (w.alloc (.cells #[.int .i64 s.params, .int .i64 s.vars, .slice A1 n1 c1, .slice A2 n2 c2, .slice A3 n3 c3] 82)) #[.int .i64 s.params, .int .i64 s.vars, .slice B1 n1 d1, .slice B2 n2 d2, .slice B3 n3 d3] 82
    rw [World.size_alloc] at this
    exact this
  generalize hW0 : (w.alloc (.cells #[.int .i64 s.params, .int .i64 s.vars, .slice A1 n1 c1, .slice A2 n2 c2, .slice A3 n3 c3] 82)).alloc (.cells #[.int .i64 s.params, .int .i64 s.vars, .slice B1 n1 d1, .slice B2 n2 d2, .slice B3 n3 d3] 82) = W0 at hb0 hx0 hy0 ⊢
  clear hW0
  refine (eqInts_below A1 B1 n1 c1 d1 s.sites _ (hr.sites.now hb0) (hr'.sites.now hb0) l1).mono ?_
  rintro e W1 ⟨rfl, hc0⟩
  have hb1 : Below w.heap.size w W1 := hb0.trans (hc0.mono hb0.size)
  have hx1 := hx0.below hc0
  have hy1 := hy0.below hc0
  clear hx0 hy0 hc0 hb0
  have q1 := hx1.cell 3
  have q2 := hy1.cell 3
  simp at q1 q2
  go_wp2_with fail
  clear q1 q2
  refine (eqToks_same A2 B2 n2 c2 d2 s.ins _ (hr.ins.now hb1) (hr'.ins.now hb1) l2).mono ?_
  rintro e W2 ⟨rfl, hc1⟩
  have hb2 : Below w.heap.size w W2 := hb1.trans (hc1.mono hb1.size)
  have hx2 := hx1.below hc1
  have hy2 := hy1.below hc1
  clear hx1 hy1 hc1 hb1
  have q1 := hx2.cell 4
  have q2 := hy2.cell 4
  simp at q1 q2
  go_wp2_with fail
  clear q1 q2
  refine (eqRows_same A3 B3 n3 c3 d3 s.rows _ (hr.rows.now hb2) (hr'.rows.now hb2) l3).mono ?_
  rintro e W3 ⟨rfl, hc2⟩
  have hb3 : Below w.heap.size w W3 := hb2.trans (hc2.mono hb2.size)
  have hx3 := hx2.below hc2
  have hy3 := hy2.below hc2
  clear hx2 hy2 hc2 hb2
  go_wp2
  go_ret
  exact ⟨rfl, hb3⟩

set_option maxHeartbeats 1000000 in
set_option maxRecDepth 100000 in
theorem eqCodes_same (A A' : Option Addr) (n c c' : Nat) (ss : List Cd) (w : World) (hr : ReadsC w w.heap.size A n ss) (hr' : ReadsC w w.heap.size A' n ss) (hn : n ≤ 1048576) (hs : ∀ x ∈ ss, SmallC x) :
    Calls Tryz.prog 37 #[.slice A n c, .slice A' n c'] w fun e w' => e = .returned (.bool true) ∧ Below w.heap.size w w' := by
  go_enter Tryz.func37, Tryz.ntmps37
  go_wp2
  go_loopw [5] (fun i wr => ∃ k : Nat, k ≤ n ∧ i = .int .i64 k ∧ Below w.heap.size w wr) (fun i _ => n - (intOf i).toNat)
  case atStart => exact ⟨0, Nat.zero_le _, rfl, Below.refl _ _⟩
  case round =>
    obtain ⟨k, hk, rfl, hbel⟩ := hrel
    by_cases hlt : k < n
    · obtain ⟨b, off, s, A1, n1, c1, A2, n2, c2, A3, n3, c3, rfl, hb, g0, g1, g2, g3, g4, r1, r2, r3, hx⟩ := (hr.below hbel).at_ hlt
      obtain ⟨b', off', s', B1, m1, d1, B2, m2, d2, B3, m3, d3, rfl, hb', h0, h1, h2, h3, h4, q1, q2, q3, hx'⟩ := (hr'.below hbel).at_ hlt
      obtain rfl : s = s' := by have := hx.out; rw [hx'.out] at this; injection this with this; exact this.symm
      have u0 := cell_regrown g0
      have v0 := cell_regrown h0
      have u1 := cell_regrown g1
      have v1 := cell_regrown h1
      have u2 := cell_regrown g2
      have v2 := cell_regrown h2
      have u3 := cell_regrown g3
      have v3 := cell_regrown h3
      have u4 := cell_regrown g4
      have v4 := cell_regrown h4
      obtain rfl : n1 = m1 := by have := r1.1; have := q1.1; omega
      obtain rfl : n2 = m2 := by have := r2.1; have := q2.1; omega
      obtain rfl : n3 = m3 := by have := r3.1; have := q3.1; omega
      have hcon := fun W (hW : Below wr.heap.size wr W) => eqCode_same s A1 n1 c1 A2 n2 c2 A3 n3 c3 B1 d1 B2 d2 B3 d3 W ((IsCd.more ⟨r1, r2, r3⟩ hbel.size).now hW) ((IsCd.more ⟨q1, q2, q3⟩ hbel.size).now hW) (hs _ (mem_of_at hx.out))
      unfold cdV at hcon
      clear r1 r2 r3 q1 q2 q3
      go_wp2
      refine wp_region_quiet_below (by kernel_rfl) (by kernel_rfl) ?_
      repeat (first | go_big_quiet_step ((go_at_call 64; exact Calls.regrown_of (hcon _ (below_regrown wr _ _)))) | quiet_step (fail))
      refine wpQuiet_nil ?_
      intro _ hw'
      obtain ⟨⟨dq, osq⟩, hw''⟩ := hw'
      subst hw''
      go_wp2
      go_roundw
      case rel => exact ⟨k + 1, by omega, by go_num, hbel.trans ((below_regrown wr dq osq).mono hbel.size)⟩
      case measure => simp [intOf]; omega
    · go_wp2
      go_ret
      exact ⟨rfl, hbel⟩

set_option maxHeartbeats 1000000 in
theorem eqImage_same (A A' : Option Addr) (n c c' : Nat) (cs : List Cd) (w : World) (hr : ReadsC w w.heap.size A n cs) (hr' : ReadsC w w.heap.size A' n cs) (hs : SmallI cs) :
    Calls Tryz.prog 12 #[.agg #[.slice A n c], .agg #[.slice A' n c']] w fun e w' => e = .returned (.bool true) ∧ Below w.heap.size w w' := by
  obtain ⟨l1, l2⟩ := hs
  rw [hr.1] at l1
  have hb0 : Below w.heap.size w ((w.alloc (.cells #[.slice A n c] 36)).alloc (.cells #[.slice A' n c'] 36)) := ((Below.refl _ _).alloc (Nat.le_refl _) _).alloc (by simp) _
  go_enter Tryz.func12, Tryz.ntmps12
  go_wp2_with fail
  refine (eqCodes_same A A' n c c' cs _ (hr.now hb0) (hr'.now hb0) l1 l2).mono ?_
  rintro e W1 ⟨rfl, hc⟩
  go_wp2
  go_ret
  exact ⟨rfl, hb0.trans (hc.mono hb0.size)⟩

end Go.Proofs.YtpbkkjiikhjanaaGreatDoor

/-
  The program's fault of a code: contract.
-/
import Derived.Test.YtcpjddkhclaafaaDoorCda2
import Derived.Test.YtcpjddkhclaafaaDoorHtI
namespace Go.Proofs.YtcpjddkhclaafaaDoor
open Go.RowKit Exs Ht

set_option maxHeartbeats 4000000 in
set_option maxRecDepth 100000 in
theorem codeFault_any (A : Option Addr) (n c : Nat) (cs : List Cd) (s : Cd) (A1 : Option Addr) (n1 c1 : Nat) (A2 : Option Addr) (n2 c2 : Nat) (A3 : Option Addr) (n3 c3 : Nat) (w : World) (hr : ReadsC w w.heap.size A n cs) (hs : IsCd w w.heap.size s A1 n1 A2 n2 A3 n3) (hn : n ≤ 5) (hi : cdB s = true) (hp : ∀ c ∈ cs, cdB c = true) (hkd : Kinds w) (hpos : 0 < w.heap.size) :
    Calls Tryd.prog 36 #[.agg #[.slice A n c], cdV s A1 n1 c1 A2 n2 c2 A3 n3 c3] w fun e w' => e = .returned (.int .i64 (cdAns cs s)) ∧ Below w.heap.size w w' := by
  have hb := ((Below.refl w.heap.size w).alloc (Nat.le_refl _) (Obj.cells #[.slice A n c] 35)).alloc (by simp) (Obj.cells #[.int .i64 s.params, .int .i64 s.vars, .slice A1 n1 c1, .slice A2 n2 c2, .slice A3 n3 c3] 67)
  have j2 := (Keep.new w #[.slice A n c] 35).alloc (Obj.cells #[.int .i64 s.params, .int .i64 s.vars, .slice A1 n1 c1, .slice A2 n2 c2, .slice A3 n3 c3] 67)
  have k2 := Keep.new (w.alloc (Obj.cells #[.slice A n c] 35)) #[.int .i64 s.params, .int .i64 s.vars, .slice A1 n1 c1, .slice A2 n2 c2, .slice A3 n3 c3] 67
  rw [World.size_alloc] at k2
  have hsz := cdB_iff s |>.1 hi
  rw [hs.sites.1, hs.ins.1, hs.rows.1] at hsz
  have HSZ := put hsz
  have l1 : n1 ≤ 4 := by omega
  have l2 : n2 ≤ 300 := by omega
  have l3 : n3 ≤ 300 := by omega
  have E := put hs.ins.1
  have LR := put hs.rows.1
  clear hsz
  have C1 := put (fun W hW => namesAreThere_any A n c cs s A1 n1 c1 A2 n2 c2 A3 n3 c3 W (hr.now hW) (hs.now hW) hn hi)
  have C2 := put (fun W hW => sitesAreThere_any A n c cs s A1 n1 c1 A2 n2 c2 A3 n3 c3 W (hr.now hW) (hs.now hW) hn hi)
  have C3 := put (fun W hW => goesOnWithin_any s A1 n1 c1 A2 n2 c2 A3 n3 c3 W (hs.now hW) hi)
  have C4 := put (fun W (hW : Below w.heap.size w W) => goodRows_any A3 n3 c3 s.rows n2 W (hs.rows.now hW) l3 l2)
  have C5 := put (fun W (hW : Below w.heap.size w W) h1 h3 h4 => heightsIn_any A n c cs s A1 n1 c1 A2 n2 c2 A3 n3 c3 W (hr.now hW) (hs.now hW) hn hi hp h1 h3 h4 (hkd.below hW hpos) (by have := hW.size; omega))
  have C6 := put (fun W (hW : Below w.heap.size w W) v hs0 B hv hl hg => raisesInRows_any s A1 n1 c1 A2 n2 c2 A3 n3 c3 W (hs.now hW) hi v hs0 B hv hl hg)
  have C7 := put (fun W (hW : Below w.heap.size w W) v hs0 B hv hl => endsAtNothing_any s A1 n1 c1 A2 n2 c2 A3 n3 c3 W (hs.now hW) hi v hs0 B hv hl)
  unfold cdV at C1 C2 C3 C5 C6 C7 ⊢
  clear hi hp hs hr hkd
  go_enter Tryd.func36, Tryd.ntmps36
  go_wp2_with fail
  generalize hW : (w.alloc (Obj.cells #[.slice A n c] 35)).alloc (Obj.cells #[.int .i64 s.params, .int .i64 s.vars, .slice A1 n1 c1, .slice A2 n2 c2, .slice A3 n3 c3] 67) = W0 at hb j2 k2 ⊢
  clear hW
  cases h1 : namedB cs s
  · have HA := put (cdAns_1 h1)
    have HQ := put h1
    refine (C1.out W0 hb).mono ?_
    rintro e w1 ⟨rfl, hb1⟩
    rw [HQ.out]
    go_wp2
    go_ret
    exact ⟨ret_int HA.out.symm, hb.trans (hb1.mono hb.size)⟩
  have H1 := put h1
  clear h1
  refine (C1.out W0 hb).mono ?_
  rintro e w1 ⟨rfl, hb1⟩
  rw [H1.out]
  have b1 := hb.trans (hb1.mono hb.size)
  have k3 := k2.below hb1
  have j3 := j2.below hb1
  clear hb1 hb k2 j2
  have y0 := j3.cell 0
  have z0 := k3.cell 0
  have z1 := k3.cell 1
  have z2 := k3.cell 2
  have z3 := k3.cell 3
  have z4 := k3.cell 4
  simp at y0 z0 z1 z2 z3 z4
  cases h2 : sitesB cs s
  · have HA := put (cdAns_2 H1.out h2)
    have HQ := put h2
    clear h2
    go_wp2_with fail
    refine (C2.out _ b1).mono ?_
    rintro e v1 ⟨rfl, hb1⟩
    rw [HQ.out]
    go_wp2
    go_ret
    exact ⟨ret_int HA.out.symm, b1.trans (hb1.mono b1.size)⟩
  have H2 := put h2
  clear h2
  go_wp2_with fail
  refine (C2.out _ b1).mono ?_
  rintro e w2 ⟨rfl, hb1⟩
  rw [H2.out]
  have b2 := b1.trans (hb1.mono b1.size)
  have k4 := k3.below hb1
  have j4 := j3.below hb1
  clear hb1 y0 z0 z1 z2 z3 z4 k3 j3
  have y0 := j4.cell 0
  have z0 := k4.cell 0
  have z1 := k4.cell 1
  have z2 := k4.cell 2
  have z3 := k4.cell 3
  have z4 := k4.cell 4
  simp at y0 z0 z1 z2 z3 z4
  cases h3 : goesB s
  · have HA := put (cdAns_3 H1.out H2.out h3)
    have HQ := put h3
    clear h3
    go_wp2_with fail
    refine (C3.out _ b2).mono ?_
    rintro e v1 ⟨rfl, hb1⟩
    rw [HQ.out]
    go_wp2
    go_ret
    exact ⟨ret_int HA.out.symm, b2.trans (hb1.mono b2.size)⟩
  have H3 := put h3
  clear h3
  go_wp2_with fail
  refine (C3.out _ b2).mono ?_
  rintro e w3 ⟨rfl, hb1⟩
  rw [H3.out]
  have b3 := b2.trans (hb1.mono b2.size)
  have k5 := k4.below hb1
  have j5 := j4.below hb1
  clear hb1 y0 z0 z1 z2 z3 z4 k4 j4
  have z3 := k5.cell 3
  have z4 := k5.cell 4
  simp at z3 z4
  cases h4 : rowsF n2 0 s.rows
  · have HA := put (cdAns_4 H1.out H2.out H3.out (by rw [E.out]; exact h4))
    have HQ := put h4
    clear h4
    go_wp2_with fail
    refine (C4.out _ b3).mono ?_
    rintro e v1 ⟨rfl, hb1⟩
    rw [HQ.out]
    go_wp2
    go_ret
    exact ⟨ret_int HA.out.symm, b3.trans (hb1.mono b3.size)⟩
  have H4 := put h4
  clear h4
  go_wp2_with fail
  refine (C4.out _ b3).mono ?_
  rintro e w4 ⟨rfl, hb1⟩
  rw [H4.out]
  have b4 := b3.trans (hb1.mono b3.size)
  have k6 := k5.below hb1
  have j6 := j5.below hb1
  clear hb1 z3 z4 k5 j5
  have y0 := j6.cell 0
  have z0 := k6.cell 0
  have z1 := k6.cell 1
  have z2 := k6.cell 2
  have z3 := k6.cell 3
  have z4 := k6.cell 4
  simp at y0 z0 z1 z2 z3 z4
  have ON := put (cdAns_on H1.out H2.out H3.out (by rw [E.out]; exact H4.out))
  have IS := put (fun hs0 (h : hts (gr cs s) = some hs0) => hts_is h)
  have GN := put (show (gr cs s).n = n2 from E.out)
  go_wp2_with fail
  refine (C5.out _ b4 H1.out H3.out (by rw [E.out]; exact H4.out)).mono ?_
  cases hh : hts (gr cs s) with
  | none =>
    have HA := put (ON.out.1 hh)
    clear hh
    rintro e w5 ⟨v, rfl, nu, hb1⟩
    simp only [htAns]
    go_wp2
    go_ret
    exact ⟨ret_int HA.out.symm, b4.trans (hb1.mono b4.size)⟩
  | some hs0 =>
    have HON := put (ON.out.2 hs0 hh)
    have HIS := put (IS.out hs0 hh)
    clear hh
    rintro e w5 ⟨v, rfl, nu, hb1⟩
    simp only [htAns] at nu ⊢
    have b5 := b4.trans (hb1.mono b4.size)
    have k7 := k6.below hb1
    have HLEN := put (show hs0.length = n2 by rw [HIS.out.len, GN.out])
    have HGE := put (show ∀ (a : Nat) (g : Int), hs0[a]? = some g → g = -1 ∨ 0 ≤ g from fun a g h => by
      rcases HIS.out.at_ a g h with h | h
      · exact .inr h.1
      · exact .inl h.1)
    clear hb1 y0 z0 z1 z2 z3 z4 k6 j6
    have z0 := k7.cell 0
    have z1 := k7.cell 1
    have z2 := k7.cell 2
    have z3 := k7.cell 3
    have z4 := k7.cell 4
    simp at z0 z1 z2 z3 z4
    obtain ⟨An, cn, hvn, _⟩ := nu.reads
    subst hvn
    go_wp2_with fail
    refine (C6.out _ b5 _ hs0 _ nu HLEN.out HGE.out).mono ?_
    rintro e w6 ⟨⟨q, rfl, HQ⟩, hb1⟩
    have HQ := put HQ
    have b6 := b5.trans (hb1.mono b5.size)
    have k8 := k7.below hb1
    have nu6 := nu.belowNew hb1
    clear z0 z1 z2 z3 z4 hb1 k7 nu
    cases q with
    | false =>
      have HA := put (HON.out.1 (fun h => by have := HQ.out.2 h; cases this))
      go_wp2
      go_ret
      exact ⟨ret_int HA.out.symm, b6⟩
    | true =>
      have HR := put (HQ.out.1 rfl)
      have z0 := k8.cell 0
      have z1 := k8.cell 1
      have z2 := k8.cell 2
      have z3 := k8.cell 3
      have z4 := k8.cell 4
      simp at z0 z1 z2 z3 z4
      go_wp2_with fail
      refine (C7.out _ b6 _ hs0 _ nu6 HLEN.out).mono ?_
      rintro e w7 ⟨⟨q, rfl, HE⟩, hb1⟩
      have HE := put HE
      cases q with
      | false =>
        have HA := put (HON.out.2.1 HR.out (fun h => by have := HE.out.2 h; cases this))
        go_wp2
        go_ret
        exact ⟨ret_int HA.out.symm, b6.trans (hb1.mono b6.size)⟩
      | true =>
        have HA := put (HON.out.2.2 HR.out (HE.out.1 rfl))
        go_wp2
        go_ret
        exact ⟨ret_int HA.out.symm, b6.trans (hb1.mono b6.size)⟩

end Go.Proofs.YtcpjddkhclaafaaDoor

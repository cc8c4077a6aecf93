/-
  JoinRows: the program's way.
-/
import Derived.Test.YtkfdehmmhgcapaaRwJ
import Derived.Deep.RegionLaw
namespace Go.Proofs.Ytkfdehmmhgcapaa
open Go.RowKit Exs

set_option maxHeartbeats 1000000 in
set_option maxRecDepth 100000 in
theorem joinTwo_yes (qa x z y : Int) (w : World) : Calls Try.prog 46 #[.agg #[.int .i64 qa, .int .i64 x, .int .i64 z], .agg #[.int .i64 x, .int .i64 y, .int .i64 z]] w fun e w' => e = .returned (.tuple #[.agg #[.int .i64 qa, .int .i64 y, .int .i64 z], .bool true]) ∧ Below w.heap.size w w' := by
  have hb := ((((Below.refl w.heap.size w).alloc (Nat.le_refl _) (Obj.cells #[.int .i64 qa, .int .i64 x, .int .i64 z] 50)).alloc (by simp) (Obj.cells #[.int .i64 x, .int .i64 y, .int .i64 z] 50)).alloc (by simp; omega) (Obj.cells #[.int .i64 qa, .int .i64 y, .int .i64 z] 50))
  go_enter Try.func46, Try.ntmps46
  go_wp2
  exact bodyPost_ret (v := .tuple #[.agg #[.int .i64 qa, .int .i64 y, .int .i64 z], .bool true]) (by simp [results, Try.results46, go_sem]) rfl ⟨rfl, hb⟩

set_option maxHeartbeats 1000000 in
set_option maxRecDepth 100000 in
theorem joinTwo_no (qa qb qc x y z : Int) (h : ¬ (qb = x ∧ qc = z)) (w : World) : Calls Try.prog 46 #[.agg #[.int .i64 qa, .int .i64 qb, .int .i64 qc], .agg #[.int .i64 x, .int .i64 y, .int .i64 z]] w fun e w' => e = .returned (.tuple #[.agg #[.int .i64 0, .int .i64 0, .int .i64 0], .bool false]) ∧ Below w.heap.size w w' := by
  have hb := ((((Below.refl w.heap.size w).alloc (Nat.le_refl _) (Obj.cells #[.int .i64 qa, .int .i64 qb, .int .i64 qc] 50)).alloc (by simp) (Obj.cells #[.int .i64 x, .int .i64 y, .int .i64 z] 50)).alloc (by simp; omega) (Obj.cells #[.int .i64 0, .int .i64 0, .int .i64 0] 50))
  by_cases e1 : qb = x
  · subst e1
    have q2 : (qc != z) = true := by have : ¬ qc = z := fun e => h ⟨rfl, e⟩; simp [this]
    clear h
    go_enter Try.func46, Try.ntmps46
    go_wp2
    exact bodyPost_ret (v := .tuple #[.agg #[.int .i64 0, .int .i64 0, .int .i64 0], .bool false]) (by simp [results, Try.results46, go_sem]) rfl ⟨rfl, hb⟩
  · have q1 : (qb != x) = true := by simp [e1]
    clear h e1
    go_enter Try.func46, Try.ntmps46
    go_wp2
    exact bodyPost_ret (v := .tuple #[.agg #[.int .i64 0, .int .i64 0, .int .i64 0], .bool false]) (by simp [results, Try.results46, go_sem]) rfl ⟨rfl, hb⟩

set_option maxHeartbeats 4000000 in
set_option maxRecDepth 100000 in
theorem joinAll_any (A : Option Addr) (n c : Nat) (rs : List Row3) (w : World) (hr : ReadsR w w.heap.size A n rs) (hn : n ≤ 300) :
    Calls Try.prog 45 #[.slice A n c, .func (.func 46) #[] #[]] w fun e w' => ∃ v, e = .returned v ∧ Rws w' w.heap.size v (joinL rs) ∧ Below w.heap.size w w' := by
  have HLN := put hr.1
  go_enter Try.func45, Try.ntmps45
  go_wp2
  go_loopw [5, 13] (fun v i wr => ∃ k : Nat, k ≤ n ∧ i = .int .i64 k ∧ JSt w wr v (joinL (rs.take k))) (fun _ i _ => n - (intOf i).toNat)
  case atStart => exact ⟨0, Nat.zero_le _, rfl, Rws.nil _ _, Below.refl _ _⟩
  case round =>
    obtain ⟨k, hk, rfl, hst⟩ := hrel
    by_cases hlt : k < n
    · obtain ⟨b, off, x, y, z, rfl, hb', hc1, hc2, hc3, hxt⟩ := (hr.below hst.bel).at_ hlt
      have HM := put (joinL_more hxt.out)
      have hlen : (joinL (rs.take k)).length ≤ 300 := by
        have h1 := joinL_length (rs.take k)
        have h2 : (rs.take k).length ≤ k := by rw [List.length_take]; omega
        omega
      generalize joinL (rs.take k) = out at HM hst hlen
      have hb0 := (Below.refl wr.heap.size wr).alloc (Nat.le_refl _) (Obj.cells #[.int .i64 x, .int .i64 y, .int .i64 z] 50)
      have k0 := Keep.new wr #[.int .i64 x, .int .i64 y, .int .i64 z] 50
      have own0 := hst.own.below hb0
      have bel0 := hst.bel.trans (hb0.mono hst.bel.size)
      rcases List.eq_nil_or_concat out with rfl | ⟨ys, q, h0⟩
      · have HJ := put (joinS_nil (x, y, z))
        obtain ⟨A', c', n0, rfl, hn0⟩ := own0.shape
        have hw1 : IntKind.i64.wrap ((n0 : Int) - 1) = -1 := by have := hn0.out; simp at this; subst this; rfl
        clear hst
        have ownN : Rws ((wr.alloc (Obj.cells #[.int .i64 x, .int .i64 y, .int .i64 z] 50)).alloc (Obj.cells #[.int .i64 x, .int .i64 y, .int .i64 z] 50)) w.heap.size (.slice A' n0 c') [] := own0.below ((Below.refl _ _).alloc (Nat.le_refl _) _)
        have belN : Below w.heap.size w ((wr.alloc (Obj.cells #[.int .i64 x, .int .i64 y, .int .i64 z] 50)).alloc (Obj.cells #[.int .i64 x, .int .i64 y, .int .i64 z] 50)) := bel0.alloc bel0.size _
        have kN := Keep.new (wr.alloc (Obj.cells #[.int .i64 x, .int .i64 y, .int .i64 z] 50)) #[.int .i64 x, .int .i64 y, .int .i64 z] 50
        rw [World.size_alloc] at kN
        clear own0 bel0 k0 hb0
        go_wp2_with (at_builtin; refine wpList_append_row rfl _ _ rfl w.heap.size _ [] rfl belN.size ownN (wr.heap.size + 1) x y z rfl (kN.cell 0) (kN.cell 1) (kN.cell 2) (by simp) ?_)
        intro v' w3 hown' hgr
        have HBEL := put (ownN.grown_below belN belN.size hgr)
        clear ownN belN hgr kN
        go_wp2
        go_roundw
        case rel => exact ⟨k + 1, by omega, by go_num, by rw [HM.out, HJ.out]; exact hown', HBEL.out⟩
        case measure => simp [intOf]; omega
      · rw [List.concat_eq_append] at h0
        subst h0
        obtain ⟨g, c', n0, rfl, hn0, hB, hgl, d0, d1, d2, hfz⟩ := own0.last
        obtain ⟨qa, qb, qc⟩ := q
        obtain ⟨L, hL⟩ : ∃ L, ys.length = L := ⟨_, rfl⟩
        have hL3 : L ≤ 300 := by simp at hlen; omega
        have hw1 : IntKind.i64.wrap ((n0 : Int) - 1) = (L : Int) := by have := hn0.out; rw [IntWalk.i64_in _ ⟨by omega, by omega⟩]; omega
        have hlt2 : L < n0 := by have := hn0.out; omega
        have hlt3 : (L : Int) < (n0 : Int) := by omega
        rw [hL] at d0 d1 d2
        simp only at d0 d1 d2
        clear hst
        by_cases e1 : qb = x ∧ qc = z
        · obtain ⟨rfl, rfl⟩ := e1
          have HJ := put (joinS_yes (ys := ys) (q := (qa, qb, qc)) (r := (qb, y, qc)) ⟨rfl, rfl⟩)
          go_wp2
          generalize hW : wr.alloc (Obj.cells #[.int .i64 qb, .int .i64 y, .int .i64 qc] 50) = W0 at own0 bel0 k0 hgl d0 d1 d2 hfz ⊢
          have x0 := k0.cell 0; have x1 := k0.cell 1; have x2 := k0.cell 2; simp at x0 x1 x2; have hrl := k0.lt; clear hW hb0
          go_region_law (first | (go_simp; go_at_call 46; refine (joinTwo_yes qa qb qc y _).mono ?_; rintro e w6 ⟨rfl, hb6⟩; first | (have t9 := (show Keep (W0.drew.alloc (.cells #[.int .i64 0, .int .i64 0, .int .i64 0] 50)) W0.heap.size #[.int .i64 0, .int .i64 0, .int .i64 0] 50 from Keep.new W0.drew _ _).below hb6; have t90 := t9.cell 0; have t91 := t9.cell 1; have t92 := t9.cell 2; simp at t90 t91 t92; have t93 := t9.frozen 0; have t94 := t9.frozen 1; have t95 := t9.frozen 2) | skip))
          all_goals (
            first
              | (have b06 : Below W0.heap.size W0 w6 := ((Below.refl W0.heap.size W0).drew.alloc (Nat.le_refl _) (.cells #[.int .i64 0, .int .i64 0, .int .i64 0] 50)).trans (hb6.mono (by simp))
                 have own7 : Rws (((w6.setCell ⟨W0.heap.size, 0, none⟩ (.int .i64 qa)).setCell ⟨W0.heap.size, 1, none⟩ (.int .i64 y)).setCell ⟨W0.heap.size, 2, none⟩ (.int .i64 qc)) w.heap.size (.slice (some ⟨g, 0, none⟩) n0 c') (ys ++ [(qa, qb, qc)]) := (((own0.below b06).other (by omega)).other (by omega)).other (by omega)
                 have bel7 : Below w.heap.size w (((w6.setCell ⟨W0.heap.size, 0, none⟩ (.int .i64 qa)).setCell ⟨W0.heap.size, 1, none⟩ (.int .i64 y)).setCell ⟨W0.heap.size, 2, none⟩ (.int .i64 qc)) := (((bel0.trans (b06.mono bel0.size)).setCell (p := ⟨W0.heap.size, 0, none⟩) bel0.size _).setCell (p := ⟨W0.heap.size, 1, none⟩) bel0.size _).setCell (p := ⟨W0.heap.size, 2, none⟩) bel0.size _
                 have k7 : Keep (((w6.setCell ⟨W0.heap.size, 0, none⟩ (.int .i64 qa)).setCell ⟨W0.heap.size, 1, none⟩ (.int .i64 y)).setCell ⟨W0.heap.size, 2, none⟩ (.int .i64 qc)) W0.heap.size #[.int .i64 qa, .int .i64 y, .int .i64 qc] 50 := ((t9.set 0 _).set 1 _).set 2 _
                 have kr7 : Keep (((w6.setCell ⟨W0.heap.size, 0, none⟩ (.int .i64 qa)).setCell ⟨W0.heap.size, 1, none⟩ (.int .i64 y)).setCell ⟨W0.heap.size, 2, none⟩ (.int .i64 qc)) wr.heap.size #[.int .i64 qb, .int .i64 y, .int .i64 qc] 50 := (((k0.below b06).other (by omega) 0 _).other (by omega) 1 _).other (by omega) 2 _
                 clear own0 bel0 k0 x0 x1 x2 d0 d1 d2 hfz b06 t9 t90 t91 t92 t93 t94 t95 hb6
                 generalize ((w6.setCell ⟨W0.heap.size, 0, none⟩ (.int .i64 qa)).setCell ⟨W0.heap.size, 1, none⟩ (.int .i64 y)).setCell ⟨W0.heap.size, 2, none⟩ (.int .i64 qc) = W7 at own7 bel7 k7 kr7 ⊢
                 generalize W0.heap.size = G at k7 hgl hrl ⊢)
              | (have b06 : Below W0.heap.size W0 w6 := (Below.refl W0.heap.size W0).drew.trans hb6
                 have bel6 := bel0.trans (b06.mono bel0.size)
                 have own7 : Rws (w6.alloc (.cells #[.int .i64 qa, .int .i64 y, .int .i64 qc] 50)) w.heap.size (.slice (some ⟨g, 0, none⟩) n0 c') (ys ++ [(qa, qb, qc)]) := (own0.below b06).below ((Below.refl _ _).alloc (Nat.le_refl _) _)
                 have bel7 : Below w.heap.size w (w6.alloc (.cells #[.int .i64 qa, .int .i64 y, .int .i64 qc] 50)) := bel6.alloc bel6.size _
                 have k7 := Keep.new w6 #[.int .i64 qa, .int .i64 y, .int .i64 qc] 50
                 have kr7 := (k0.below b06).alloc (.cells #[.int .i64 qa, .int .i64 y, .int .i64 qc] 50)
                 clear own0 bel0 bel6 k0 x0 x1 x2 d0 d1 d2 hfz b06 hb6
                 generalize w6.alloc (.cells #[.int .i64 qa, .int .i64 y, .int .i64 qc] 50) = W7 at own7 bel7 k7 kr7 ⊢
                 generalize w6.heap.size = G at k7 ⊢)
            obtain ⟨v0, v1, v2, vf⟩ := own7.lastAt
            rw [hL] at v0 v1 v2
            have u0 := k7.cell 0
            have u1 := k7.cell 1
            have u2 := k7.cell 2
            simp at u0 u1 u2 v0 v1 v2
            have f0 := vf (L * 3)
            have f1 := vf (L * 3 + 1)
            have f2 := vf (L * 3 + 2)
            have hs := put (((own7.setAt hn0.out (i := 0) (u := qa) (qa, qb, qc) rfl).setAt hn0.out (i := 1) (u := y) (qa, y, qc) rfl).setAt hn0.out (i := 2) (u := qc) (qa, y, qc) rfl)
            rw [hL] at hs
            have HB2 := put (((bel7.setCell (p := ⟨g, L * 3, none⟩) hB (.int .i64 qa)).setCell (p := ⟨g, L * 3 + 1, none⟩) hB (.int .i64 y)).setCell (p := ⟨g, L * 3 + 2, none⟩) hB (.int .i64 qc))
            clear own7 bel7 k7 kr7 vf
            go_wp2
            go_roundw
            case rel => exact ⟨k + 1, by omega, by go_num, by rw [HM.out, HJ.out]; exact hs.out, HB2.out⟩
            case measure => simp [intOf]; omega)
        · have HJ := put (joinS_no (ys := ys) (q := (qa, qb, qc)) (r := (x, y, z)) e1)
          go_wp2
          generalize hW : wr.alloc (Obj.cells #[.int .i64 x, .int .i64 y, .int .i64 z] 50) = W0 at own0 bel0 k0 hgl d0 d1 d2 hfz ⊢
          have x0 := k0.cell 0; have x1 := k0.cell 1; have x2 := k0.cell 2; simp at x0 x1 x2; have hrl := k0.lt; clear hW hb0
          go_region_law (first | (go_simp; go_at_call 46; refine (joinTwo_no qa qb qc x y z e1 _).mono ?_; rintro e w6 ⟨rfl, hb6⟩; first | (have t9 := (show Keep (W0.drew.alloc (.cells #[.int .i64 0, .int .i64 0, .int .i64 0] 50)) W0.heap.size #[.int .i64 0, .int .i64 0, .int .i64 0] 50 from Keep.new W0.drew _ _).below hb6; have t90 := t9.cell 0; have t91 := t9.cell 1; have t92 := t9.cell 2; simp at t90 t91 t92; have t93 := t9.frozen 0; have t94 := t9.frozen 1; have t95 := t9.frozen 2) | skip))
          all_goals (
            first
              | (have b06 : Below W0.heap.size W0 w6 := ((Below.refl W0.heap.size W0).drew.alloc (Nat.le_refl _) (.cells #[.int .i64 0, .int .i64 0, .int .i64 0] 50)).trans (hb6.mono (by simp))
                 have own7 : Rws (((w6.setCell ⟨W0.heap.size, 0, none⟩ (.int .i64 0)).setCell ⟨W0.heap.size, 1, none⟩ (.int .i64 0)).setCell ⟨W0.heap.size, 2, none⟩ (.int .i64 0)) w.heap.size (.slice (some ⟨g, 0, none⟩) n0 c') (ys ++ [(qa, qb, qc)]) := (((own0.below b06).other (by omega)).other (by omega)).other (by omega)
                 have bel7 : Below w.heap.size w (((w6.setCell ⟨W0.heap.size, 0, none⟩ (.int .i64 0)).setCell ⟨W0.heap.size, 1, none⟩ (.int .i64 0)).setCell ⟨W0.heap.size, 2, none⟩ (.int .i64 0)) := (((bel0.trans (b06.mono bel0.size)).setCell (p := ⟨W0.heap.size, 0, none⟩) bel0.size _).setCell (p := ⟨W0.heap.size, 1, none⟩) bel0.size _).setCell (p := ⟨W0.heap.size, 2, none⟩) bel0.size _
                 have k7 : Keep (((w6.setCell ⟨W0.heap.size, 0, none⟩ (.int .i64 0)).setCell ⟨W0.heap.size, 1, none⟩ (.int .i64 0)).setCell ⟨W0.heap.size, 2, none⟩ (.int .i64 0)) W0.heap.size #[.int .i64 0, .int .i64 0, .int .i64 0] 50 := ((t9.set 0 _).set 1 _).set 2 _
                 have kr7 : Keep (((w6.setCell ⟨W0.heap.size, 0, none⟩ (.int .i64 0)).setCell ⟨W0.heap.size, 1, none⟩ (.int .i64 0)).setCell ⟨W0.heap.size, 2, none⟩ (.int .i64 0)) wr.heap.size #[.int .i64 x, .int .i64 y, .int .i64 z] 50 := (((k0.below b06).other (by omega) 0 _).other (by omega) 1 _).other (by omega) 2 _
                 clear own0 bel0 k0 x0 x1 x2 d0 d1 d2 hfz b06 t9 t90 t91 t92 t93 t94 t95 hb6
                 generalize ((w6.setCell ⟨W0.heap.size, 0, none⟩ (.int .i64 0)).setCell ⟨W0.heap.size, 1, none⟩ (.int .i64 0)).setCell ⟨W0.heap.size, 2, none⟩ (.int .i64 0) = W7 at own7 bel7 k7 kr7 ⊢
                 generalize W0.heap.size = G at k7 hgl hrl ⊢)
              | (have b06 : Below W0.heap.size W0 w6 := (Below.refl W0.heap.size W0).drew.trans hb6
                 have bel6 := bel0.trans (b06.mono bel0.size)
                 have own7 : Rws (w6.alloc (.cells #[.int .i64 0, .int .i64 0, .int .i64 0] 50)) w.heap.size (.slice (some ⟨g, 0, none⟩) n0 c') (ys ++ [(qa, qb, qc)]) := (own0.below b06).below ((Below.refl _ _).alloc (Nat.le_refl _) _)
                 have bel7 : Below w.heap.size w (w6.alloc (.cells #[.int .i64 0, .int .i64 0, .int .i64 0] 50)) := bel6.alloc bel6.size _
                 have k7 := Keep.new w6 #[.int .i64 0, .int .i64 0, .int .i64 0] 50
                 have kr7 := (k0.below b06).alloc (.cells #[.int .i64 0, .int .i64 0, .int .i64 0] 50)
                 clear own0 bel0 bel6 k0 x0 x1 x2 d0 d1 d2 hfz b06 hb6
                 generalize w6.alloc (.cells #[.int .i64 0, .int .i64 0, .int .i64 0] 50) = W7 at own7 bel7 k7 kr7 ⊢
                 generalize w6.heap.size = G at k7 ⊢)
            have u0 := kr7.cell 0
            have u1 := kr7.cell 1
            have u2 := kr7.cell 2
            simp at u0 u1 u2
            have ownN : Rws (W7.alloc (.cells #[.int .i64 x, .int .i64 y, .int .i64 z] 50)) w.heap.size (.slice (some ⟨g, 0, none⟩) n0 c') (ys ++ [(qa, qb, qc)]) := own7.below ((Below.refl _ _).alloc (Nat.le_refl _) _)
            have belN : Below w.heap.size w (W7.alloc (.cells #[.int .i64 x, .int .i64 y, .int .i64 z] 50)) := bel7.alloc bel7.size _
            have kN := Keep.new W7 #[.int .i64 x, .int .i64 y, .int .i64 z] 50
            have hl5 : (ys ++ [(qa, qb, qc)]).length ≤ 1000000 := by omega
            clear own7 bel7 k7 kr7
            go_wp2_with (at_builtin; refine wpList_append_row rfl _ _ rfl w.heap.size _ (ys ++ [(qa, qb, qc)]) rfl belN.size ownN W7.heap.size x y z rfl (kN.cell 0) (kN.cell 1) (kN.cell 2) hl5 ?_)
            intro v' w3 hown' hgr
            have HBEL := put (ownN.grown_below belN belN.size hgr)
            clear ownN belN hgr kN
            go_wp2
            go_roundw
            case rel => exact ⟨k + 1, by omega, by go_num, by rw [HM.out, HJ.out]; first | exact hown' | (rw [List.append_assoc]; exact hown'), HBEL.out⟩
            case measure => simp [intOf]; omega)
    · have hfin := put (show rs.take k = rs from List.take_of_length_le (by have := HLN.out; omega))
      have hfo := hst.own
      rw [hfin.out] at hfo
      go_wp2
      go_ret
      exact ⟨_, rfl, hfo, hst.bel⟩

set_option maxHeartbeats 1000000 in
set_option maxRecDepth 100000 in
theorem implJoinRows_any (A : Option Addr) (n c : Nat) (rs : List Row3) (many : Int) (w : World) (hr : ReadsR w w.heap.size A n rs) (hn : n ≤ 1048576) :
    Calls Try.prog 25 #[.slice A n c, .int .i64 many] w fun e w' => ∃ v, e = .returned (.tuple #[v, .bool (joinAns many rs).2]) ∧ Rws w' w.heap.size v (joinAns many rs).1 ∧ Below w.heap.size w w' := by
  cases hg : goodB many rs with
  | false =>
    have HG := put hg
    have HA := put (joinAns_bad hg)
    clear hg
    go_enter Try.func25, Try.ntmps25
    go_wp2_with fail
    refine (implGoodRows_any A n c rs many _ hr hn).mono ?_
    rintro e w1 ⟨rfl, hb1⟩
    rw [HG.out]
    go_wp2
    go_ret2
    exact ⟨.slice none 0 0, by rw [HA.out]; rfl, by rw [HA.out]; exact Rws.nil _ _, hb1⟩
  | true =>
    have HG := put hg
    have HA := put (joinAns_ok hg)
    have hn3 : n ≤ 300 := by rw [← hr.1]; exact goodB_length hg
    clear hg
    go_enter Try.func25, Try.ntmps25
    go_wp2_with fail
    refine (implGoodRows_any A n c rs many _ hr hn).mono ?_
    rintro e w1 ⟨rfl, hb1⟩
    rw [HG.out]
    go_wp2_with fail
    refine (joinAll_any A n c rs _ (hr.now hb1) hn3).mono ?_
    rintro e w2 ⟨v, rfl, hown, hb2⟩
    go_wp2
    go_ret2
    exact ⟨v, by rw [HA.out]; rfl, by rw [HA.out]; exact hown.under hb1.size, hb1.trans (hb2.mono hb1.size)⟩

end Go.Proofs.Ytkfdehmmhgcapaa

/-
  JoinRows: the last row of a row of the call's own; the reference's way.
-/
import Derived.Test.YtkfdehmmhgcapaaRwC
namespace Go.Proofs.Ytkfdehmmhgcapaa
open Go.RowKit Exs

theorem Rws.drewN {w : World} {B : Nat} {v : Value} {rs : List Row3} (h : Rws w B v rs) (n : Nat) : Rws (w.drewN n) B v rs := h
theorem Rws.lastAt {w : World} {B g n c : Nat} {ys : List Row3} {q : Row3} (h : Rws w B (.slice (some ⟨g, 0, none⟩) n c) (ys ++ [q])) :
    w.cell? ⟨g, ys.length * 3, none⟩ = some (.int .i64 q.1) ∧ w.cell? ⟨g, ys.length * 3 + 1, none⟩ = some (.int .i64 q.2.1) ∧ w.cell? ⟨g, ys.length * 3 + 2, none⟩ = some (.int .i64 q.2.2) ∧ ∀ i, w.frozen? ⟨g, i, none⟩ = false := by
  have hl : (ys ++ [q]).length = ys.length + 1 := by simp
  have e1 : ((flat3 ys).map (Value.int .i64)).length = ys.length * 3 := by rw [List.length_map, flat3_length]; omega
  obtain rfl : n = ys.length + 1 := by
    obtain ⟨A, c, e, _⟩ := h.reads
    injection e with _ e _
    rw [e, hl]
  unfold Rws at h
  rw [hl] at h
  refine ⟨?_, ?_, ?_, fun i => World.ownsRow.frozenAt h i⟩
  · rw [World.ownsRow.cellAt h _ (by omega), flat3_snoc, List.append_assoc, List.append_assoc, List.map_append, List.getElem?_append_right (by omega), e1]
    simp
  · rw [World.ownsRow.cellAt h _ (by omega), flat3_snoc, List.append_assoc, List.append_assoc, List.map_append, List.getElem?_append_right (by omega), e1]
    simp
  · rw [World.ownsRow.cellAt h _ (by omega), flat3_snoc, List.append_assoc, List.append_assoc, List.map_append, List.getElem?_append_right (by omega), e1]
    simp
theorem Rws.last {w : World} {B : Nat} {v : Value} {ys : List Row3} {q : Row3} (h : Rws w B v (ys ++ [q])) :
    ∃ g c n, v = .slice (some ⟨g, 0, none⟩) n c ∧ Hid (n = ys.length + 1) ∧ B ≤ g ∧ g < w.heap.size ∧ w.cell? ⟨g, ys.length * 3, none⟩ = some (.int .i64 q.1) ∧ w.cell? ⟨g, ys.length * 3 + 1, none⟩ = some (.int .i64 q.2.1) ∧ w.cell? ⟨g, ys.length * 3 + 2, none⟩ = some (.int .i64 q.2.2) ∧ ∀ i, w.frozen? ⟨g, i, none⟩ = false := by
  have h0 := h
  rcases h.2 with ⟨rfl, hn⟩ | ⟨g, cap, cur, rfl, hB, hg, hc, hm, _⟩
  · simp at hn
  · have hl : (ys ++ [q]).length = ys.length + 1 := by simp
    exact ⟨g, cap, _, rfl, put hl, hB, (Array.getElem?_eq_some_iff.1 hg).1, h0.lastAt⟩
theorem Rws.other {w : World} {B g n c g' i : Nat} {u : Value} {rs : List Row3} (h : Rws w B (.slice (some ⟨g, 0, none⟩) n c) rs) (hne : g ≠ g') : Rws (w.setCell ⟨g', i, none⟩ u) B (.slice (some ⟨g, 0, none⟩) n c) rs := by
  refine ⟨h.1, ?_⟩
  rcases h.2 with ⟨h0, _⟩ | ⟨g1, cap, cur, hv, hB, hh, r⟩
  · cases h0
  · have e : g1 = g := by injection hv with hv _ _; injection hv with hv; injection hv with hv; exact hv.symm
    exact .inr ⟨g1, cap, cur, hv, hB, (Below.heap_setCell w ⟨g', i, none⟩ u g1 (by rw [e]; exact hne)).trans hh, r⟩
theorem flat3_set {ys : List Row3} {q : Row3} {i : Nat} {u : Int} (q' : Row3) (h : [q.1, q.2.1, q.2.2].set i u = [q'.1, q'.2.1, q'.2.2]) : ((flat3 (ys ++ [q])).map (Value.int .i64)).set (ys.length * 3 + i) (.int .i64 u) = (flat3 (ys ++ [q'])).map (Value.int .i64) := by
  have e1 : (flat3 ys).length = ys.length * 3 := by rw [flat3_length]; omega
  rw [← List.map_set, flat3_snoc, flat3_snoc, List.append_assoc, List.append_assoc, List.append_assoc, List.append_assoc]
  congr 1
  rw [List.set_append_right _ _ (by omega), e1, Nat.add_sub_cancel_left]
  congr 1
theorem Rws.setAt {w : World} {B g c n : Nat} {ys : List Row3} {q : Row3} (h : Rws w B (.slice (some ⟨g, 0, none⟩) n c) (ys ++ [q])) (hn : n = ys.length + 1) {i : Nat} {u : Int} (q' : Row3) (hq : [q.1, q.2.1, q.2.2].set i u = [q'.1, q'.2.1, q'.2.2]) :
    Rws (w.setCell ⟨g, ys.length * 3 + i, none⟩ (.int .i64 u)) B (.slice (some ⟨g, 0, none⟩) n c) (ys ++ [q']) := by
  subst hn
  unfold Rws at h ⊢
  have hl : (ys ++ [q]).length = ys.length + 1 := by simp
  have hl' : (ys ++ [q']).length = ys.length + 1 := by simp
  rw [hl] at h
  rw [hl', ← flat3_set q' hq]
  exact (World.ownsRow.stored h _ _).1

theorem Rws.shape {w : World} {B : Nat} {v : Value} {rs : List Row3} (h : Rws w B v rs) : ∃ A c n, v = .slice A n c ∧ Hid (n = rs.length) := by
  obtain ⟨A, c, h1, _⟩ := h.reads
  exact ⟨A, c, _, h1, put rfl⟩
theorem joinAns_bad {many : Int} {rs : List Row3} (h : goodB many rs = false) : joinAns many rs = ([], false) := by simp [joinAns, h]
theorem joinAns_ok {many : Int} {rs : List Row3} (h : goodB many rs = true) : joinAns many rs = (joinL rs, true) := by simp [joinAns, h]
theorem joinL_some {rs : List Row3} {k : Nat} (hk : 0 < k) {r : Row3} (h : rs[k - 1]? = some r) : joinL (rs.take k) ≠ [] := by
  obtain ⟨j, rfl⟩ : ∃ j, k = j + 1 := ⟨k - 1, by omega⟩
  rw [Nat.add_sub_cancel] at h
  rw [joinL_more h]
  rcases List.eq_nil_or_concat (joinL (rs.take j)) with h0 | ⟨ys, q, h0⟩
  · rw [h0, joinS_nil]; simp
  · rw [h0, List.concat_eq_append]
    by_cases hc : q.2.1 = r.1 ∧ q.2.2 = r.2.2
    · rw [joinS_yes hc]; simp
    · rw [joinS_no hc]; simp

/-- Where the reference is: the rows joined so far. -/
structure JSt (w W : World) (v : Value) (out : List Row3) : Prop where
  own : Rws W w.heap.size v out
  bel : Below w.heap.size w W

set_option maxHeartbeats 4000000 in
set_option maxRecDepth 100000 in
theorem specJoinRows_any (A : Option Addr) (n c : Nat) (rs : List Row3) (many : Int) (w : World) (hr : ReadsR w w.heap.size A n rs) (hn : n ≤ 1048576) :
    Calls Try.prog 24 #[.slice A n c, .int .i64 many] w fun e w' => ∃ v, e = .returned (.tuple #[v, .bool (joinAns many rs).2]) ∧ Rws w' w.heap.size v (joinAns many rs).1 ∧ Below w.heap.size w w' := by
  cases hg : goodB many rs with
  | false =>
    have HG := put hg
    have HA := put (joinAns_bad hg)
    clear hg
    go_enter Try.func24, Try.ntmps24
    go_wp2_with fail
    refine (l7Good_any A n c rs many _ hr hn).mono ?_
    rintro e w1 ⟨rfl, hb1⟩
    rw [HG.out]
    go_wp2
    go_ret2
    exact ⟨.slice none 0 0, by rw [HA.out]; rfl, by rw [HA.out]; exact Rws.nil _ _, hb1⟩
  | true =>
    have HG := put hg
    have HA := put (joinAns_ok hg)
    have hn3 : n ≤ 300 := by rw [← hr.1]; exact goodB_length hg
    have HLN := put hr.1
    clear hg
    go_enter Try.func24, Try.ntmps24
    go_wp2_with fail
    refine (l7Good_any A n c rs many _ hr hn).mono ?_
    rintro e w1 ⟨rfl, hb1⟩
    rw [HG.out]
    go_wp2
    go_loopw [6, 16] (fun v i wr => ∃ k : Nat, k ≤ n ∧ i = .int .i64 k ∧ JSt w wr v (joinL (rs.take k))) (fun _ i _ => n - (intOf i).toNat)
    case atStart => exact ⟨0, Nat.zero_le _, rfl, Rws.nil _ _, hb1⟩
    case round =>
      obtain ⟨k, hk, rfl, hst⟩ := hrel
      clear hb1
      by_cases hlt : k < n
      · obtain ⟨b, off, x, y, z, rfl, hb', hc1, hc2, hc3, hxt⟩ := (hr.below hst.bel).at_ hlt
        have HM := put (joinL_more hxt.out)
        have hlen : (joinL (rs.take k)).length ≤ 300 := by
          have h1 := joinL_length (rs.take k)
          have h2 : (rs.take k).length ≤ k := by rw [List.length_take]; omega
          omega
        generalize joinL (rs.take k) = out at HM hst hlen
        have hb0 := (Below.refl wr.heap.size wr).alloc (Nat.le_refl _) (Obj.cells #[.int .i64 x, .int .i64 y, .int .i64 z] 50)
        have k0 := Keep.new wr #[.int .i64 x, .int .i64 y, .int .i64 z] 50
        have own0 := hst.own.below hb0
        have bel0 := hst.bel.trans (hb0.mono hst.bel.size)
        rcases List.eq_nil_or_concat out with rfl | ⟨ys, q, h0⟩
        · have HJ := put (joinS_nil (x, y, z))
          obtain ⟨A', c', n0, rfl, hn0⟩ := own0.shape
          have hp : (n0 : Int) ≤ 0 := by have := hn0.out; simp at this; omega
          have q0 : decide (0 < n0) = false := decide_eq_false (by omega)
          clear hst
          go_wp2
          generalize hW : wr.alloc (Obj.cells #[.int .i64 x, .int .i64 y, .int .i64 z] 50) = W0 at own0 bel0 k0 ⊢
          have x0 := k0.cell 0; have x1 := k0.cell 1; have x2 := k0.cell 2; simp at x0 x1 x2; clear hW k0 hb0
          go_quiet (fail)
          have kN : Keep ((W0.drewN nq).alloc (.cells #[.int .i64 x, .int .i64 y, .int .i64 z] 50)) W0.heap.size #[.int .i64 x, .int .i64 y, .int .i64 z] 50 := Keep.new (W0.drewN nq) _ _
          have ownN : Rws ((W0.drewN nq).alloc (.cells #[.int .i64 x, .int .i64 y, .int .i64 z] 50)) w.heap.size (.slice A' n0 c') [] := (own0.drewN nq).below ((Below.refl _ _).alloc (Nat.le_refl _) _)
          have belN : Below w.heap.size w ((W0.drewN nq).alloc (.cells #[.int .i64 x, .int .i64 y, .int .i64 z] 50)) := (below_drewN bel0 nq).alloc (below_drewN bel0 nq).size _
          clear own0 bel0
          go_wp2_with (at_builtin; refine wpList_append_row rfl _ _ rfl w.heap.size _ [] rfl belN.size ownN W0.heap.size x y z rfl (kN.cell 0) (kN.cell 1) (kN.cell 2) (by simp) ?_)
          intro v' w3 hown' hgr
          have HBEL := put (ownN.grown_below belN belN.size hgr)
          clear ownN belN hgr
          go_wp2
          go_roundw
          case rel => exact ⟨k + 1, by omega, by go_num, by rw [HM.out, HJ.out]; first | exact hown' | (rw [List.append_assoc]; exact hown'), HBEL.out⟩
          case measure => simp [intOf]; omega
        · rw [List.concat_eq_append] at h0
          subst h0
          obtain ⟨g, c', n0, rfl, hn0, hB, hgl, d0, d1, d2, hfz⟩ := own0.last
          obtain ⟨qa, qb, qc⟩ := q
          obtain ⟨L, hL⟩ : ∃ L, ys.length = L := ⟨_, rfl⟩
          have hL3 : L ≤ 300 := by simp at hlen; omega
          have hp : (0 : Int) < (n0 : Int) := by have := hn0.out; omega
          have hw1 : IntKind.i64.wrap ((n0 : Int) - 1) = (L : Int) := by have := hn0.out; rw [IntWalk.i64_in _ ⟨by omega, by omega⟩]; omega
          have hlt2 : L < n0 := by have := hn0.out; omega
          have q0 : decide (0 < n0) = true := decide_eq_true (by omega)
          rw [hL] at d0 d1 d2
          simp only at d0 d1 d2
          clear hst
          by_cases e1 : qb = x
          · subst e1
            by_cases e2 : qc = z
            · subst e2
              have HJ := put (joinS_yes (ys := ys) (q := (qa, qb, qc)) (r := (qb, y, qc)) ⟨rfl, rfl⟩)
              go_wp2
              generalize hW : wr.alloc (Obj.cells #[.int .i64 qb, .int .i64 y, .int .i64 qc] 50) = W0 at own0 bel0 k0 hgl d0 d1 d2 hfz ⊢
              have x0 := k0.cell 0; have x1 := k0.cell 1; have x2 := k0.cell 2; simp at x0 x1 x2; clear hW k0 hb0
              go_quiet (fail)
              have hs := put (Rws.setAt own0 hn0.out (i := 1) (u := y) (qa, y, qc) rfl)
              rw [hL] at hs
              have HB2 := put ((below_drewN bel0 nq).setCell (p := ⟨g, L * 3 + 1, none⟩) hB (.int .i64 y))
              have hf1 := hfz (L * 3 + 1)
              go_wp2
              go_roundw
              case rel => exact ⟨k + 1, by omega, by go_num, by rw [HM.out, HJ.out]; exact hs.out, HB2.out⟩
              case measure => simp [intOf]; omega
            · have HJ := put (joinS_no (ys := ys) (q := (qa, qb, qc)) (r := (qb, y, z)) (fun h => e2 h.2))
              have q2 : (qc == z) = false := beq_of e2
              clear e2
              go_wp2
              generalize hW : wr.alloc (Obj.cells #[.int .i64 qb, .int .i64 y, .int .i64 z] 50) = W0 at own0 bel0 k0 hgl d0 d1 d2 hfz ⊢
              have x0 := k0.cell 0; have x1 := k0.cell 1; have x2 := k0.cell 2; simp at x0 x1 x2; clear hW k0 hb0
              go_quiet (fail)
              have kN : Keep ((W0.drewN nq).alloc (.cells #[.int .i64 qb, .int .i64 y, .int .i64 z] 50)) W0.heap.size #[.int .i64 qb, .int .i64 y, .int .i64 z] 50 := Keep.new (W0.drewN nq) _ _
              have ownN : Rws ((W0.drewN nq).alloc (.cells #[.int .i64 qb, .int .i64 y, .int .i64 z] 50)) w.heap.size (.slice (some ⟨g, 0, none⟩) n0 c') (ys ++ [(qa, qb, qc)]) := (own0.drewN nq).below ((Below.refl _ _).alloc (Nat.le_refl _) _)
              have belN : Below w.heap.size w ((W0.drewN nq).alloc (.cells #[.int .i64 qb, .int .i64 y, .int .i64 z] 50)) := (below_drewN bel0 nq).alloc (below_drewN bel0 nq).size _
              have hl5 : (ys ++ [(qa, qb, qc)]).length ≤ 1000000 := by omega
              clear own0 bel0
              go_wp2_with (at_builtin; refine wpList_append_row rfl _ _ rfl w.heap.size _ (ys ++ [(qa, qb, qc)]) rfl belN.size ownN W0.heap.size qb y z rfl (kN.cell 0) (kN.cell 1) (kN.cell 2) hl5 ?_)
              intro v' w3 hown' hgr
              have HBEL := put (ownN.grown_below belN belN.size hgr)
              clear ownN belN hgr
              go_wp2
              go_roundw
              case rel => exact ⟨k + 1, by omega, by go_num, by rw [HM.out, HJ.out]; first | exact hown' | (rw [List.append_assoc]; exact hown'), HBEL.out⟩
              case measure => simp [intOf]; omega
          · have HJ := put (joinS_no (ys := ys) (q := (qa, qb, qc)) (r := (x, y, z)) (fun h => e1 h.1))
            have q1 : (qb == x) = false := beq_of e1
            clear e1
            go_wp2
            generalize hW : wr.alloc (Obj.cells #[.int .i64 x, .int .i64 y, .int .i64 z] 50) = W0 at own0 bel0 k0 hgl d0 d1 d2 hfz ⊢
            have x0 := k0.cell 0; have x1 := k0.cell 1; have x2 := k0.cell 2; simp at x0 x1 x2; clear hW k0 hb0
            go_quiet (fail)
            have kN : Keep ((W0.drewN nq).alloc (.cells #[.int .i64 x, .int .i64 y, .int .i64 z] 50)) W0.heap.size #[.int .i64 x, .int .i64 y, .int .i64 z] 50 := Keep.new (W0.drewN nq) _ _
            have ownN : Rws ((W0.drewN nq).alloc (.cells #[.int .i64 x, .int .i64 y, .int .i64 z] 50)) w.heap.size (.slice (some ⟨g, 0, none⟩) n0 c') (ys ++ [(qa, qb, qc)]) := (own0.drewN nq).below ((Below.refl _ _).alloc (Nat.le_refl _) _)
            have belN : Below w.heap.size w ((W0.drewN nq).alloc (.cells #[.int .i64 x, .int .i64 y, .int .i64 z] 50)) := (below_drewN bel0 nq).alloc (below_drewN bel0 nq).size _
            have hl5 : (ys ++ [(qa, qb, qc)]).length ≤ 1000000 := by omega
            clear own0 bel0
            go_wp2_with (at_builtin; refine wpList_append_row rfl _ _ rfl w.heap.size _ (ys ++ [(qa, qb, qc)]) rfl belN.size ownN W0.heap.size x y z rfl (kN.cell 0) (kN.cell 1) (kN.cell 2) hl5 ?_)
            intro v' w3 hown' hgr
            have HBEL := put (ownN.grown_below belN belN.size hgr)
            clear ownN belN hgr
            go_wp2
            go_roundw
            case rel => exact ⟨k + 1, by omega, by go_num, by rw [HM.out, HJ.out]; first | exact hown' | (rw [List.append_assoc]; exact hown'), HBEL.out⟩
            case measure => simp [intOf]; omega
      · have hfin := put (show rs.take k = rs from List.take_of_length_le (by have := HLN.out; omega))
        have hfo := hst.own
        rw [hfin.out] at hfo
        go_wp2
        go_ret2
        exact ⟨_, by rw [HA.out]; rfl, by rw [HA.out]; exact hfo, hst.bel⟩

end Go.Proofs.Ytkfdehmmhgcapaa

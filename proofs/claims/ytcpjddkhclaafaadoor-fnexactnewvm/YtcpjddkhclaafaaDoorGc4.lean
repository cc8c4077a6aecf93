/-
  The program's checks of a code ahead of its heights: sites, ways.
-/
import Derived.Test.YtcpjddkhclaafaaDoorGc3
namespace Go.Proofs.YtcpjddkhclaafaaDoor
open Go.RowKit Exs

theorem all_within {l : List Int} {m : Int} (hp : ∀ y ∈ l, 0 ≤ y) : (∀ y ∈ l, y < m) → (l.all fun x => within x 0 (m - 1)) = true := fun h => by
  rw [List.all_eq_true]
  intro y hy
  exact within_yes ⟨hp y hy, by have := h y hy; omega⟩
theorem not_within {l : List Int} {m y : Int} (hy : y ∈ l) (h : m ≤ y) : (l.all fun x => within x 0 (m - 1)) = false := no_of fun h' => by
  have := (within_iff _ _ _).1 (List.all_eq_true.1 h' y hy)
  omega

set_option maxHeartbeats 2000000 in
set_option maxRecDepth 100000 in
theorem sitesAreThere_any (A : Option Addr) (n c : Nat) (cs : List Cd) (s : Cd) (A1 : Option Addr) (n1 c1 : Nat) (A2 : Option Addr) (n2 c2 : Nat) (A3 : Option Addr) (n3 c3 : Nat) (w : World) (hr : ReadsC w w.heap.size A n cs) (hs : IsCd w w.heap.size s A1 n1 A2 n2 A3 n3) (_ : n ≤ 5) (hi : cdB s = true) :
    Calls Tryd.prog 61 #[.agg #[.slice A n c], cdV s A1 n1 c1 A2 n2 c2 A3 n3 c3] w fun e w' => e = .returned (.bool (sitesB cs s)) ∧ Below w.heap.size w w' := by
  have hb := ((Below.refl w.heap.size w).alloc (Nat.le_refl _) (Obj.cells #[.slice A n c] 35)).alloc (by simp) (Obj.cells #[.int .i64 s.params, .int .i64 s.vars, .slice A1 n1 c1, .slice A2 n2 c2, .slice A3 n3 c3] 67)
  have k1 := (Keep.new w #[.slice A n c] 35).alloc (Obj.cells #[.int .i64 s.params, .int .i64 s.vars, .slice A1 n1 c1, .slice A2 n2 c2, .slice A3 n3 c3] 67)
  have k2 := Keep.new (w.alloc (Obj.cells #[.slice A n c] 35)) #[.int .i64 s.params, .int .i64 s.vars, .slice A1 n1 c1, .slice A2 n2 c2, .slice A3 n3 c3] 67
  rw [World.size_alloc] at k2
  have hsz := cdB_iff s |>.1 hi
  rw [hs.sites.1, hs.ins.1, hs.rows.1] at hsz
  have HSZ := put hsz
  have l1 : n1 ≤ 4 := by omega
  have l2 : n2 ≤ 300 := by omega
  have l3 : n3 ≤ 300 := by omega
  clear hsz hi
  unfold cdV
  have E := put hr.1
  have hst := hs.sites
  clear hs
  go_enter Tryd.func61, Tryd.ntmps61
  go_wp2
  generalize hW : (w.alloc (Obj.cells #[.slice A n c] 35)).alloc (Obj.cells #[.int .i64 s.params, .int .i64 s.vars, .slice A1 n1 c1, .slice A2 n2 c2, .slice A3 n3 c3] 67) = W0 at hb k1 k2 ⊢
  clear hW
  have y0 := k1.cell 0
  simp at y0
  go_loopw [10] (fun i wr => ∃ k : Nat, k ≤ n1 ∧ i = .int .i64 k ∧ Hid (∀ t ∈ s.sites.take k, stB cs t = true) ∧ wr = W0) (fun i _ => n1 - (intOf i).toNat)
  case atStart => exact ⟨0, Nat.zero_le _, rfl, put (fun t h => by simp at h), rfl⟩
  case round =>
    obtain ⟨k, hk, rfl, hall, rfl⟩ := hrel
    by_cases hlt : k < n1
    · obtain ⟨b, off, x, rfl, hb', hc1, hxt⟩ := (hst.below hb).at_ hlt
      have HNO := put (fun (h0 : stB cs x = false) => (show sitesB cs s = false from no_of fun h => by have h1 := (sitesB_iff cs s).1 h _ (mem_of_at hxt.out); rw [h0] at h1; cases h1))
      by_cases p0 : x < 0
      · have HN := put (HNO.out (stB_neg (by omega)))
        clear HNO
        go_wp2
        go_ret
        exact ⟨ret_bool HN.out.symm, hb⟩
      by_cases p1 : (n : Int) ≤ x
      · have HN := put (HNO.out (stB_neg (by rw [E.out]; omega)))
        replace p0 : 0 ≤ x := by omega
        clear HNO
        go_wp2
        go_ret
        exact ⟨ret_bool HN.out.symm, hb⟩
      obtain ⟨j, rfl⟩ : ∃ j : Nat, x = (j : Int) := ⟨x.toNat, by omega⟩
      have hjn : j < n := by omega
      obtain ⟨b2, off2, d, B1, m1, d1, B2, m2, d2, B3, m3, d3, rfl, hb2', g0, g1, g2, g3, g4, r1, r2, r3, hd⟩ := (hr.below hb).at_ hjn
      have hv := stB_at hd.out
      clear g1 g2 g3 g4 r1 r2 r3 p0 p1
      by_cases hp : d.params = 0
      · rw [hp] at hv g0
        have hall2 := put (all_more (p := stB cs) hall.out hxt.out (by rw [hv]; rfl))
        clear hv HNO
        go_wp2
        go_roundw
        case rel => exact ⟨k + 1, by omega, by go_num, hall2, trivial⟩
        case measure => simp [intOf]; omega
      · have hp' := beq_of hp
        have hp2 : (d.params != 0) = true := by simp [hp]
        have HN := put (HNO.out (by rw [hv, hp']))
        clear hv HNO
        go_wp2
        go_ret
        exact ⟨ret_bool HN.out.symm, hb⟩
    · have hfin := put (show s.sites.take k = s.sites from List.take_of_length_le (by rw [hst.1]; omega))
      have HYES := put ((sitesB_iff cs s).2 (by have := hall.out; rwa [hfin.out] at this))
      go_wp2
      go_ret
      exact ⟨ret_bool HYES.out.symm, hb⟩

set_option maxHeartbeats 2000000 in
set_option maxRecDepth 100000 in
theorem goesOnWithin_any (s : Cd) (A1 : Option Addr) (n1 c1 : Nat) (A2 : Option Addr) (n2 c2 : Nat) (A3 : Option Addr) (n3 c3 : Nat) (w : World) (hs : IsCd w w.heap.size s A1 n1 A2 n2 A3 n3) (hi : cdB s = true) :
    Calls Tryd.prog 62 #[cdV s A1 n1 c1 A2 n2 c2 A3 n3 c3] w fun e w' => e = .returned (.bool (goesB s)) ∧ Below w.heap.size w w' := by
  have hb := (Below.refl w.heap.size w).alloc (Nat.le_refl _) (Obj.cells #[.int .i64 s.params, .int .i64 s.vars, .slice A1 n1 c1, .slice A2 n2 c2, .slice A3 n3 c3] 67)
  have k2 := Keep.new w #[.int .i64 s.params, .int .i64 s.vars, .slice A1 n1 c1, .slice A2 n2 c2, .slice A3 n3 c3] 67
  have hsz := cdB_iff s |>.1 hi
  rw [hs.sites.1, hs.ins.1, hs.rows.1] at hsz
  have HSZ := put hsz
  have l2 : n2 ≤ 300 := by omega
  have E := put hs.ins.1
  have hins := hs.ins
  clear hsz hi hs
  unfold cdV
  go_enter Tryd.func62, Tryd.ntmps62
  go_wp2
  generalize hW : w.alloc (Obj.cells #[.int .i64 s.params, .int .i64 s.vars, .slice A1 n1 c1, .slice A2 n2 c2, .slice A3 n3 c3] 67) = W0 at hb k2 ⊢
  clear hW
  have hbw := hb
  clear hb
  go_loopw [10] (fun i wr => ∃ k : Nat, k ≤ n2 ∧ i = .int .i64 k ∧ Hid (∀ a t, a < k → s.ins[a]? = some t → goB n2 a t = true) ∧ Below W0.heap.size W0 wr) (fun i _ => n2 - (intOf i).toNat)
  case atStart => exact ⟨0, Nat.zero_le _, rfl, put (fun a t h => by omega), Below.refl _ _⟩
  case round =>
    obtain ⟨k, hk, rfl, hall, hbel⟩ := hrel
    by_cases hlt : k < n2
    · obtain ⟨b, off, op, x, rfl, hb', hc1, hc2, hxt⟩ := (hins.below (hbw.trans (hbel.mono hbw.size))).at_ hlt
      have hb3 := hbel.alloc hbel.size (.cells #[.int .i64 op, .int .i64 x] 83)
      have HL := put (nxL_length op x (k : Int))
      have HP := put (nxL_pos (a := (k : Int)) (HSZ.out.2 _ (mem_of_at hxt.out)) (by omega))
      have HNO := put (fun (h0 : goB n2 k (op, x) = false) => (show goesB s = false from no_of fun h => by have h1 := (goesB_iff s).1 h k _ hxt.out; rw [E.out, h0] at h1; cases h1))
      have HYE := put (fun (h0 : goB n2 k (op, x) = true) => (show ∀ a t, a < k + 1 → s.ins[a]? = some t → goB n2 a t = true from fun a t ha ht => by
          by_cases h : a < k
          · exact hall.out a t h ht
          · obtain rfl : a = k := by omega
            rw [hxt.out] at ht; injection ht with ht; subst ht; exact h0))
      go_wp2_with fail
      generalize hW : wr.alloc (.cells #[.int .i64 op, .int .i64 x] 83) = W1 at hb3 ⊢
      clear hW hc1 hc2
      refine (goesOn_any op x (k : Int) W1 (by omega) (by omega)).mono ?_
      rintro e w1 ⟨v1, rfl, nu, hb4⟩
      have hb5 : Below W0.heap.size W0 w1 := hb3.trans (hb4.mono hb3.size)
      have HGO := put (show ∀ m : Int, m = n2 → (goB n2 k (op, x) = (List.all (nxL op x k) fun y => within y 0 (m - 1))) from fun m hm => by subst hm; rfl)
      obtain ⟨A', c', rfl, hrd⟩ := nu.reads
      generalize nxL op x (k : Int) = l at HL HP HGO hrd ⊢
      obtain ⟨ln, hln⟩ : ∃ ln, l.length = ln := ⟨_, rfl⟩
      rw [hln] at HL hrd ⊢
      have z3 := (k2.below hb5).cell 3
      simp at z3
      have hl2 := HL.out
      clear nu hb4 hb3
      go_wp2
      go_loopw [19] (fun i wr => ∃ j : Nat, j ≤ ln ∧ i = .int .i64 j ∧ Hid (∀ y ∈ l.take j, y < (n2 : Int)) ∧ wr = w1) (fun i _ => ln - (intOf i).toNat)
      case atStart => exact ⟨0, Nat.zero_le _, rfl, put (fun t h => by simp at h), rfl⟩
      case round =>
        obtain ⟨j, hj, rfl, hin, rfl⟩ := hrel
        by_cases hlt2 : j < ln
        · obtain ⟨b2, off2, y, rfl, hb2', hd1, hyt⟩ := hrd.at_ hlt2
          by_cases hy : y < (n2 : Int)
          · have hin2 := put (show ∀ q ∈ l.take (j + 1), q < (n2 : Int) from fun q hq => by
              rw [takeA_more hyt.out] at hq
              rcases List.mem_append.1 hq with hq | hq
              · exact hin.out q hq
              · simp at hq; subst hq; exact hy)
            go_wp2
            go_roundw
            case rel => exact ⟨j + 1, by omega, by go_num, hin2, trivial⟩
            case measure => simp [intOf]; omega
          · have hy' : (n2 : Int) ≤ y := by omega
            have HN := put (HNO.out (by rw [HGO.out _ rfl]; exact not_within (mem_of_at hyt.out) hy'))
            clear hy
            go_wp2
            go_ret
            exact ⟨ret_bool HN.out.symm, hbw.trans (hb5.mono hbw.size)⟩
        · have hfin := put (show l.take j = l from List.take_of_length_le (by omega))
          have HY := put (HYE.out (by rw [HGO.out _ rfl]; exact all_within HP.out (by have := hin.out; rwa [hfin.out] at this)))
          go_wp2
          go_roundw
          case rel => exact ⟨k + 1, by omega, by go_num, HY, hb5⟩
          case measure => simp [intOf]; omega
    · have HYES := put ((goesB_iff s).2 fun a t ht => by rw [E.out]; exact hall.out a t (by have := (List.getElem?_eq_some_iff.1 ht).1; have := E.out; omega) ht)
      go_wp2
      go_ret
      exact ⟨ret_bool HYES.out.symm, hbw.trans (hbel.mono hbw.size)⟩

end Go.Proofs.YtcpjddkhclaafaaDoor

/-
  The ways into a code: contract.
-/
import Derived.Test.YtcpjddkhclaafaaDoorWys
import Derived.Test.YtcpjddkhclaafaaDoorRep
namespace Go.Proofs.YtcpjddkhclaafaaDoor
open Go.RowKit Exs Ht

def padT (rs : List Row3) : List Token := rs.map fun r => (r.2.2, 0)
theorem padT_more {rs : List Row3} {k : Nat} {x y z : Int} (h : rs[k]? = some (x, y, z)) : padT (rs.take (k + 1)) = padT (rs.take k) ++ [(z, 0)] := by rw [takeA_more h]; simp [padT]
theorem padT_length (rs : List Row3) : (padT rs).length = rs.length := by simp [padT]

set_option maxHeartbeats 1000000 in
set_option maxRecDepth 100000 in
theorem waysInto_any (s : Cd) (A1 : Option Addr) (n1 c1 : Nat) (A2 : Option Addr) (n2 c2 : Nat) (A3 : Option Addr) (n3 c3 : Nat) (w : World) (hs0 : IsCd w w.heap.size s A1 n1 A2 n2 A3 n3) (hi : cdB s = true) :
    Calls Tryd.prog 81 #[cdV s A1 n1 c1 A2 n2 c2 A3 n3 c3] w fun e w' => ∃ v, e = .returned v ∧ Ways w' w.heap.size v ((0, 0) :: padT s.rows) ∧ Below w.heap.size w w' := by
  have hs := hs0
  have hrows := hs.rows
  have hb := (Below.refl w.heap.size w).alloc (Nat.le_refl _) (Obj.cells #[.int .i64 s.params, .int .i64 s.vars, .slice A1 n1 c1, .slice A2 n2 c2, .slice A3 n3 c3] 67)
  have k2 := Keep.new w #[.int .i64 s.params, .int .i64 s.vars, .slice A1 n1 c1, .slice A2 n2 c2, .slice A3 n3 c3] 67
  have hsz := cdB_iff s |>.1 hi
  rw [hs.sites.1, hs.ins.1, hs.rows.1] at hsz
  have HSZ := put hsz
  have l2 : n2 ≤ 300 := by omega
  have E := put hs.ins.1
  have hins := hs.ins
  clear hsz hi hs
  unfold cdV
  have l3 : n3 ≤ 300 := by have := HSZ.out; omega
  have hb1 := hb.alloc hb.size (.cells #[.int .i64 0, .int .i64 0] 113)
  have hw0 := (Ways.one (w := w.alloc (Obj.cells #[.int .i64 s.params, .int .i64 s.vars, .slice A1 n1 c1, .slice A2 n2 c2, .slice A3 n3 c3] 67)) 0 0).more hb.size
  rw [World.size_alloc] at hw0
  clear HSZ E hins k2 hs0
  go_enter Tryd.func81, Tryd.ntmps81
  go_wp2
  generalize hW : (w.alloc (Obj.cells #[.int .i64 s.params, .int .i64 s.vars, .slice A1 n1 c1, .slice A2 n2 c2, .slice A3 n3 c3] 67)).alloc (.cells #[.int .i64 0, .int .i64 0] 113) = W0 at hb1 hw0 ⊢
  clear hW hb
  go_loopw [3, 11] (fun v i wr => ∃ k : Nat, k ≤ n3 ∧ i = .int .i64 k ∧ Ways wr w.heap.size v ((0, 0) :: padT (s.rows.take k)) ∧ Below w.heap.size w wr) (fun _ i _ => n3 - (intOf i).toNat)
  case atStart => exact ⟨0, Nat.zero_le _, rfl, by simpa [padT] using hw0, hb1⟩
  case round =>
    clear hw0 hb1
    obtain ⟨k, hk, rfl, hown, hbel⟩ := hrel
    by_cases hlt : k < n3
    · obtain ⟨b, off, x, y, z, rfl, hb', g1, g2, g3, hx⟩ := (hrows.below hbel).at_ hlt
      have hB := (Below.refl wr.heap.size wr).alloc (Nat.le_refl _) (.cells #[.int .i64 x, .int .i64 y, .int .i64 z] 92)
      have HM := put (padT_more hx.out)
      have HL := put (show ((0, 0) :: padT (s.rows.take k)).length ≤ 1000000 by rw [List.length_cons, padT_length, List.length_take]; omega)
      have hs1 := hbel.size
      have h2 := (hown.alloc (.cells #[.int .i64 x, .int .i64 y, .int .i64 z] 92)).alloc (.cells #[.int .i64 z, .int .i64 0] 113)
      have hbel2 := (hbel.alloc hbel.size (.cells #[.int .i64 x, .int .i64 y, .int .i64 z] 92)).alloc (by simp; omega) (.cells #[.int .i64 z, .int .i64 0] 113)
      have OWN := put (fun (b : Nat) e => hown.own_lt (b := b) e)
      generalize padT (s.rows.take k) = l at hown HM HL h2
      clear hB
      go_wp2_with (at_builtin; refine wpList_appendW rfl _ _ rfl w.heap.size _ ((0, 0) :: l) rfl (by simp; omega) h2 (wr.heap.size + 1) z 0 rfl (by simp) (by simp) HL.out ?_; intro v' w1 hn1 hg1 hst1)
      go_roundw
      case rel => exact ⟨k + 1, by omega, by go_num, by rw [HM.out]; exact hn1, hbel2.grown hg1 (by simp; omega) (fun b e => (OWN.out b e).1)⟩
      case measure => simp [intOf]; omega
    · have hfin := put (show s.rows.take k = s.rows from List.take_of_length_le (by rw [hrows.1]; omega))
      go_wp2
      go_ret
      exact ⟨_, rfl, by rw [hfin.out] at hown; exact hown, hbel⟩

end Go.Proofs.YtcpjddkhclaafaaDoor

/-
  The laws' copying of lists of frames.
-/
import Derived.Test.YtpbkkjiikhjanaaFrTo
namespace Go.Proofs.Ytpbkkjiikhjanaa
open Go.RowKit Exs


theorem infoFr : (Try.prog.info? 46).map (fun i => (i.zero, i.size, i.bytes)) = some (some (.agg #[.int .i64 0, .int .i64 0, .int .i64 0, .slice none 0 0, .slice none 0 0, .slice none 0 0, .int .i64 0, .int .i64 0, .int .i64 0, .int .i64 0, .bool false]), 11, 136) := by kernel_rfl
set_option maxHeartbeats 2000000 in
set_option maxRecDepth 100000 in
theorem toFrs_any (A : Option Addr) (n c : Nat) (ss : List Fr) (w : World) (hr : ReadsFr w w.heap.size A n ss) (hn : n ≤ 1048576) (hs : ∀ s ∈ ss, SmallFr s) :
    Calls Try.prog 18 #[.slice A n c] w fun e w' => ∃ B, e = .returned (.slice B n n) ∧ MFrs w' w.heap.size B n ss ∧ Below w.heap.size w w' := by
  have hmk := fun W => run_make_rows (P := Try.prog) 30 46 (.agg #[.int .i64 0, .int .i64 0, .int .i64 0, .slice none 0 0, .slice none 0 0, .slice none 0 0, .int .i64 0, .int .i64 0, .int .i64 0, .int .i64 0, .bool false]) 11 136 Try.underlying30 infoFr n (by omega) (by omega) W
  go_enter Try.func18, Try.ntmps18
  go_wp2
  go_loopw [4] (fun i wr => ∃ k : Nat, k ≤ n ∧ i = .int .i64 k ∧ RoomFr wr w.heap.size n (ss.take k) ∧ Below w.heap.size w wr) (fun i _ => n - (intOf i).toNat)
  case atStart => exact ⟨0, Nat.zero_le _, rfl, RoomFr.made w n _ _ rfl, (Below.refl _ _).alloc (Nat.le_refl _) _⟩
  case round =>
    obtain ⟨k, hk, rfl, hroom, hbel⟩ := hrel
    clear hmk
    by_cases hlt : k < n
    · obtain ⟨b, off, s, A1, n1, c1, A2, n2, c2, A3, n3, c3, rfl, hb, g0, g1, g2, g3, g4, g5, g6, g7, g8, g9, g10, rr, hx⟩ := (hr.below hbel).at_ hlt
      have RR := put (rr.more hbel.size)
      clear rr
      go_wp2_with fail
      refine (toFr_any s A1 n1 c1 A2 n2 c2 A3 n3 c3 _ RR.out (hs _ (mem_of_at hx.out))).mono ?_
      rintro e w1 ⟨B1, B2, B3, rfl, hm, hb1⟩
      have hroom1 := RoomFrp.same hroom (SameFrom.of_below hb1)
      have hbel1 : Below w.heap.size w w1 := hbel.trans (hb1.mono hbel.size)
      obtain ⟨d0, hd0⟩ := hroom1.at_ (k * 11) (by omega)
      have hf0 := hroom1.frozen (k * 11)
      obtain ⟨d1, hd1⟩ := hroom1.at_ (k * 11 + 1) (by omega)
      have hf1 := hroom1.frozen (k * 11 + 1)
      obtain ⟨d2, hd2⟩ := hroom1.at_ (k * 11 + 2) (by omega)
      have hf2 := hroom1.frozen (k * 11 + 2)
      obtain ⟨d3, hd3⟩ := hroom1.at_ (k * 11 + 3) (by omega)
      have hf3 := hroom1.frozen (k * 11 + 3)
      obtain ⟨d4, hd4⟩ := hroom1.at_ (k * 11 + 4) (by omega)
      have hf4 := hroom1.frozen (k * 11 + 4)
      obtain ⟨d5, hd5⟩ := hroom1.at_ (k * 11 + 5) (by omega)
      have hf5 := hroom1.frozen (k * 11 + 5)
      obtain ⟨d6, hd6⟩ := hroom1.at_ (k * 11 + 6) (by omega)
      have hf6 := hroom1.frozen (k * 11 + 6)
      obtain ⟨d7, hd7⟩ := hroom1.at_ (k * 11 + 7) (by omega)
      have hf7 := hroom1.frozen (k * 11 + 7)
      obtain ⟨d8, hd8⟩ := hroom1.at_ (k * 11 + 8) (by omega)
      have hf8 := hroom1.frozen (k * 11 + 8)
      obtain ⟨d9, hd9⟩ := hroom1.at_ (k * 11 + 9) (by omega)
      have hf9 := hroom1.frozen (k * 11 + 9)
      obtain ⟨d10, hd10⟩ := hroom1.at_ (k * 11 + 10) (by omega)
      have hf10 := hroom1.frozen (k * 11 + 10)
      have hlen : (ss.take k).length = k := by rw [List.length_take, hr.1]; omega
      have hm1 := hm.from (show w.heap.size + 1 ≤ wr.heap.size from hroom.lt)
      have hp0 := hroom1
      have hp1 := hp0.push1 (by rw [hlen]; exact hlt) 0 rfl (by omega) (.int .i64 s.ide)
      replace hm1 := hm1.same (SameFrom.setCell _ w.heap.size ((ss.take k).length * 11 + 0) (.int .i64 s.ide))
      have hp2 := hp1.push1 (by rw [hlen]; exact hlt) 1 rfl (by omega) (.int .i64 s.fn)
      replace hm1 := hm1.same (SameFrom.setCell _ w.heap.size ((ss.take k).length * 11 + 1) (.int .i64 s.fn))
      have hp3 := hp2.push1 (by rw [hlen]; exact hlt) 2 rfl (by omega) (.int .i64 s.pla)
      replace hm1 := hm1.same (SameFrom.setCell _ w.heap.size ((ss.take k).length * 11 + 2) (.int .i64 s.pla))
      have hp4 := hp3.push1 (by rw [hlen]; exact hlt) 3 rfl (by omega) (.slice B1 n1 n1)
      replace hm1 := hm1.same (SameFrom.setCell _ w.heap.size ((ss.take k).length * 11 + 3) (.slice B1 n1 n1))
      have hp5 := hp4.push1 (by rw [hlen]; exact hlt) 4 rfl (by omega) (.slice B2 n2 n2)
      replace hm1 := hm1.same (SameFrom.setCell _ w.heap.size ((ss.take k).length * 11 + 4) (.slice B2 n2 n2))
      have hp6 := hp5.push1 (by rw [hlen]; exact hlt) 5 rfl (by omega) (.slice B3 n3 n3)
      replace hm1 := hm1.same (SameFrom.setCell _ w.heap.size ((ss.take k).length * 11 + 5) (.slice B3 n3 n3))
      have hp7 := hp6.push1 (by rw [hlen]; exact hlt) 6 rfl (by omega) (.int .i64 s.result)
      replace hm1 := hm1.same (SameFrom.setCell _ w.heap.size ((ss.take k).length * 11 + 6) (.int .i64 s.result))
      have hp8 := hp7.push1 (by rw [hlen]; exact hlt) 7 rfl (by omega) (.int .i64 s.mode)
      replace hm1 := hm1.same (SameFrom.setCell _ w.heap.size ((ss.take k).length * 11 + 7) (.int .i64 s.mode))
      have hp9 := hp8.push1 (by rw [hlen]; exact hlt) 8 rfl (by omega) (.int .i64 s.value)
      replace hm1 := hm1.same (SameFrom.setCell _ w.heap.size ((ss.take k).length * 11 + 8) (.int .i64 s.value))
      have hp10 := hp9.push1 (by rw [hlen]; exact hlt) 9 rfl (by omega) (.int .i64 s.base)
      replace hm1 := hm1.same (SameFrom.setCell _ w.heap.size ((ss.take k).length * 11 + 9) (.int .i64 s.base))
      have hp11 := hp10.push1 (by rw [hlen]; exact hlt) 10 rfl (by omega) (.bool s.off)
      replace hm1 := hm1.same (SameFrom.setCell _ w.heap.size ((ss.take k).length * 11 + 10) (.bool s.off))
      have hpush := hp11.full s B1 n1 n1 B2 n2 n2 B3 n3 n3 rfl hm1
      rw [hlen, ← takeA_more hx.out] at hpush
      have HP := put hpush
      clear hpush hlen hm hm1 hb1 hroom hroom1 RR hp0 hp1 hp2 hp3 hp4 hp5 hp6 hp7 hp8 hp9 hp10 hp11 g0 g1 g2 g3 g4 g5 g6 g7 g8 g9 g10
      unfold frV
      go_wp2
      go_roundw
      case rel => exact ⟨k + 1, by omega, by go_num, HP.out, (((((((((((hbel1.setCell (by simp) _).setCell (by simp) _).setCell (by simp) _).setCell (by simp) _).setCell (by simp) _).setCell (by simp) _).setCell (by simp) _).setCell (by simp) _).setCell (by simp) _).setCell (by simp) _).setCell (by simp) _)⟩
      case measure => simp [intOf]; omega
    · have hfin := put (show ss.take k = ss from List.take_of_length_le (by rw [hr.1]; omega))
      go_wp2
      go_ret
      exact ⟨_, rfl, ⟨_, rfl, Nat.le_refl _, by rw [hfin.out] at hroom; exact hroom, hr.1⟩, hbel⟩

end Go.Proofs.Ytpbkkjiikhjanaa

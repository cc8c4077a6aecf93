/-
  appendStmt: a while.
-/
import Derived.Test.YtpmpjiigmjnniaaGreatJLowV
namespace Go.Proofs.YtpmpjiigmjnniaaGreat
open Go.RowKit Exs

set_option maxHeartbeats 1000000 in
set_option maxRecDepth 100000 in
theorem appWhl_any (B : Nat) (v : Value) (O : List Token) (ve : Value) (e0 : List Token) (At : Option Addr) (nt ct : Nat) (t : Lo) (w : World) (hv : Inss w B v O) (hB : B ≤ w.heap.size) (hl : O.length + (e0.length + 1 + t.long + 1) ≤ 100000)
    (HLW : Hid (∀ W, Below B w W → Calls Tryz.prog 131 #[.agg #[ve, .slice At nt ct]] W fun e w' => e = .returned (.int .i64 ((e0.length + 1 + t.long + 1 : Nat) : Int)) ∧ Below W.heap.size W w'))
    (HE : Hid (∀ W, Below B w W → Inss W 0 ve e0)) (HA : Hid (AppB B w At nt ct t)) :
    Calls Tryz.prog 70 #[v, .iface 134 (.agg #[ve, .slice At nt ct])] w fun e w' => ∃ v', e = .returned v' ∧ Inss w' B v' (O ++ (Lo.whl e0 t .nil).emit O.length) ∧ Below B w w' ∧ RestSame w w' := by
  obtain ⟨A, cap, rfl, _⟩ := hv.reads
  obtain ⟨Ae, ce, rfl, _⟩ := (HE.out w (Below.refl _ _)).reads
  have hm1 := method_whl
  have ha1 := whl_plain
  have ha2 := whl_if
  have ha3 := is_whl
  have HW := put (whl_emit O e0 t)
  obtain ⟨M, hM⟩ : ∃ M, e0.length + 1 + t.long + 1 = M := ⟨_, rfl⟩
  rw [hM] at HLW HW
  obtain ⟨E, hE⟩ : ∃ E, e0.length = E := ⟨_, rfl⟩
  have hw1 : IntKind.i64.wrap ((O.length : Int) + (M : Int)) = (O.length : Int) + (M : Int) := IntWalk.i64_in _ ⟨by omega, by omega⟩
  have HL1 := put (show O.length ≤ 1000000 by omega)
  have HL2 := put (show e0.length ≤ 1000000 by omega)
  have HL3 := put (show (O ++ e0).length ≤ 1000000 by rw [List.length_append]; omega)
  have HL4 := put (fun x : Token => show ((O ++ e0) ++ [x]).length + t.long ≤ 100000 by simp; omega)
  have HL5 := put (fun (x : Token) (a : Int) => show (((O ++ e0) ++ [x]) ++ t.emit a).length ≤ 1000000 by simp [Lo.emit_length]; omega)
  rw [hE] at HLW HE ⊢
  clear hM hl
  go_enter Tryz.func70, Tryz.ntmps70
  go_wp2_with fail
  refine (HLW.out _ (Below.refl _ _)).mono ?_
  rintro e w1 ⟨rfl, hb1⟩
  have b1 : Below B w w1 := hb1.mono hB
  have b2 := b1.alloc (Nat.le_trans hB b1.size) (.cells #[.slice Ae E ce, .slice At nt ct] 134)
  have own2 := (hv.below hb1).alloc (.cells #[.slice Ae E ce, .slice At nt ct] 134)
  have k2 := Keep.new w1 #[.slice Ae E ce, .slice At nt ct] 134
  have he2 := HE.out _ b2
  have hB2 := Nat.le_trans hB b2.size
  have y0 := k2.cell 0
  have y1 := k2.cell 1
  simp at y0 y1
  go_wp2_with (first
    | (at_builtin; refine wpList_append_inssG rfl _ _ rfl B _ _ rfl hB5 own5 w5.heap.size _ [(10, (O.length : Int))] rfl li5 (HL5.out _ _) (by simp) ?_; intro v6 w6 own6 bel6 gr6)
    | (go_at_call 49; refine (HA.out w4 v4 _ b4 own4 (HL4.out _)).mono ?_; rintro e w5 ⟨v5, rfl, own5x, bel5, rs5⟩; have b5 := b4.trans bel5; have own5 := own5x.alloc (.cells #[.int .i64 10, .int .i64 (O.length : Int)] 83); have li5 := Inss.lit1 w5 10 (O.length : Int); have hB5 : B ≤ (w5.alloc (.cells #[.int .i64 10, .int .i64 (O.length : Int)] 83)).heap.size := Nat.le_trans hB (b5.alloc (Nat.le_trans hB b5.size) (.cells #[.int .i64 10, .int .i64 (O.length : Int)] 83)).size)
    | (at_builtin; refine wpList_append_inssG rfl _ _ rfl B _ _ rfl hB3 own3 w3.heap.size _ [(11, (O.length : Int) + (M : Int))] rfl li3 HL3.out (by simp) ?_; intro v4 w4 own4 bel4 gr4; have b4 := b3a.trans bel4; have rs4 := RestSame.grown own3 gr4; have k4 := rs4.keep (k3.alloc _) (by decide); have z1 := k4.cell 1; simp at z1)
    | (at_builtin; refine wpList_append_inssG rfl _ _ rfl B _ _ rfl hB2 own2 0 _ e0 rfl he2 HL1.out HL2.out ?_; intro v3 w3 own3x bel3 gr3; have b3 := b2.trans bel3; have rs3 := RestSame.grown own2 gr3; have k3 := rs3.keep k2 (by decide); have own3 := own3x.alloc (.cells #[.int .i64 11, .int .i64 ((O.length : Int) + (M : Int))] 83); have li3 := Inss.lit1 w3 11 ((O.length : Int) + (M : Int)); have b3a := b3.alloc (Nat.le_trans hB b3.size) (.cells #[.int .i64 11, .int .i64 ((O.length : Int) + (M : Int))] 83); have hB3 := Nat.le_trans hB b3a.size))
  go_ret
  have b6 : Below B w w6 := (b5.alloc (Nat.le_trans hB b5.size) (.cells #[.int .i64 10, .int .i64 (O.length : Int)] 83)).trans bel6
  have rs6 := RestSame.grown own5 gr6
  have r1 := RestSame.of_below hb1
  have r2 := r1.trans (RestSame.of_below ((Below.refl _ w1).alloc (Nat.le_refl _) (.cells #[.slice Ae E ce, .slice At nt ct] 134)))
  have r3 := (r2.trans rs3).trans (RestSame.of_below ((Below.refl _ w3).alloc (Nat.le_refl _) (.cells #[.int .i64 11, .int .i64 ((O.length : Int) + (M : Int))] 83)))
  have r5 := ((r3.trans rs4).trans rs5).trans (RestSame.of_below ((Below.refl _ w5).alloc (Nat.le_refl _) (.cells #[.int .i64 10, .int .i64 (O.length : Int)] 83)))
  exact ⟨v6, rfl, by rw [← HW.out]; exact own6, b6, r5.trans rs6⟩

end Go.Proofs.YtpmpjiigmjnniaaGreat

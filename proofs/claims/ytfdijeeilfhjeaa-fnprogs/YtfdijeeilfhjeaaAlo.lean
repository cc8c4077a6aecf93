/-
  Whether a function is good by itself, on both sides: contracts.
-/
import Derived.Test.YtfdijeeilfhjeaaAlM
import Derived.Test.YtfdijeeilfhjeaaPar
namespace Go.Proofs.Ytfdijeeilfhjeaa
open Go.RowKit Exs

set_option maxHeartbeats 1000000 in
set_option maxRecDepth 100000 in
theorem goodAlone_any (f : Fc) (A1 : Option Addr) (n1 c1 : Nat) (A2 : Option Addr) (n2 c2 : Nat) (w : World) (hr : IsFc w w.heap.size f A1 n1 A2 n2) (hs : SmallF f) :
    Calls Try.prog 65 #[fcV f A1 n1 c1 A2 n2 c2] w fun e w' => e = .returned (.bool (aloneB f)) ∧ Below w.heap.size w w' := by
  have hb0 : Below w.heap.size w (w.alloc (.cells #[.int .i64 f.params, .int .i64 f.vars, .slice A1 n1 c1, .slice A2 n2 c2] 58)) := (Below.refl _ _).alloc (Nat.le_refl _) _
  have hk0 := Keep.new w #[.int .i64 f.params, .int .i64 f.vars, .slice A1 n1 c1, .slice A2 n2 c2] 58
  have H1 := put (goodShape_any f A1 n1 c1 A2 n2 c2 _ (hr.now hb0) hs)
  have H2 := put (fun W (hW : Below w.heap.size w W) => someParamsFit_any f A1 n1 c1 A2 n2 c2 hs W.heap.size 5 [] (.slice none 0 0) W rfl (hr.now hW) (Nat.le_refl _) (Nums.nil _ _ _ _))
  unfold fcV at H1 H2 ⊢
  go_enter Try.func65, Try.ntmps65
  go_wp2_with fail
  refine H1.out.mono ?_
  rintro e w1 ⟨rfl, hb1⟩
  have b1 : Below w.heap.size w w1 := hb0.trans (hb1.mono hb0.size)
  have k1 := hk0.below hb1
  have y0 := k1.cell 0
  have y1 := k1.cell 1
  have y2 := k1.cell 2
  have y3 := k1.cell 3
  simp at y0 y1 y2 y3
  clear hb0 hk0 hb1 H1
  cases hsh : shapeB f with
  | false =>
    have hf := put (show aloneB f = false by simp [aloneB, hsh])
    clear hsh H2
    go_wp2
    go_ret
    exact ⟨ret_bool hf.out.symm, b1⟩
  | true =>
    have hf := put (show aloneB f = fit f 5 [] by simp [aloneB, hsh])
    clear hsh
    go_wp2_with fail
    refine (H2.out _ b1).mono ?_
    rintro e w2 ⟨rfl, hf2⟩
    have b2 : Below w.heap.size w w2 := b1.trans (hf2.below.mono b1.size)
    clear H2 hf2
    go_wp2
    go_ret
    exact ⟨ret_bool hf.out.symm, b2⟩

set_option maxHeartbeats 1000000 in
set_option maxRecDepth 100000 in
theorem l3Alone_any (f : Fc) (A1 : Option Addr) (n1 c1 : Nat) (A2 : Option Addr) (n2 c2 : Nat) (w : World) (hr : IsFc w w.heap.size f A1 n1 A2 n2) (hs : SmallF f) :
    Calls Try.prog 62 #[fcV f A1 n1 c1 A2 n2 c2] w fun e w' => e = .returned (.bool (aloneB f)) ∧ Below w.heap.size w w' := by
  have hmk : ∀ W : World, (Instr.makeSlice 22 (.int .i64 5) (.int .i64 5)).run Try.prog W = .ok (.slice (some ⟨W.heap.size, 0, none⟩) 5 5) (W.alloc (.cells (madeCells #[.int .i64 0] 5) 3)) := fun W => run_make_row' (P := Try.prog) 22 3 (.int .i64 0) 8 Try.underlying22 Try.info3 rfl .i64 .i64 5 (by omega) (by omega) W
  have hb0 : Below w.heap.size w (w.alloc (.cells #[.int .i64 f.params, .int .i64 f.vars, .slice A1 n1 c1, .slice A2 n2 c2] 58)) := (Below.refl _ _).alloc (Nat.le_refl _) _
  have hk0 := Keep.new w #[.int .i64 f.params, .int .i64 f.vars, .slice A1 n1 c1, .slice A2 n2 c2] 58
  have hb1 := hb0.alloc hb0.size (.cells (madeCells #[.int .i64 0] 5) 3)
  have hk1 := hk0.alloc (.cells (madeCells #[.int .i64 0] 5) 3)
  have hr1 := Room.made (w.alloc (.cells #[.int .i64 f.params, .int .i64 f.vars, .slice A1 n1 c1, .slice A2 n2 c2] 58)) 3 5 .i64
  rw [World.size_alloc] at hr1
  have H := put (fun ps W (hW : Below w.heap.size w W) (hp : Room W (w.heap.size + 1) 3 5 .i64 ps) (hl : ps.length = 5) => l3Func_any f A1 n1 c1 A2 n2 c2 (some ⟨w.heap.size + 1, 0, none⟩) 5 5 ps W (hr.now hW) hs (hp.reads hl) (by omega))
  unfold fcV at H ⊢
  clear hb0 hk0
  go_enter Try.func62, Try.ntmps62
  go_wp2
  go_loopw [4] (fun i wr => ∃ k : Nat, k ≤ 243 ∧ i = .int .i64 k ∧ Hid (¬ aloneTo f k) ∧ Keep wr w.heap.size #[.int .i64 f.params, .int .i64 f.vars, .slice A1 n1 c1, .slice A2 n2 c2] 58 ∧ Room wr (w.heap.size + 1) 3 5 .i64 [] ∧ Below w.heap.size w wr) (fun i _ => 243 - (intOf i).toNat)
  case atStart => exact ⟨0, Nat.zero_le _, rfl, put (fun ⟨n, h, _⟩ => by omega), hk1, hr1, hb1⟩
  case round =>
    clear hk1 hr1 hb1
    obtain ⟨k, hk, rfl, hno, hkeep, hroom, hbel⟩ := hrel
    by_cases hlt : k < 243
    · go_wp2
      go_loopw [5, 15] (fun x i wz => ∃ j : Nat, j ≤ 5 ∧ i = .int .i64 j ∧ x = .int .i64 ((k / 3 ^ j : Nat) : Int) ∧ Keep wz w.heap.size #[.int .i64 f.params, .int .i64 f.vars, .slice A1 n1 c1, .slice A2 n2 c2] 58 ∧ Room wz (w.heap.size + 1) 3 5 .i64 (digTo k j) ∧ Below w.heap.size w wz) (fun _ i _ => 5 - (intOf i).toNat)
      case atStart => exact ⟨0, Nat.zero_le _, rfl, by simp, hkeep, hroom, hbel⟩
      case round =>
        clear hkeep hroom hbel
        obtain ⟨j, hj, rfl, rfl, hkeep, hroom, hbel⟩ := hrel
        by_cases hltj : j < 5
        · have hq : k / 3 ^ j ≤ 242 := Nat.le_trans (Nat.div_le_self _ _) (by omega)
          have hdiv := put (show k / 3 ^ j / 3 = k / 3 ^ (j + 1) by rw [Nat.div_div_eq_div_mul, Nat.pow_succ])
          have hdig := put (digTo_more k j)
          have hpush := hroom.push (by rw [digTo_length]; exact hltj) (((k / 3 ^ j % 3 : Nat)) : Int)
          rw [digTo_length, ← digTo_more] at hpush
          obtain ⟨c0, hc0⟩ := hroom.at_ j hltj
          have hfr := hroom.frozen j
          generalize k / 3 ^ j = q at hq hdiv hpush
          rw [show ((q % 3 : Nat) : Int) = (q : Int) % 3 by omega] at hpush
          have hm0 : 0 ≤ (q : Int) % 3 ∧ (q : Int) % 3 ≤ 2 := by omega
          have HP := put hpush
          have HK := put (hkeep.other (g' := w.heap.size + 1) (by omega) j (.int .i64 ((q : Int) % 3)))
          have HB := put (hbel.setCell (p := ⟨w.heap.size + 1, j, none⟩) (by simp) (.int .i64 ((q : Int) % 3)))
          clear hpush hroom hkeep hbel
          go_wp2
          go_roundw
          case rel => exact ⟨j + 1, by omega, by go_num, by rw [← hdiv.out]; congr 1, HK.out, HP.out, HB.out⟩
          case measure => simp [intOf]; omega
        · obtain rfl : j = 5 := by omega
          have y0 := hkeep.cell 0
          have y1 := hkeep.cell 1
          have y2 := hkeep.cell 2
          have y3 := hkeep.cell 3
          simp at y0 y1 y2 y3
          go_wp2_with fail
          refine (H.out (digTo k 5) wr hbel hroom (digTo_length _ _)).mono ?_
          rintro e w3 ⟨rfl, hb3⟩
          have b3 : Below w.heap.size w w3 := hbel.trans (hb3.mono hbel.size)
          have k3 := hkeep.below hb3
          have r3 := (hroom.below hb3 hroom.lt)
          cases hfn : funcS f (digTo k 5) with
          | true =>
            have hy := put ((alone_iff f).2 ⟨k, hlt, (funcS_iff f _).1 hfn⟩)
            clear hfn H y0 y1 y2 y3 hroom hkeep hb3 r3
            go_wp2
            go_ret
            exact ⟨ret_bool hy.out.symm, b3⟩
          | false =>
            have hy := put (show ¬ aloneTo f (k + 1) from fun ⟨n, hn, hp⟩ => by
              by_cases hnk : n < k
              · exact hno.out ⟨n, hnk, hp⟩
              · obtain rfl : n = k := by omega
                rw [(funcS_iff f _).2 hp] at hfn
                cases hfn)
            have R3 := put (show Room w3 (w.heap.size + 1) 3 5 .i64 [] from r3.none_)
            clear hfn y0 y1 y2 y3 hroom hkeep hb3 r3
            go_wp2
            go_roundw
            case rel => exact ⟨k + 1, by omega, by go_num, hy, k3, R3.out, b3⟩
            case measure => simp [intOf]; omega
    · obtain rfl : k = 243 := by omega
      have hf := put (alone_no hno.out)
      go_wp2
      go_ret
      exact ⟨ret_bool hf.out.symm, hbel⟩

end Go.Proofs.Ytfdijeeilfhjeaa

/-
  ReadRows: the reference's way.
-/
import Derived.Test.YtkfdehmmhgcapaaRwT
namespace Go.Proofs.Ytkfdehmmhgcapaa
open Go.RowKit Exs Leb

theorem Rws.away {w : World} {B g' i : Nat} {v u : Value} {rs : List Row3} (h : Rws w B v rs) (hne : v.ownBlock ≠ some g') : Rws (w.setCell ⟨g', i, none⟩ u) B v rs := by
  refine ⟨h.1, ?_⟩
  rcases h.2 with h0 | ⟨g1, cap, cur, hv, hB, hh, r⟩
  · exact .inl h0
  · exact .inr ⟨g1, cap, cur, hv, hB, (Below.heap_setCell w ⟨g', i, none⟩ u g1 (fun e => hne (by rw [hv]; exact congrArg some e))).trans hh, r⟩
theorem lastTo_rowsS_next {gs : List Gap} {g : Gap} {a : Int} : lastTo a (rowsS a (gs ++ [g])) = (rowS (lastTo a (rowsS a gs)) g).2.1 := by rw [rowsS_snoc, lastTo_snoc]
theorem readRAns_good {s : ByteArray} {m n p : Nat} {c : Int} {gs : List Gap} {e : Nat} (hs : s.size ≤ 2000) (h : readU s 0 = ⟨n, p, c, true⟩) (hn : n ≤ 300) (h1 : 1 ≤ m) (h2 : m ≤ 300) (hg : gapsAt s n p = some (gs, e)) (hok : ∀ g ∈ gs, GapOk g) :
    (goodB (m : Int) (rowsS 0 gs) = false → readRAns s m = ([], 3, false)) ∧ (goodB (m : Int) (rowsS 0 gs) = true → (e < s.size → readRAns s m = ([], 4, false)) ∧ (¬ e < s.size → readRAns s m = (rowsS 0 gs, 0, true))) := by
  have hx := readRAns_x hs h hn h1 h2 hg
  have hr := rows_same h2 (Int.le_refl 0) (show (0 : Int) ≤ m by omega) hok
  have hb : goodB (m : Int) (rowsS 0 gs) = rowsF m 0 (rowsS 0 gs) := goodB_in rfl (by omega)
  rw [hb]
  refine ⟨fun hf => ?_, fun ht => ⟨fun he => ?_, fun he => ?_⟩⟩
  · rw [hx, if_neg (by rw [← hr.1, hf]; simp)]
  · rw [hx, if_pos (by rw [← hr.1, ht]), if_pos he]
  · rw [hx, if_pos (by rw [← hr.1, ht]), if_neg he, hr.2 ht]

set_option maxHeartbeats 1000000 in
set_option maxRecDepth 100000 in
theorem specReadRows_bad (s : ByteArray) (many num place code : Int) (fine : Bool) (w : World) (HA : Hid (readRAns s many = ([], 1, false)))
    (HR : Hid (Calls Try.prog 53 #[.string s, .int .i64 0] w fun e w' => e = .returned (.tuple #[.int .u64 num, .int .i64 place, .int .i64 code, .bool fine]) ∧ Below w.heap.size w w'))
    (h : ¬ (1 ≤ many ∧ many ≤ 300) ∨ (1 ≤ many ∧ many ≤ 300) ∧ (fine = false ∨ fine = true ∧ 300 < num ∧ num ≤ 18446744073709551615)) :
    Calls Try.prog 29 #[.string s, .int .i64 many] w fun e w' => ∃ v, e = .returned (.tuple #[v, .int .i64 (readRAns s many).2.1, .bool (readRAns s many).2.2]) ∧ Rws w' w.heap.size v (readRAns s many).1 ∧ Below w.heap.size w w' := by
  rcases h with h | ⟨h, h2⟩
  · have q := within_no7 h
    clear h
    go_enter Try.func29, Try.ntmps29
    go_wp2_with fail
    refine HR.out.mono ?_
    rintro e w1 ⟨rfl, hb1⟩
    go_wp2_with fail
    refine (l1In_any many 1 300 _).mono ?_
    rintro e w2 ⟨rfl, rfl⟩
    rw [q]
    go_wp2
    go_ret3
    exact ⟨.slice none 0 0, by rw [HA.out]; rfl, by rw [HA.out]; exact Rws.nil _ _, hb1⟩
  · have q := within_yes7 h
    clear h
    rcases h2 with rfl | ⟨rfl, h1, h2⟩
    all_goals (
      go_enter Try.func29, Try.ntmps29
      go_wp2_with fail
      refine HR.out.mono ?_
      rintro e w1 ⟨rfl, hb1⟩
      go_wp2_with fail
      refine (l1In_any many 1 300 _).mono ?_
      rintro e w2 ⟨rfl, rfl⟩
      rw [q]
      go_wp2
      go_ret3
      exact ⟨.slice none 0 0, by rw [HA.out]; rfl, by rw [HA.out]; exact Rws.nil _ _, hb1⟩)

set_option maxHeartbeats 8000000 in
set_option maxRecDepth 100000 in
theorem specReadRows_many (s : ByteArray) (n p0 m : Nat) (w : World) (hs : s.size ≤ 2000) (hp0 : p0 ≤ s.size) (hn : n ≤ 300) (h1 : 1 ≤ m) (h2 : m ≤ 300) (code : Int) (HR : Hid (readU s 0 = ⟨n, p0, code, true⟩)) :
    Calls Try.prog 29 #[.string s, .int .i64 (m : Int)] w fun e w' => ∃ v, e = .returned (.tuple #[v, .int .i64 (readRAns s m).2.1, .bool (readRAns s m).2.2]) ∧ Rws w' w.heap.size v (readRAns s m).1 ∧ Below w.heap.size w w' := by
  have HA2 := put (fun h => readRAns_2 (m := m) hs HR.out hn h1 h2 h)
  have HAX := put (fun gs e hg hok => readRAns_good (m := m) (gs := gs) (e := e) hs HR.out hn h1 h2 hg hok)
  have q := within_yes7 (n := (m : Int)) (lo := 1) (hi := 300) ⟨by omega, by omega⟩
  go_enter Try.func29, Try.ntmps29
  go_wp2_with fail
  refine (specReadU_any s 0 _ hs (Nat.zero_le _)).mono ?_
  rintro e w1 ⟨rfl, hb1⟩
  rw [HR.out]
  unfold Read.told
  go_wp2_with fail
  refine (l1In_any (m : Int) 1 300 _).mono ?_
  rintro e w2 ⟨rfl, rfl⟩
  rw [q]
  go_wp2
  go_loopw [8, 11, 12, 13] (fun at_ v from_ i wr => ∃ (k p : Nat) (gs : List Gap), k ≤ n ∧ p ≤ s.size ∧ i = .int .u64 k ∧ at_ = .int .i64 (p : Int) ∧ from_ = .int .i64 (lastTo 0 (rowsS 0 gs)) ∧ Hid (gs.length = k ∧ ∀ g ∈ gs, GapOk g) ∧ Rws wr w.heap.size v (rowsS 0 gs) ∧ Hid (gapsAt s n p0 = (gapsAt s (n - k) p).map fun r => (gs ++ r.1, r.2)) ∧ Below w.heap.size w wr) (fun _ _ _ i _ => n - (intOf i).toNat)
  case atStart => exact ⟨0, p0, [], Nat.zero_le _, hp0, rfl, rfl, rfl, put ⟨rfl, fun _ h => by simp at h⟩, Rws.nil _ _, put (by simp), hb1⟩
  case round =>
    obtain ⟨k, p, gs, hk, hp, rfl, rfl, rfl, hgs, hown, hmore, hbel⟩ := hrel
    clear hb1
    by_cases hlt : k < n
    · have hbnd := lastS_bound hgs.out.2 (Int.le_refl 0) (by decide)
      have HL := put (fun g => lastTo_rowsS_next (gs := gs) (g := g) (a := 0))
      have HRS := put (fun g => rowsS_snoc g gs 0)
      have hrl : (rowsS 0 gs).length ≤ 1000000 := by rw [rowsS_length, hgs.out.1]; omega
      generalize lastTo 0 (rowsS 0 gs) = a at HL HRS hbnd ⊢
      obtain ⟨ha0, ha1⟩ := hbnd
      have HFAIL := put (fun hg => HA2.out (gaps_fail hlt hmore.out hg))
      rcases readU_two hp with ⟨x, c1, q1, r1, x0, x1, hq1⟩ | ⟨c1, r1⟩
      rotate_left
      · have HA := put (HFAIL.out (gap_no1 r1 rfl))
        have H1 := put r1
        clear r1 hmore HFAIL
        go_wp2_with fail
        refine (specReadU_any s p _ hs hp).mono ?_
        rintro e w2 ⟨rfl, hb2⟩
        rw [H1.out]
        unfold Read.told
        go_wp2
        go_ret3
        exact ⟨.slice none 0 0, by rw [HA.out]; rfl, by rw [HA.out]; exact Rws.nil _ _, hbel.trans (hb2.mono hbel.size)⟩
      rcases readU_two hq1 with ⟨y, c2, q2, r2, y0, y1, hq2⟩ | ⟨c2, r2⟩
      rotate_left
      · have HA := put (HFAIL.out (gap_no2 r1 r2 rfl))
        have H1 := put r1; have H2 := put r2
        clear r1 r2 hmore HFAIL
        go_wp2_with fail
        refine (specReadU_any s p _ hs hp).mono ?_
        rintro e w2 ⟨rfl, hb2⟩
        rw [H1.out]
        unfold Read.told
        go_wp2_with fail
        refine (specReadU_any s q1 _ hs hq1).mono ?_
        rintro e w3 ⟨rfl, hb3⟩
        rw [H2.out]
        unfold Read.told
        have b3 := (hbel.trans (hb2.mono hbel.size)).trans (hb3.mono (Nat.le_trans hbel.size hb2.size))
        go_wp2
        go_ret3
        exact ⟨.slice none 0 0, by rw [HA.out]; rfl, by rw [HA.out]; exact Rws.nil _ _, b3⟩
      rcases readS_two hq2 with ⟨z, c3, q3, r3, z0, z1, hq3⟩ | ⟨c3, r3⟩
      rotate_left
      · have HA := put (HFAIL.out (gap_no3 r1 r2 r3 rfl))
        have H1 := put r1; have H2 := put r2; have H3 := put r3
        clear r1 r2 r3 hmore HFAIL
        go_wp2_with fail
        refine (specReadU_any s p _ hs hp).mono ?_
        rintro e w2 ⟨rfl, hb2⟩
        rw [H1.out]
        unfold Read.told
        go_wp2_with fail
        refine (specReadU_any s q1 _ hs hq1).mono ?_
        rintro e w3 ⟨rfl, hb3⟩
        rw [H2.out]
        unfold Read.told
        go_wp2_with fail
        refine (specReadS_any s q2 _ hs hq2).mono ?_
        rintro e w4 ⟨rfl, hb4⟩
        rw [H3.out]
        unfold Read.told
        have b3 := (hbel.trans (hb2.mono hbel.size)).trans (hb3.mono (Nat.le_trans hbel.size hb2.size))
        have b4 := b3.trans (hb4.mono b3.size)
        go_wp2
        go_ret3
        exact ⟨.slice none 0 0, by rw [HA.out]; rfl, by rw [HA.out]; exact Rws.nil _ _, b4⟩
      have hg := gap_some r1 r2 r3
      have HN := put (gaps_next hlt hmore.out hg)
      have HGS := put (show (gs ++ [(x, y, z)]).length = k + 1 ∧ ∀ g' ∈ gs ++ [(x, y, z)], GapOk g' from ⟨by rw [List.length_append, hgs.out.1]; rfl, fun g' hg' => by
        rcases List.mem_append.1 hg' with hg' | hg'
        · exact hgs.out.2 g' hg'
        · simp at hg'; subst hg'; exact ⟨x0, y0⟩⟩)
      have H1 := put r1; have H2 := put r2; have H3 := put r3
      have hsx : 0 ≤ smallR x ∧ smallR x ≤ 2000000 := by unfold smallR; split <;> omega
      have hsy : 0 ≤ smallR y ∧ smallR y ≤ 2000000 := by unfold smallR; split <;> omega
      have hpz : -2000000 ≤ padR z ∧ padR z ≤ 1000000 := by unfold padR; split <;> omega
      have e1 : IntKind.i64.wrap (a + smallR x) = a + smallR x := IntWalk.i64_in _ ⟨by omega, by omega⟩
      have HROW := put (show rowS a (x, y, z) = (min 2000000 (a + smallR x), min 4000000 (min 2000000 (a + smallR x) + smallR y), min 4000000 (min 2000000 (a + smallR x) + smallR y) + padR z) from rfl)
      obtain ⟨f, hf⟩ : ∃ f, min 2000000 (a + smallR x) = f := ⟨_, rfl⟩
      have hf0 : 0 ≤ f ∧ f ≤ 2000000 := by omega
      have e2 : IntKind.i64.wrap (f + smallR y) = f + smallR y := IntWalk.i64_in _ ⟨by omega, by omega⟩
      obtain ⟨t, ht⟩ : ∃ t, min 4000000 (f + smallR y) = t := ⟨_, rfl⟩
      have ht0 : 0 ≤ t ∧ t ≤ 4000000 := by omega
      have e3 : IntKind.i64.wrap (t + padR z) = t + padR z := IntWalk.i64_in _ ⟨by omega, by omega⟩
      have HF := put hf
      have HT := put ht
      rw [hf, ht] at HROW
      clear r1 r2 r3 hmore HFAIL hg hf ht
      go_wp2_with fail
      refine (specReadU_any s p _ hs hp).mono ?_
      rintro e w2 ⟨rfl, hb2⟩
      rw [H1.out]
      unfold Read.told
      go_wp2_with fail
      refine (specReadU_any s q1 _ hs hq1).mono ?_
      rintro e w3 ⟨rfl, hb3⟩
      rw [H2.out]
      unfold Read.told
      go_wp2_with fail
      refine (specReadS_any s q2 _ hs hq2).mono ?_
      rintro e w4 ⟨rfl, hb4⟩
      rw [H3.out]
      unfold Read.told
      have own4 := ((hown.below hb2).below hb3).below hb4
      have b3 := (hbel.trans (hb2.mono hbel.size)).trans (hb3.mono (Nat.le_trans hbel.size hb2.size))
      have b4 := b3.trans (hb4.mono b3.size)
      clear hown hbel hb2 hb3 hb4 b3
      go_wp2_with fail
      refine (l1In_any z (-1000000) 1000000 _).mono ?_
      rintro e w5 ⟨rfl, rfl⟩
      by_cases hz : -1000000 ≤ z ∧ z ≤ 1000000
      · have qz := within_yes7 hz
        have hpad : padR z = z := by unfold padR; rw [if_pos hz]
        rw [qz]
        rw [hpad] at e3 HROW
        clear hz hpad hpz
        go_wp2_with fail
        refine (l7Small_any x _ x0 x1).mono ?_
        rintro e w5 ⟨rfl, rfl⟩
        go_wp2_with fail
        refine (l1Least_any 2000000 (a + smallR x) _).mono ?_
        rintro e w5 ⟨rfl, rfl⟩
        rw [HF.out]
        have k0 := Keep.new w4 #[.int .i64 f, .int .i64 0, .int .i64 0] 50
        have own5 := own4.below ((Below.refl _ _).alloc (Nat.le_refl _) (Obj.cells #[.int .i64 f, .int .i64 0, .int .i64 0] 50))
        have b5 := b4.alloc b4.size (Obj.cells #[.int .i64 f, .int .i64 0, .int .i64 0] 50)
        have haw : u11.ownBlock ≠ some w4.heap.size := fun e => by have := (World.ownsRow.lt own4 _ e).2; omega
        have hgb : w.heap.size ≤ w4.heap.size := b4.size
        go_wp2
        generalize w4.alloc (Obj.cells #[.int .i64 f, .int .i64 0, .int .i64 0] 50) = W0 at k0 own5 b5 ⊢
        generalize w4.heap.size = gb at k0 haw hgb ⊢
        have x0 := k0.cell 0; have x1 := k0.cell 1; have x2 := k0.cell 2; simp at x0 x1 x2; have xf := k0.frozen 1
        have k6 : Keep (W0.setCell ⟨gb, 1, none⟩ (.int .i64 t)).drew gb #[.int .i64 f, .int .i64 t, .int .i64 0] 50 := k0.set 1 _
        have own6 : Rws (W0.setCell ⟨gb, 1, none⟩ (.int .i64 t)).drew w.heap.size u11 (rowsS 0 gs) := own5.away haw
        have b6 : Below w.heap.size w (W0.setCell ⟨gb, 1, none⟩ (.int .i64 t)).drew := (b5.setCell (p := ⟨gb, 1, none⟩) hgb _).drew
        have K6 := put k6
        have OWN := put (own6.away (i := 2) (u := .int .i64 (t + z)) haw)
        have BEL := put (b6.setCell (p := ⟨gb, 2, none⟩) hgb (.int .i64 (t + z)))
        clear own4 b4 own5 b5 own6 b6 k6 k0
        go_region_law (first
          | (go_simp; go_at_call 56; refine (l7Small_any y _ y0 y1).mono ?_; rintro e w7 ⟨rfl, rfl⟩)
          | (go_simp; go_at_call 55; refine (l1Least_any 4000000 (f + smallR y) _).mono ?_; rintro e w8 ⟨rfl, rfl⟩; rw [HT.out]))
        all_goals (
          generalize (W0.setCell ⟨gb, 1, none⟩ (.int .i64 t)).drew = W3 at K6 OWN BEL ⊢
          have y0 := K6.out.cell 0; have y1 := K6.out.cell 1; have y2 := K6.out.cell 2; simp at y0 y1 y2; have yf := K6.out.frozen 2
          have K7 := K6.out.set 2 (.int .i64 (t + z))
          simp at K7
          have own7 := OWN.out
          have b7 := BEL.out
          clear x0 x1 x2 xf K6 OWN BEL
          go_wp2_with (first
            | (at_builtin; refine wpList_append_row rfl _ _ rfl w.heap.size u11 (rowsS 0 gs) rfl ((b7.alloc b7.size _).size) (own7.below ((Below.refl _ _).alloc (Nat.le_refl _) (Obj.cells #[.int .i64 f, .int .i64 t, .int .i64 (t + z)] 50))) W3.heap.size f t (t + z) rfl (by have := (Keep.new (W3.setCell ⟨gb, 2, none⟩ (.int .i64 (t + z))) #[.int .i64 f, .int .i64 t, .int .i64 (t + z)] 50).cell 0; simpa using this) (by have := (Keep.new (W3.setCell ⟨gb, 2, none⟩ (.int .i64 (t + z))) #[.int .i64 f, .int .i64 t, .int .i64 (t + z)] 50).cell 1; simpa using this) (by have := (Keep.new (W3.setCell ⟨gb, 2, none⟩ (.int .i64 (t + z))) #[.int .i64 f, .int .i64 t, .int .i64 (t + z)] 50).cell 2; simpa using this) hrl ?_))
          intro v' w9 hown' hgr
          have kb : Keep w9 gb #[.int .i64 f, .int .i64 t, .int .i64 (t + z)] 50 := (hgr.block gb (K7.alloc (Obj.cells #[.int .i64 f, .int .i64 t, .int .i64 (t + z)] 50)).lt (fun e => haw e.symm)).trans (K7.alloc (Obj.cells #[.int .i64 f, .int .i64 t, .int .i64 (t + z)] 50))
          have z1 := kb.cell 1; simp at z1
          have HBEL := put (Rws.grown_below (own7.below ((Below.refl _ _).alloc (Nat.le_refl _) (Obj.cells #[.int .i64 f, .int .i64 t, .int .i64 (t + z)] 50))) (b7.alloc b7.size _) (b7.alloc b7.size _).size hgr)
          have HOWN := put (show Rws w9 w.heap.size v' (rowsS 0 (gs ++ [(x, y, z)])) by rw [HRS.out, HROW.out]; exact hown')
          have HFR := put (show t = lastTo 0 (rowsS 0 (gs ++ [(x, y, z)])) by rw [HL.out, HROW.out])
          clear kb hgr hown' own7 b7 K7 y0 y1 y2 yf
          go_wp2
          go_roundw
          case rel => exact ⟨k + 1, q3, gs ++ [(x, y, z)], by omega, hq3, by go_num, rfl, by rw [← HFR.out], HGS, HOWN.out, HN, HBEL.out⟩
          case measure => simp [intOf]; omega)
      · have qz := within_no7 hz
        have hpad : padR z = -2000000 := by unfold padR; rw [if_neg hz]
        rw [qz]
        rw [hpad] at e3 HROW
        clear hz hpad hpz
        go_wp2_with fail
        refine (l7Small_any x _ x0 x1).mono ?_
        rintro e w5 ⟨rfl, rfl⟩
        go_wp2_with fail
        refine (l1Least_any 2000000 (a + smallR x) _).mono ?_
        rintro e w5 ⟨rfl, rfl⟩
        rw [HF.out]
        have k0 := Keep.new w4 #[.int .i64 f, .int .i64 0, .int .i64 0] 50
        have own5 := own4.below ((Below.refl _ _).alloc (Nat.le_refl _) (Obj.cells #[.int .i64 f, .int .i64 0, .int .i64 0] 50))
        have b5 := b4.alloc b4.size (Obj.cells #[.int .i64 f, .int .i64 0, .int .i64 0] 50)
        have haw : u11.ownBlock ≠ some w4.heap.size := fun e => by have := (World.ownsRow.lt own4 _ e).2; omega
        have hgb : w.heap.size ≤ w4.heap.size := b4.size
        go_wp2
        generalize w4.alloc (Obj.cells #[.int .i64 f, .int .i64 0, .int .i64 0] 50) = W0 at k0 own5 b5 ⊢
        generalize w4.heap.size = gb at k0 haw hgb ⊢
        have x0 := k0.cell 0; have x1 := k0.cell 1; have x2 := k0.cell 2; simp at x0 x1 x2; have xf := k0.frozen 1
        have k6 : Keep (W0.setCell ⟨gb, 1, none⟩ (.int .i64 t)).drew gb #[.int .i64 f, .int .i64 t, .int .i64 0] 50 := k0.set 1 _
        have own6 : Rws (W0.setCell ⟨gb, 1, none⟩ (.int .i64 t)).drew w.heap.size u11 (rowsS 0 gs) := own5.away haw
        have b6 : Below w.heap.size w (W0.setCell ⟨gb, 1, none⟩ (.int .i64 t)).drew := (b5.setCell (p := ⟨gb, 1, none⟩) hgb _).drew
        have K6 := put k6
        have OWN := put (own6.away (i := 2) (u := .int .i64 (t + (-2000000))) haw)
        have BEL := put (b6.setCell (p := ⟨gb, 2, none⟩) hgb (.int .i64 (t + (-2000000))))
        clear own4 b4 own5 b5 own6 b6 k6 k0
        go_region_law (first
          | (go_simp; go_at_call 56; refine (l7Small_any y _ y0 y1).mono ?_; rintro e w7 ⟨rfl, rfl⟩)
          | (go_simp; go_at_call 55; refine (l1Least_any 4000000 (f + smallR y) _).mono ?_; rintro e w8 ⟨rfl, rfl⟩; rw [HT.out]))
        all_goals (
          generalize (W0.setCell ⟨gb, 1, none⟩ (.int .i64 t)).drew = W3 at K6 OWN BEL ⊢
          have y0 := K6.out.cell 0; have y1 := K6.out.cell 1; have y2 := K6.out.cell 2; simp at y0 y1 y2; have yf := K6.out.frozen 2
          have K7 := K6.out.set 2 (.int .i64 (t + (-2000000)))
          simp at K7
          have own7 := OWN.out
          have b7 := BEL.out
          clear x0 x1 x2 xf K6 OWN BEL
          go_wp2_with (first
            | (at_builtin; refine wpList_append_row rfl _ _ rfl w.heap.size u11 (rowsS 0 gs) rfl ((b7.alloc b7.size _).size) (own7.below ((Below.refl _ _).alloc (Nat.le_refl _) (Obj.cells #[.int .i64 f, .int .i64 t, .int .i64 (t + (-2000000))] 50))) W3.heap.size f t (t + (-2000000)) rfl (by have := (Keep.new (W3.setCell ⟨gb, 2, none⟩ (.int .i64 (t + (-2000000)))) #[.int .i64 f, .int .i64 t, .int .i64 (t + (-2000000))] 50).cell 0; simpa using this) (by have := (Keep.new (W3.setCell ⟨gb, 2, none⟩ (.int .i64 (t + (-2000000)))) #[.int .i64 f, .int .i64 t, .int .i64 (t + (-2000000))] 50).cell 1; simpa using this) (by have := (Keep.new (W3.setCell ⟨gb, 2, none⟩ (.int .i64 (t + (-2000000)))) #[.int .i64 f, .int .i64 t, .int .i64 (t + (-2000000))] 50).cell 2; simpa using this) hrl ?_))
          intro v' w9 hown' hgr
          have kb : Keep w9 gb #[.int .i64 f, .int .i64 t, .int .i64 (t + (-2000000))] 50 := (hgr.block gb (K7.alloc (Obj.cells #[.int .i64 f, .int .i64 t, .int .i64 (t + (-2000000))] 50)).lt (fun e => haw e.symm)).trans (K7.alloc (Obj.cells #[.int .i64 f, .int .i64 t, .int .i64 (t + (-2000000))] 50))
          have z1 := kb.cell 1; simp at z1
          have HBEL := put (Rws.grown_below (own7.below ((Below.refl _ _).alloc (Nat.le_refl _) (Obj.cells #[.int .i64 f, .int .i64 t, .int .i64 (t + (-2000000))] 50))) (b7.alloc b7.size _) (b7.alloc b7.size _).size hgr)
          have HOWN := put (show Rws w9 w.heap.size v' (rowsS 0 (gs ++ [(x, y, z)])) by rw [HRS.out, HROW.out]; exact hown')
          have HFR := put (show t = lastTo 0 (rowsS 0 (gs ++ [(x, y, z)])) by rw [HL.out, HROW.out])
          clear kb hgr hown' own7 b7 K7 y0 y1 y2 yf
          go_wp2
          go_roundw
          case rel => exact ⟨k + 1, q3, gs ++ [(x, y, z)], by omega, hq3, by go_num, rfl, by rw [← HFR.out], HGS, HOWN.out, HN, HBEL.out⟩
          case measure => simp [intOf]; omega)
    · obtain rfl : k = n := by omega
      have hd := gaps_done (by omega) hmore.out
      have HAX2 := put (HAX.out gs p hd hgs.out.2)
      have hl : (rowsS 0 gs).length = k := by rw [rowsS_length, hgs.out.1]
      have HLL := put hl
      obtain ⟨A', c', e', hrd⟩ := hown.reads
      rw [hl] at e' hrd
      have hown2 := hown
      rw [e'] at hown2
      subst e'
      clear hmore hd hown hl
      go_wp2_with fail
      refine (l7Good_any A' k c' (rowsS 0 gs) (m : Int) _ hrd (by omega)).mono ?_
      rintro e w2 ⟨rfl, hb2⟩
      have hrw2 := hown2.below hb2
      have hbel2 := hbel.trans (hb2.mono hbel.size)
      cases hgd : goodB (m : Int) (rowsS 0 gs) with
      | false =>
        have HA := put (HAX2.out.1 hgd)
        clear hgd
        go_wp2
        go_ret3
        exact ⟨.slice none 0 0, by rw [HA.out]; rfl, by rw [HA.out]; exact Rws.nil _ _, hbel2⟩
      | true =>
        by_cases he : p < s.size
        · have HA := put ((HAX2.out.2 hgd).1 he)
          have he2 : (p : Int) < (s.size : Int) := by omega
          clear hgd
          go_wp2
          go_ret3
          exact ⟨.slice none 0 0, by rw [HA.out]; rfl, by rw [HA.out]; exact Rws.nil _ _, hbel2⟩
        · have HA := put ((HAX2.out.2 hgd).2 he)
          have he2 : ¬ ((p : Int) < (s.size : Int)) := by omega
          clear hgd
          go_wp2
          go_ret3
          exact ⟨_, by rw [HA.out]; rfl, by rw [HA.out]; exact hrw2, hbel2⟩

theorem specReadRows_any (s : ByteArray) (many : Int) (w : World) (hs : s.size ≤ 9223372036854775807) :
    Calls Try.prog 29 #[.string s, .int .i64 many] w fun e w' => ∃ v, e = .returned (.tuple #[v, .int .i64 (readRAns s many).2.1, .bool (readRAns s many).2.2]) ∧ Rws w' w.heap.size v (readRAns s many).1 ∧ Below w.heap.size w w' := by
  by_cases hsz : s.size ≤ 2000
  · rcases readU_two (s := s) (a := 0) (Nat.zero_le _) with ⟨x, c, q, h1, x0, x1, hq⟩ | ⟨c, h1⟩
    · have hR : Calls Try.prog 53 #[.string s, .int .i64 0] w fun e w' => e = .returned (.tuple #[.int .u64 x, .int .i64 (q : Int), .int .i64 c, .bool true]) ∧ Below w.heap.size w w' := (specReadU_any s 0 w hsz (Nat.zero_le _)).mono fun e w' h => by rw [h1] at h; exact h
      by_cases hm : 1 ≤ many ∧ many ≤ 300
      · by_cases hx : x ≤ 300
        · obtain ⟨n, rfl⟩ : ∃ n : Nat, x = (n : Int) := ⟨x.toNat, by omega⟩
          obtain ⟨m, rfl⟩ : ∃ m : Nat, many = (m : Int) := ⟨many.toNat, by omega⟩
          exact specReadRows_many s n q m w hsz hq (by omega) (by omega) (by omega) c (put h1)
        · exact specReadRows_bad s many x q c true w (put (readRAns_1 (by rw [h1]; simp only; omega))) (put hR) (.inr ⟨hm, .inr ⟨rfl, by omega, x1⟩⟩)
      · exact specReadRows_bad s many x q c true w (put (readRAns_1 (fun h => hm ⟨h.2.2.2.1, h.2.2.2.2⟩))) (put hR) (.inl hm)
    · have hR : Calls Try.prog 53 #[.string s, .int .i64 0] w fun e w' => e = .returned (.tuple #[.int .u64 0, .int .i64 0, .int .i64 c, .bool false]) ∧ Below w.heap.size w w' := (specReadU_any s 0 w hsz (Nat.zero_le _)).mono fun e w' h => by rw [h1] at h; exact h
      have hA := put (readRAns_1 (s := s) (many := many) (by rw [h1]; simp))
      by_cases hm : 1 ≤ many ∧ many ≤ 300
      · exact specReadRows_bad s many 0 0 c false w hA (put hR) (.inr ⟨hm, .inl rfl⟩)
      · exact specReadRows_bad s many 0 0 c false w hA (put hR) (.inl hm)
  · have hR : Calls Try.prog 53 #[.string s, .int .i64 0] w fun e w' => e = .returned (.tuple #[.int .u64 0, .int .i64 0, .int .i64 1, .bool false]) ∧ Below w.heap.size w w' := (specReadU_bad s 0 w hs (.inl (by omega))).mono fun e w' ⟨h, h'⟩ => ⟨h, by subst h'; exact Below.refl _ _⟩
    have hA := put (readRAns_1 (s := s) (many := many) (by omega))
    by_cases hm : 1 ≤ many ∧ many ≤ 300
    · exact specReadRows_bad s many 0 0 1 false w hA (put hR) (.inr ⟨hm, .inl rfl⟩)
    · exact specReadRows_bad s many 0 0 1 false w hA (put hR) (.inl hm)

end Go.Proofs.Ytkfdehmmhgcapaa

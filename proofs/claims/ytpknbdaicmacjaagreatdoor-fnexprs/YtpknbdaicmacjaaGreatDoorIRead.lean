/-
  The contract of the program's ReadExpr.
-/
import Derived.Test.YtpknbdaicmacjaaGreatDoorITok
namespace Go.Proofs.YtpknbdaicmacjaaGreatDoor
open Go.RowKit Exs
set_option linter.unusedVariables false

theorem split_any (l : List UInt8) (w : World) (hl : l.length ≤ 200) (he : Errs w) : Calls Tryz.prog 27 #[.string (strB l), .string ⟨#[32]⟩] w fun e w' =>
    e = .returned (.slice (some ⟨w.heap.size, 0, none⟩) (splitL l).length (splitL l).length) ∧ w.alloc (.cells ((splitL l).map fun u => Value.string (strB u)).toArray 9) = w' := by
  obtain ⟨_, _, m, hm⟩ := he
  have hsz := strB_size l
  refine (Tryz.strings_Split (strB l) (strB [32]) m w (by omega) hm (by decide)).mono ?_
  rintro e w' ⟨rfl, rfl⟩
  rw [splitB_splitL _ l (Nat.le_refl _), splitL_count, List.map_map]
  exact ⟨rfl, rfl⟩

theorem read_words {l : List UInt8} {e : List Token} (h : readL l = some e) : e.map tokL = splitL l ∧ (∀ t ∈ e, goodTok t) ∧ textL e = l ∧ 1 ≤ e.length ∧ e.length ≤ 12 := by
  obtain ⟨h1, h2, h3, h4, h5⟩ := readL_some h
  refine ⟨?_, h1, h4, h2, h3⟩
  rw [← h4, textL, splitL_joinL]
  · intro q; have := congrArg List.length q; simp at this; subst this; simp at h2
  · intro u hu
    obtain ⟨t, ht, rfl⟩ := List.mem_map.1 hu
    exact tokL_blank (h1 t ht)
theorem read_at {l : List UInt8} {e : List Token} (h : readL l = some e) {k : Nat} {u : List UInt8} (hu : (splitL l)[k]? = some u) : ∃ t, e[k]? = some t ∧ goodTok t ∧ u = tokL t := by
  obtain ⟨h1, h2, _⟩ := read_words h
  rw [← h1, List.getElem?_map] at hu
  cases ht : e[k]? with
  | none => rw [ht] at hu; cases hu
  | some t =>
    rw [ht] at hu
    injection hu with hu
    exact ⟨t, rfl, h2 t (List.mem_of_getElem? ht), hu.symm⟩
theorem toksB_good {ts : List Token} : toksB ts = true ↔ ∀ t ∈ ts, goodTok t := by
  simp [toksB, tokB]

/-- What the program's reading leaves. -/
def ReadI (l : List UInt8) (w : World) (e : Ending) (w' : World) : Prop :=
  (e = .returned (.tuple #[.slice none 0 0, .bool false]) ∧ Hid (readAns l = ([], false)) ∧ Below w.heap.size w w') ∨
  ∃ (g n : Nat) (ts : List Token), e = .returned (.tuple #[.slice (some ⟨g, 0, none⟩) n n, .bool true]) ∧ w.heap.size ≤ g ∧ Room w' g 40 (2 * n) .i64 (flat ts) ∧ ts.length = n ∧ n ≤ 12 ∧ Hid (readAns l = (ts, true)) ∧ Below w.heap.size w w'

set_option maxHeartbeats 2000000 in
set_option maxRecDepth 100000 in
theorem readExpr_any (l : List UInt8) (w : World) (hl0 : l.length ≤ 9223372036854775807) (h3 : 3 < w.heap.size) (hw : Hid (Words w)) (hp : Hid (Pows w.heap.size w)) (he : Hid (Errs w)) : Calls Tryz.prog 8 #[.string (strB l)] w (ReadI l w) := by
  have hsz := put (strB_size l)
  by_cases hl : l.length ≤ 200
  · have hs2 : (strB l).size ≤ 200 := by rw [hsz.out]; exact hl
    have hwl : 0 < (splitL l).length := List.length_pos_iff.2 (splitL_ne l)
    have hwl2 : (splitL l).length ≤ 201 := by have := splitL_few l; omega
    have hshort := put (fun u (hu : u ∈ splitL l) => Nat.le_trans (splitL_short l u hu) hl)
    have hat := put (fun e k u (h : readL l = some e) (hu : (splitL l)[k]? = some u) => read_at h hu)
    have hwd := put (fun e (h : readL l = some e) => read_words h)
    have hmk := fun W => run_make_rows (P := Tryz.prog) 24 40 (.agg #[.int .i64 0, .int .i64 0]) 2 16 Tryz.underlying24 Tryz.info40 (splitL l).length (by omega) (by omega) W
    go_enter Tryz.func8, Tryz.ntmps8
    go_wp2_with fail
    refine (split_any l _ hl he.out).mono ?_
    rintro e w1 ⟨rfl, rfl⟩
    obtain ⟨W1, hW1⟩ : ∃ W1, W1 = w.alloc (.cells ((splitL l).map fun u => Value.string (strB u)).toArray 9) := ⟨_, rfl⟩
    have hs1 : W1.heap.size = w.heap.size + 1 := by rw [hW1]; simp
    have hbW : Below w.heap.size w W1 := by rw [hW1]; exact (Below.refl _ _).alloc (Nat.le_refl _) _
    have HC := put (show ∀ k u, (splitL l)[k]? = some u → W1.cell? ⟨w.heap.size, k, none⟩ = some (.string (strB u)) by
      intro k u hu
      rw [hW1, cell_of_row _ _ k _ 9 (0, 0) (heap_alloc_new _ _)]
      simp [hu])
    rw [← hW1]
    generalize hws : splitL l = ws at *
    generalize hn : ws.length = n at *
    have HNL := put hn
    have HWS := put hws
    have HS1 := put hs1
    clear hn hws hW1
    go_wp2_with fail
    clear hmk
    go_loopw [22] (fun i wr => ∃ (k : Nat) (ts : List Token), k ≤ n ∧ i = .int .i64 k ∧ Hid (ts.length = k) ∧ Room wr (w.heap.size + 1) 40 (2 * n) .i64 (flat ts) ∧ Hid (∀ e, readL l = some e → ts = e.take k) ∧ Below W1.heap.size W1 wr) (fun i _ => n - (intOf i).toNat)
    case atStart =>
      refine ⟨0, [], Nat.zero_le _, rfl, rfl, ?_, fun e _ => rfl, (Below.refl _ _).alloc (Nat.le_refl _) _⟩
      have := Room.madeT W1 40 n #[.int .i64 0, .int .i64 0] (n * 2) rfl
      rw [HS1.out] at this
      exact this
    case round =>
      obtain ⟨k, ts, hk, rfl, htk, hroom, htake, hbel⟩ := hrel
      have hbs := hbel.size
      have bw : Below w.heap.size w wr := hbW.trans (hbel.mono (by rw [HS1.out]; omega))
      have h3' : 3 < wr.heap.size := by have := bw.size; omega
      have hs1 := hs1
      by_cases hlt : k < n
      · obtain ⟨u, hu⟩ : ∃ u, ws[k]? = some u := ⟨_, List.getElem?_eq_getElem (by rw [HNL.out]; exact hlt)⟩
        have hc := (hbel.cell (p := ⟨w.heap.size, k, none⟩) (by show w.heap.size < _; rw [HS1.out]; omega)).trans (HC.out k u hu)
        have hul := hshort.out u (List.mem_of_getElem? hu)
        have HU := put hu
        clear hu
        go_wp2_with fail
        refine (tokenOf_any u _ hul h3' (put (hw.out.below bw (by omega))) (put (he.out.below bw h3))).mono ?_
        rintro e w2 ⟨op, x, b, rfl, htok, hb2⟩
        have b2 : Below W1.heap.size W1 w2 := hbel.trans (hb2.mono hbs)
        have bw2 : Below w.heap.size w w2 := bw.trans (hb2.mono bw.size)
        have hroom2 := hroom.below hb2 hroom.lt
        have hlt2 := hroom2.lt
        have hbs2 := b2.size
        clear hb2 hc hroom
        cases b with
        | false =>
          have HF := put (show readAns l = ([], false) by
            cases hq : readL l with
            | none => exact readAns_none hq
            | some e =>
              obtain ⟨t, _, ht, hut⟩ := hat.out e k u hq HU.out
              have := (htok.out t ht hut).1
              cases this)
          clear htok
          go_wp2
          go_ret2
          exact .inl ⟨rfl, HF, bw2.alloc bw2.size _⟩
        | true =>
          have HN := put (show ∀ e, readL l = some e → ts ++ [(op, x)] = e.take (k + 1) from fun e hq => by
            obtain ⟨t, h1, ht, hut⟩ := hat.out e k u hq HU.out
            rw [takeT_more h1, htake.out e hq, (htok.out t ht hut).2])
          obtain ⟨c0, hc0⟩ := hroom2.at_ (k * 2) (by omega)
          obtain ⟨c1, hc1⟩ := hroom2.at_ (k * 2 + 1) (by omega)
          have hf0 := hroom2.frozen (k * 2)
          have hf1 := hroom2.frozen (k * 2 + 1)
          have hpush := hroom2.pushT (by rw [htk.out]; exact hlt) op x
          rw [htk.out] at hpush
          have HP := put (hpush.below ((Below.refl _ _).alloc (Nat.le_refl _) (Obj.cells #[Value.int IntKind.i64 op, Value.int IntKind.i64 x] 40)) hpush.lt)
          have b3 := ((b2.setCell (p := ⟨w.heap.size + 1, k * 2, none⟩) (by show W1.heap.size ≤ w.heap.size + 1; omega) (.int .i64 op)).setCell (p := ⟨w.heap.size + 1, k * 2 + 1, none⟩) (by show W1.heap.size ≤ w.heap.size + 1; omega) (.int .i64 x)).alloc (by simpa [World.setCell] using b2.size) (Obj.cells #[Value.int IntKind.i64 op, Value.int IntKind.i64 x] 40)
          have HL := put (show (ts ++ [(op, x)]).length = k + 1 by rw [List.length_append, htk.out]; rfl)
          clear hpush htok hroom2
          go_wp2
          go_roundw
          case rel => exact ⟨k + 1, ts ++ [(op, x)], by omega, by go_num, HL, HP.out, HN, b3⟩
          case measure => simp [intOf]; omega
      · have hkn : k = n := by omega
        subst hkn
        have hrt : ReadsT wr wr.heap.size (some ⟨w.heap.size + 1, 0, none⟩) k ts := hroom.readsT htk.out
        have HALL := put (show ∀ e, readL l = some e → ts = e from fun e hq => by
          have h5 := htake.out e hq
          have h6 := (hwd.out e hq).1
          have h7 := congrArg List.length h6
          rw [List.length_map, HNL.out] at h7
          rwa [List.take_of_length_le (by omega)] at h5)
        go_wp2_with fail
        refine (exprText_any _ _ _ ts _ hrt (by omega) (by omega) (put (hw.out.below bw (by omega))) (put (Lib.tabBelow_of_tabIs (hp.out _ bw)))).mono ?_
        rintro e w2 ⟨rfl, hb2⟩
        have bw2 : Below w.heap.size w w2 := bw.trans (hb2.mono bw.size)
        have hroom2 := hroom.below hb2 hroom.lt
        clear hb2 hroom hrt
        cases hok : toksB ts && within ts.length 1 12 with
        | false =>
          have HT := put (show textAns ts = ([], false) by unfold textAns; rw [hok]; rfl)
          rw [HT.out]
          have HF := put (show readAns l = ([], false) by
            cases hq : readL l with
            | none => exact readAns_none hq
            | some e =>
              obtain ⟨_, h2, _, h4, h5⟩ := hwd.out e hq
              obtain rfl := HALL.out e hq
              rw [toksB_good.2 h2, (within_iff _ _ _).2 (by omega)] at hok
              cases hok)
          clear hok
          go_wp2
          go_ret2
          exact .inl ⟨rfl, HF, bw2⟩
        | true =>
          rw [Bool.and_eq_true] at hok
          have HT := put (show textAns ts = (textL ts, true) from textAns_yes hok.1 hok.2)
          rw [HT.out]
          have hgd := toksB_good.1 hok.1
          have hln := (within_iff _ _ _).1 hok.2
          by_cases htx : textL ts = l
          · have HF := put (show readAns l = (ts, true) from readAns_some (by rw [← htx]; exact readL_textL hgd (by omega) (by omega) (by rw [htx]; exact hl)))
            have hcmp := str_eq (textL ts) l
            rw [decide_eq_true htx] at hcmp
            have hcmp2 : (((strB (textL ts)).toList != (strB l).toList)) = false := by rw [bne, hcmp]; rfl
            have hk12 : k ≤ 12 := by rw [htk.out] at hln; omega
            clear htx hok hgd
            generalize textL ts = v at *
            go_wp2
            go_ret2
            exact .inr ⟨w.heap.size + 1, k, ts, rfl, by omega, hroom2, htk.out, hk12, HF, bw2⟩
          · have HF := put (show readAns l = ([], false) by
              cases hq : readL l with
              | none => exact readAns_none hq
              | some e =>
                obtain ⟨_, _, h3, _⟩ := hwd.out e hq
                obtain rfl := HALL.out e hq
                exact absurd h3 htx)
            have hcmp := str_eq (textL ts) l
            rw [decide_eq_false htx] at hcmp
            have hcmp2 : (((strB (textL ts)).toList != (strB l).toList)) = true := by rw [bne, hcmp]; rfl
            clear htx hok hgd
            generalize textL ts = v at *
            go_wp2
            go_ret2
            exact .inl ⟨rfl, HF, bw2⟩
  · have HF := put (readAns_none (readL_long (l := l) (by omega)))
    have hs2 : 200 < (strB l).size := by rw [hsz.out]; omega
    have hs3 : (strB l).size ≤ 9223372036854775807 := by rw [hsz.out]; exact hl0
    go_enter Tryz.func8, Tryz.ntmps8
    go_wp2
    go_ret2
    exact .inl ⟨rfl, HF, Below.refl _ _⟩

end Go.Proofs.YtpknbdaicmacjaaGreatDoor

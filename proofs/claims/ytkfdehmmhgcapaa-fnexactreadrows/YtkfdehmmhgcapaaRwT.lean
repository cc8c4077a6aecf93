/-
  ReadRows: the small functions of both sides; the program's row.
-/
import Derived.Test.YtkfdehmmhgcapaaRwB
namespace Go.Proofs.Ytkfdehmmhgcapaa
open Go.RowKit Exs Leb

set_option maxHeartbeats 400000 in
set_option maxRecDepth 100000 in
theorem l7Small_any (n : Int) (w : World) (h0 : 0 ≤ n) (h1 : n ≤ 18446744073709551615) : Calls Try.prog 56 #[.int .u64 n] w fun e w' => e = .returned (.int .i64 (smallR n)) ∧ w = w' := by
  by_cases h : 1000000 < n
  · have H := put (show smallR n = 2000000 by simp [smallR, h])
    go_enter Try.func56, Try.ntmps56
    go_wp2
    go_ret
    exact ⟨ret_int H.out.symm, rfl⟩
  · have H := put (show smallR n = n by simp [smallR, h])
    replace h : n ≤ 1000000 := by omega
    have hw : IntKind.i64.wrap n = n := IntWalk.i64_in _ ⟨by omega, by omega⟩
    go_enter Try.func56, Try.ntmps56
    go_wp2
    go_ret
    exact ⟨ret_int H.out.symm, rfl⟩

set_option maxHeartbeats 400000 in
set_option maxRecDepth 100000 in
theorem l1Least_any (a b : Int) (w : World) : Calls Try.prog 55 #[.int .i64 a, .int .i64 b] w fun e w' => e = .returned (.int .i64 (min a b)) ∧ w = w' := by
  by_cases h : a < b
  · have H := put (show min a b = a by omega)
    go_enter Try.func55, Try.ntmps55
    go_wp2
    go_ret
    exact ⟨ret_int H.out.symm, rfl⟩
  · have H := put (show min a b = b by omega)
    replace h : b ≤ a := by omega
    go_enter Try.func55, Try.ntmps55
    go_wp2
    go_ret
    exact ⟨ret_int H.out.symm, rfl⟩

set_option maxHeartbeats 400000 in
set_option maxRecDepth 100000 in
theorem boundedU_any (n : Int) (w : World) (h0 : 0 ≤ n) (h1 : n ≤ 18446744073709551615) : Calls Try.prog 86 #[.int .u64 n] w fun e w' => e = .returned (.int .i64 (min n 1000001)) ∧ w = w' := by
  have hw : IntKind.i64.wrap (min n 1000001) = min n 1000001 := IntWalk.i64_in _ ⟨by omega, by omega⟩
  go_enter Try.func86, Try.ntmps86
  go_wp2
  go_ret
  exact ⟨rfl, rfl⟩

set_option maxHeartbeats 400000 in
set_option maxRecDepth 100000 in
theorem boundedS_any (n : Int) (w : World) : Calls Try.prog 87 #[.int .i64 n] w fun e w' => e = .returned (.int .i64 (max (min n 1000001) (-1000001))) ∧ w = w' := by
  go_enter Try.func87, Try.ntmps87
  go_wp2
  go_ret
  exact ⟨rfl, rfl⟩

/-- What the program's readRow answers. -/
def GotR (s : ByteArray) (p : Nat) (a : Int) (w : World) (e : Ending) (w' : World) : Prop :=
  (∀ g q, gapAt s p = some (g, q) → e = .returned (.tuple #[.agg #[.int .i64 (rowI a g).1, .int .i64 (rowI a g).2.1, .int .i64 (rowI a g).2.2], .int .i64 (q : Int), .bool true])) ∧
  (gapAt s p = none → e = .returned (.tuple #[.agg #[.int .i64 0, .int .i64 0, .int .i64 0], .int .i64 0, .bool false])) ∧ Below w.heap.size w w'

set_option maxHeartbeats 2000000 in
set_option maxRecDepth 100000 in
theorem readRow_any (s : ByteArray) (p : Nat) (a : Int) (w : World) (hs : s.size ≤ 2000) (hp : p ≤ s.size) (ha : 0 ≤ a) (ha2 : a ≤ 700000000) :
    Calls Try.prog 76 #[.string s, .int .i64 (p : Int), .int .i64 a] w (GotR s p a w) := by
  have hb := (Below.refl w.heap.size w).alloc (Nat.le_refl _) (Obj.cells #[.int .i64 0, .int .i64 0, .int .i64 0] 50)
  rcases readU_two hp with ⟨x, c1, q1, h1, x0, x1, hq1⟩ | ⟨c1, h1⟩
  · rcases readU_two hq1 with ⟨y, c2, q2, h2, y0, y1, hq2⟩ | ⟨c2, h2⟩
    · rcases readS_two hq2 with ⟨z, c3, q3, h3, z0, z1, hq3⟩ | ⟨c3, h3⟩
      · have HG := put (gap_some h1 h2 h3)
        have H1 := put h1; have H2 := put h2; have H3 := put h3
        have e1 : IntKind.i64.wrap (a + min x 1000001) = (rowI a (x, y, z)).1 := IntWalk.i64_in _ ⟨by omega, by omega⟩
        have e2 : IntKind.i64.wrap ((rowI a (x, y, z)).1 + min y 1000001) = (rowI a (x, y, z)).2.1 := IntWalk.i64_in _ ⟨by simp only [rowI]; omega, by simp only [rowI]; omega⟩
        have e3 : IntKind.i64.wrap ((rowI a (x, y, z)).2.1 + max (min z 1000001) (-1000001)) = (rowI a (x, y, z)).2.2 := IntWalk.i64_in _ ⟨by simp only [rowI]; omega, by simp only [rowI]; omega⟩
        have hB := (((hb.setCell (p := ⟨w.heap.size, 0, none⟩) (Nat.le_refl _) (.int .i64 (rowI a (x, y, z)).1)).setCell (p := ⟨w.heap.size, 1, none⟩) (Nat.le_refl _) (.int .i64 (rowI a (x, y, z)).2.1)).setCell (p := ⟨w.heap.size, 2, none⟩) (Nat.le_refl _) (.int .i64 (rowI a (x, y, z)).2.2))
        have HROW := put (show ((rowI a (x, y, z)).1, (rowI a (x, y, z)).2.1, (rowI a (x, y, z)).2.2) = rowI a (x, y, z) from rfl)
        generalize (rowI a (x, y, z)).1 = r1 at e1 e2 hB HROW
        generalize (rowI a (x, y, z)).2.1 = r2 at e2 e3 hB HROW
        generalize (rowI a (x, y, z)).2.2 = r3 at e3 hB HROW
        clear h1 h2 h3
        go_enter Try.func76, Try.ntmps76
        go_wp2_with fail
        refine (readU_any s p _ hs hp).mono ?_
        rintro e w1 ⟨rfl, rfl⟩
        rw [H1.out]
        unfold Read.told
        go_wp2_with fail
        refine (readU_any s q1 _ hs hq1).mono ?_
        rintro e w1 ⟨rfl, rfl⟩
        rw [H2.out]
        unfold Read.told
        go_wp2_with fail
        refine (readS_any s q2 _ hs hq2).mono ?_
        rintro e w1 ⟨rfl, rfl⟩
        rw [H3.out]
        unfold Read.told
        go_wp2_with fail
        refine (boundedU_any x _ x0 x1).mono ?_
        rintro e w1 ⟨rfl, rfl⟩
        go_wp2_with fail
        refine (boundedU_any y _ y0 y1).mono ?_
        rintro e w1 ⟨rfl, rfl⟩
        go_wp2_with fail
        refine (boundedS_any z _).mono ?_
        rintro e w1 ⟨rfl, rfl⟩
        go_wp2
        refine bodyPost_ret (v := .tuple #[.agg #[.int .i64 r1, .int .i64 r2, .int .i64 r3], .int .i64 (q3 : Int), .bool true]) (by simp [results, Try.results76, go_sem]) rfl ⟨fun g q h => ?_, fun h => (by rw [HG.out] at h; cases h), ?_⟩
        · rw [HG.out] at h
          injection h with h
          injection h with h h'
          subst h h'
          rw [← HROW.out]
        · first | exact hB | exact (Below.refl _ _).alloc (Nat.le_refl _) _
      · have HG := put (gap_no3 h1 h2 h3 rfl)
        have H1 := put h1; have H2 := put h2; have H3 := put h3
        clear h1 h2 h3
        go_enter Try.func76, Try.ntmps76
        go_wp2_with fail
        refine (readU_any s p _ hs hp).mono ?_
        rintro e w1 ⟨rfl, rfl⟩
        rw [H1.out]
        unfold Read.told
        go_wp2_with fail
        refine (readU_any s q1 _ hs hq1).mono ?_
        rintro e w1 ⟨rfl, rfl⟩
        rw [H2.out]
        unfold Read.told
        go_wp2_with fail
        refine (readS_any s q2 _ hs hq2).mono ?_
        rintro e w1 ⟨rfl, rfl⟩
        rw [H3.out]
        unfold Read.told
        go_wp2
        exact bodyPost_ret (v := .tuple #[.agg #[.int .i64 0, .int .i64 0, .int .i64 0], .int .i64 0, .bool false]) (by simp [results, Try.results76, go_sem]) rfl ⟨fun g q h => (by rw [HG.out] at h; cases h), fun _ => rfl, hb⟩
    · have HG := put (gap_no2 h1 h2 rfl)
      have H1 := put h1; have H2 := put h2
      clear h1 h2
      go_enter Try.func76, Try.ntmps76
      go_wp2_with fail
      refine (readU_any s p _ hs hp).mono ?_
      rintro e w1 ⟨rfl, rfl⟩
      rw [H1.out]
      unfold Read.told
      go_wp2_with fail
      refine (readU_any s q1 _ hs hq1).mono ?_
      rintro e w1 ⟨rfl, rfl⟩
      rw [H2.out]
      unfold Read.told
      go_wp2
      exact bodyPost_ret (v := .tuple #[.agg #[.int .i64 0, .int .i64 0, .int .i64 0], .int .i64 0, .bool false]) (by simp [results, Try.results76, go_sem]) rfl ⟨fun g q h => (by rw [HG.out] at h; cases h), fun _ => rfl, hb⟩
  · have HG := put (gap_no1 h1 rfl)
    have H1 := put h1
    clear h1
    go_enter Try.func76, Try.ntmps76
    go_wp2_with fail
    refine (readU_any s p _ hs hp).mono ?_
    rintro e w1 ⟨rfl, rfl⟩
    rw [H1.out]
    unfold Read.told
    go_wp2
    exact bodyPost_ret (v := .tuple #[.agg #[.int .i64 0, .int .i64 0, .int .i64 0], .int .i64 0, .bool false]) (by simp [results, Try.results76, go_sem]) rfl ⟨fun g q h => (by rw [HG.out] at h; cases h), fun _ => rfl, hb⟩

/-- What the program's readRowsAt answers: rows, the place behind them, a code. -/
def raAns (s : ByteArray) (many : Int) : List Row3 × Nat × Int :=
  if s.size ≤ 2000 ∧ (readU s 0).fine = true ∧ (readU s 0).num ≤ 300 ∧ 1 ≤ many ∧ many ≤ 300 then
    match gapsAt s (readU s 0).num.toNat (readU s 0).place.toNat with
    | none => ([], 0, 2)
    | some (gs, e) => if rowsF many.toNat 0 (rowsI 0 gs) = true then (rowsI 0 gs, e, 0) else ([], 0, 3)
  else ([], 0, 1)
theorem raAns_1 {s : ByteArray} {many : Int} (h : ¬ (s.size ≤ 2000 ∧ (readU s 0).fine = true ∧ (readU s 0).num ≤ 300 ∧ 1 ≤ many ∧ many ≤ 300)) : raAns s many = ([], 0, 1) := by
  unfold raAns; rw [if_neg h]
section
variable {s : ByteArray} {m n p : Nat} {c : Int}
theorem raAns_2 (hs : s.size ≤ 2000) (h : readU s 0 = ⟨n, p, c, true⟩) (hn : n ≤ 300) (h1 : 1 ≤ m) (h2 : m ≤ 300) (hg : gapsAt s n p = none) : raAns s m = ([], 0, 2) := by
  unfold raAns
  rw [if_pos ⟨hs, by rw [h], by rw [h]; simp only; omega, by omega, by omega⟩, h]
  simp only [Int.toNat_natCast]
  rw [hg]
theorem raAns_x {gs : List Gap} {e : Nat} (hs : s.size ≤ 2000) (h : readU s 0 = ⟨n, p, c, true⟩) (hn : n ≤ 300) (h1 : 1 ≤ m) (h2 : m ≤ 300) (hg : gapsAt s n p = some (gs, e)) :
    raAns s m = if rowsF m 0 (rowsI 0 gs) = true then (rowsI 0 gs, e, 0) else ([], 0, 3) := by
  unfold raAns
  rw [if_pos ⟨hs, by rw [h], by rw [h]; simp only; omega, by omega, by omega⟩, h]
  simp only [Int.toNat_natCast]
  rw [hg]
end
theorem readRAns_ra (s : ByteArray) (many : Int) : readRAns s many = if (raAns s many).2.2 = 0 then (if (raAns s many).2.1 < s.size then ([], 4, false) else ((raAns s many).1, 0, true)) else ([], (raAns s many).2.2, false) := by
  unfold readRAns raAns
  split
  · generalize gapsAt s (readU s 0).num.toNat (readU s 0).place.toNat = o
    cases o with
    | none => rfl
    | some r =>
      obtain ⟨gs, e⟩ := r
      simp only
      by_cases h : rowsF many.toNat 0 (rowsI 0 gs) = true
      · simp [h]
      · simp [h]
  · rfl
/-- 'make([]T, n)', T of some cells, by a number of whichever kind. -/
theorem run_make_rowsU {P : Program} (t e : TypeId) (z : Value) (size bytes : Nat) (ht : P.underlying t = some (.slice e)) (hinfo : (P.info? e).map (fun i => (i.zero, i.size, i.bytes)) = some (some z, size, bytes))
    (n : Nat) (hbytes : bytes * n ≤ 281474976710656) (h63 : n ≤ 9223372036854775807) (w : World) :
    (Instr.makeSlice t (.int .u64 (n : Int)) (.int .u64 (n : Int))).run P w = .ok (.slice (some ⟨w.heap.size, 0, none⟩) n n) (w.alloc (.cells (madeCells z.cells (n * size)) e)) := by
  obtain ⟨i, hi, hz, hs, hb⟩ := info_parts hinfo
  subst hs; subst hb
  have hb : (i.bytes : Int) * (n : Int) ≤ 281474976710656 := by
    have h : ((i.bytes * n : Nat) : Int) ≤ 281474976710656 := by omega
    rwa [Int.natCast_mul] at h
  have hr := run_make (P := P) w t e i z ht hi hz .u64 .u64 n n (by omega) (by omega) hb (by omega)
  simp only [Int.toNat_natCast] at hr
  exact hr
theorem Room.rws {w : World} {g B n : Nat} {rs : List Row3} (h : Room w g 50 (3 * n) .i64 (flat3 rs)) (hB : B ≤ g) (hn : rs.length = n) (hm : n ≤ 300) : Rws w B (.slice (some ⟨g, 0, none⟩) n n) rs := by
  subst hn
  rw [Nat.mul_comm] at h
  exact RNs.of_room h hB (by rw [flat3_length]; omega) (Nat.le_refl _) (by unfold maxLen; omega)
theorem lastTo_rowsI_next {gs : List Gap} {g : Gap} {a : Int} : lastTo a (rowsI a (gs ++ [g])) = (rowI (lastTo a (rowsI a gs)) g).2.1 := by rw [rowsI_snoc, lastTo_snoc]

set_option maxHeartbeats 4000000 in
set_option maxRecDepth 100000 in
theorem readRowsAt_many (s : ByteArray) (n p0 m : Nat) (w : World) (hs : s.size ≤ 2000) (hp0 : p0 ≤ s.size) (hn : n ≤ 300) (h1 : 1 ≤ m) (h2 : m ≤ 300) (code : Int) (HR : Hid (readU s 0 = ⟨n, p0, code, true⟩)) :
    Calls Try.prog 57 #[.string s, .int .i64 0, .int .i64 (m : Int)] w fun e w' => ∃ v, e = .returned (.tuple #[v, .int .i64 ((raAns s m).2.1 : Int), .int .i64 (raAns s m).2.2]) ∧ Rws w' w.heap.size v (raAns s m).1 ∧ Below w.heap.size w w' := by
  have hmk := fun W => run_make_rowsU (P := Try.prog) 25 50 (.agg #[.int .i64 0, .int .i64 0, .int .i64 0]) 3 24 Try.underlying25 Try.info50 n (by omega) (by omega) W
  have HA2 := put (fun h => raAns_2 (m := m) hs HR.out hn h1 h2 h)
  have HAX := put (fun gs e h => raAns_x (m := m) (gs := gs) (e := e) hs HR.out hn h1 h2 h)
  have q1 : ¬ ((m : Int) < 1) := by omega
  have q2 : ¬ ((300 : Int) < (m : Int)) := by omega
  go_enter Try.func57, Try.ntmps57
  go_wp2_with fail
  refine (readU_any s 0 _ hs (Nat.zero_le _)).mono ?_
  rintro e w1 ⟨rfl, rfl⟩
  rw [HR.out]
  unfold Read.told
  go_wp2
  go_loopw [1, 13, 41] (fun at_ to i wr => ∃ (k p : Nat) (gs : List Gap), k ≤ n ∧ p ≤ s.size ∧ i = .int .i64 k ∧ at_ = .int .i64 (p : Int) ∧ to = .int .i64 (lastTo 0 (rowsI 0 gs)) ∧ Hid (gs.length = k ∧ ∀ g ∈ gs, GapOk g) ∧ Room wr w.heap.size 50 (3 * n) .i64 (flat3 (rowsI 0 gs)) ∧ Hid (gapsAt s n p0 = (gapsAt s (n - k) p).map fun r => (gs ++ r.1, r.2)) ∧ Below w.heap.size w wr) (fun _ _ i _ => n - (intOf i).toNat)
  case atStart => exact ⟨0, p0, [], Nat.zero_le _, hp0, rfl, rfl, rfl, put ⟨rfl, fun _ h => by simp at h⟩, Room.madeR w 50 n _ _ rfl, put (by simp), (Below.refl _ _).alloc (Nat.le_refl _) _⟩
  case round =>
    obtain ⟨k, p, gs, hk, hp, rfl, rfl, rfl, hgs, hroom, hmore, hbel⟩ := hrel
    clear hmk
    by_cases hlt : k < n
    · have hbnd := lastI_bound hgs.out.2 (Int.le_refl 0)
      rw [hgs.out.1] at hbnd
      have HL := put (fun g => lastTo_rowsI_next (gs := gs) (g := g) (a := 0))
      have HRS := put (fun g => rowsI_snoc g gs 0)
      have HLEN := put (rowsI_length gs 0)
      generalize lastTo 0 (rowsI 0 gs) = a at HL HRS hbnd ⊢
      have ha0 : 0 ≤ a := hbnd.1
      have ha1 : a ≤ 700000000 := by omega
      clear hbnd
      have hgap : (∃ g q, gapAt s p = some (g, q)) ∨ gapAt s p = none := by
        cases gapAt s p with
        | none => exact .inr rfl
        | some r => exact .inl ⟨r.1, r.2, rfl⟩
      rcases hgap with ⟨g, q, hg⟩ | hg
      · have HG := put hg
        obtain ⟨hgo, hq⟩ : GapOk g ∧ q ≤ s.size := gapAt_ok hp hg
        have HN := put (gaps_next hlt hmore.out hg)
        have HGS := put (show (gs ++ [g]).length = k + 1 ∧ ∀ g' ∈ gs ++ [g], GapOk g' from ⟨by rw [List.length_append, hgs.out.1]; rfl, fun g' hg' => by
          rcases List.mem_append.1 hg' with hg' | hg'
          · exact hgs.out.2 g' hg'
          · simp at hg'; subst hg'; exact hgo⟩)
        clear hg hmore
        go_wp2_with fail
        refine (readRow_any s p a _ hs hp ha0 ha1).mono ?_
        rintro e w2 ⟨hyes, _, hb2⟩
        rw [hyes g q HG.out]
        clear hyes
        have hroom2 := hroom.below hb2 hroom.lt
        have hbel2 : Below w.heap.size w w2 := hbel.trans (hb2.mono hbel.size)
        have hcap : (rowsI 0 gs).length < n := by rw [HLEN.out, hgs.out.1]; exact hlt
        have hpush := hroom2.pushR hcap (rowI a g).1 (rowI a g).2.1 (rowI a g).2.2
        have HP := put (show Room _ w.heap.size 50 (3 * n) .i64 (flat3 (rowsI 0 (gs ++ [g]))) by rw [HRS.out g]; exact hpush)
        have HL2 := HL.out g
        rw [HLEN.out, hgs.out.1] at HP
        obtain ⟨c0, hc0⟩ := hroom2.at_ (k * 3) (by omega)
        obtain ⟨c1, hc1⟩ := hroom2.at_ (k * 3 + 1) (by omega)
        obtain ⟨c2, hc2⟩ := hroom2.at_ (k * 3 + 2) (by omega)
        have hf0 := hroom2.frozen (k * 3)
        have hf1 := hroom2.frozen (k * 3 + 1)
        have hf2 := hroom2.frozen (k * 3 + 2)
        have HB := put (((hbel2.setCell (p := ⟨w.heap.size, k * 3, none⟩) (Nat.le_refl _) (.int .i64 (rowI a g).1)).setCell (p := ⟨w.heap.size, k * 3 + 1, none⟩) (Nat.le_refl _) (.int .i64 (rowI a g).2.1)).setCell (p := ⟨w.heap.size, k * 3 + 2, none⟩) (Nat.le_refl _) (.int .i64 (rowI a g).2.2))
        have HL3 := put HL2
        clear hpush hroom hroom2 hbel hbel2 hb2 HL2
        go_wp2
        go_roundw
        case rel => exact ⟨k + 1, q, gs ++ [g], by omega, hq, by go_num, rfl, by rw [HL3.out], HGS, HP.out, HN, HB.out⟩
        case measure => simp [intOf]; omega
      · have HG := put hg
        have HA := put (HA2.out (gaps_fail hlt hmore.out hg))
        clear hg hmore
        go_wp2_with fail
        refine (readRow_any s p a _ hs hp ha0 ha1).mono ?_
        rintro e w2 ⟨_, hno, hb2⟩
        rw [hno HG.out]
        clear hno
        have hroom2 := hroom.below hb2 hroom.lt
        have hbel2 : Below w.heap.size w w2 := hbel.trans (hb2.mono hbel.size)
        obtain ⟨c0, hc0⟩ := hroom2.at_ (k * 3) (by omega)
        obtain ⟨c1, hc1⟩ := hroom2.at_ (k * 3 + 1) (by omega)
        obtain ⟨c2, hc2⟩ := hroom2.at_ (k * 3 + 2) (by omega)
        have hf0 := hroom2.frozen (k * 3)
        have hf1 := hroom2.frozen (k * 3 + 1)
        have hf2 := hroom2.frozen (k * 3 + 2)
        have HB := put (((hbel2.setCell (p := ⟨w.heap.size, k * 3, none⟩) (Nat.le_refl _) (.int .i64 0)).setCell (p := ⟨w.heap.size, k * 3 + 1, none⟩) (Nat.le_refl _) (.int .i64 0)).setCell (p := ⟨w.heap.size, k * 3 + 2, none⟩) (Nat.le_refl _) (.int .i64 0))
        clear hroom hroom2 hbel hbel2 hb2
        go_wp2
        go_ret3
        exact ⟨.slice none 0 0, by rw [HA.out]; rfl, by rw [HA.out]; exact Rws.nil _ _, HB.out⟩
    · obtain rfl : k = n := by omega
      have hd := gaps_done (by omega) hmore.out
      have HAX2 := put (HAX.out gs p hd)
      have hl : (rowsI 0 gs).length = k := by rw [rowsI_length, hgs.out.1]
      have hrd := hroom.readsR hl
      have hrw : Rws wr w.heap.size (.slice (some ⟨w.heap.size, 0, none⟩) k k) (rowsI 0 gs) := hroom.rws (Nat.le_refl _) hl hn
      clear hmore hd hroom
      go_wp2_with fail
      refine (goodRows_any _ k k (rowsI 0 gs) m _ hrd (by omega) h2).mono ?_
      rintro e w2 ⟨rfl, hb2⟩
      have hrw2 := hrw.below hb2
      have hbel2 := hbel.trans (hb2.mono hbel.size)
      by_cases hgd : rowsF m 0 (rowsI 0 gs) = true
      · have HF := put hgd
        have HA := put (by have := HAX2.out; rwa [if_pos hgd] at this)
        clear hgd
        rw [HF.out]
        go_wp2
        go_ret3
        exact ⟨_, by rw [HA.out]; rfl, by rw [HA.out]; exact hrw2, hbel2⟩
      · have HF := put (show rowsF m 0 (rowsI 0 gs) = false by simpa using hgd)
        have HA := put (by have := HAX2.out; rwa [if_neg hgd] at this)
        clear hgd
        rw [HF.out]
        go_wp2
        go_ret3
        exact ⟨.slice none 0 0, by rw [HA.out]; rfl, by rw [HA.out]; exact Rws.nil _ _, hbel2⟩

set_option maxHeartbeats 1000000 in
set_option maxRecDepth 100000 in
theorem readRowsAt_none (s : ByteArray) (many num place code : Int) (fine : Bool) (w : World) (HA : Hid (raAns s many = ([], 0, 1)))
    (HR : Hid (Calls Try.prog 75 #[.string s, .int .i64 0] w fun e w' => e = .returned (.tuple #[.int .u64 num, .int .i64 place, .int .i64 code, .bool fine]) ∧ w = w'))
    (h : fine = false ∨ (fine = true ∧ (300 < num ∧ num ≤ 18446744073709551615)) ∨ (fine = true ∧ num ≤ 300 ∧ 0 ≤ num ∧ many < 1) ∨ (fine = true ∧ num ≤ 300 ∧ 0 ≤ num ∧ 1 ≤ many ∧ 300 < many)) :
    Calls Try.prog 57 #[.string s, .int .i64 0, .int .i64 many] w fun e w' => ∃ v, e = .returned (.tuple #[v, .int .i64 ((raAns s many).2.1 : Int), .int .i64 (raAns s many).2.2]) ∧ Rws w' w.heap.size v (raAns s many).1 ∧ Below w.heap.size w w' := by
  rcases h with rfl | ⟨rfl, h1, h2⟩ | ⟨rfl, h1, h2, h3⟩ | ⟨rfl, h1, h2, h3, h4⟩
  all_goals (
    go_enter Try.func57, Try.ntmps57
    go_wp2_with fail
    refine HR.out.mono ?_
    rintro e w1 ⟨rfl, rfl⟩
    go_wp2
    go_ret3
    exact ⟨.slice none 0 0, by rw [HA.out]; rfl, by rw [HA.out]; exact Rws.nil _ _, Below.refl _ _⟩)

theorem readRowsAt_any (s : ByteArray) (many : Int) (w : World) (hs : s.size ≤ 9223372036854775807) :
    Calls Try.prog 57 #[.string s, .int .i64 0, .int .i64 many] w fun e w' => ∃ v, e = .returned (.tuple #[v, .int .i64 ((raAns s many).2.1 : Int), .int .i64 (raAns s many).2.2]) ∧ Rws w' w.heap.size v (raAns s many).1 ∧ Below w.heap.size w w' := by
  by_cases hsz : s.size ≤ 2000
  · rcases readU_two (s := s) (a := 0) (Nat.zero_le _) with ⟨x, c, q, h1, x0, x1, hq⟩ | ⟨c, h1⟩
    · by_cases hx : x ≤ 300
      · by_cases hm : 1 ≤ many
        · by_cases hm2 : many ≤ 300
          · obtain ⟨n, rfl⟩ : ∃ n : Nat, x = (n : Int) := ⟨x.toNat, by omega⟩
            obtain ⟨m, rfl⟩ : ∃ m : Nat, many = (m : Int) := ⟨many.toNat, by omega⟩
            exact readRowsAt_many s n q m w hsz hq (by omega) (by omega) (by omega) c (put h1)
          · exact readRowsAt_none s many x q c true w (put (raAns_1 (by omega))) (put ((readU_any s 0 w hsz (Nat.zero_le _)).mono fun e w' h => by rw [h1] at h; exact h)) (.inr (.inr (.inr ⟨rfl, hx, x0, hm, by omega⟩)))
        · exact readRowsAt_none s many x q c true w (put (raAns_1 (by omega))) (put ((readU_any s 0 w hsz (Nat.zero_le _)).mono fun e w' h => by rw [h1] at h; exact h)) (.inr (.inr (.inl ⟨rfl, hx, x0, by omega⟩)))
      · exact readRowsAt_none s many x q c true w (put (raAns_1 (by rw [h1]; simp only; omega))) (put ((readU_any s 0 w hsz (Nat.zero_le _)).mono fun e w' h => by rw [h1] at h; exact h)) (.inr (.inl ⟨rfl, by omega, x1⟩))
    · exact readRowsAt_none s many 0 0 c false w (put (raAns_1 (by rw [h1]; simp))) (put ((readU_any s 0 w hsz (Nat.zero_le _)).mono fun e w' h => by rw [h1] at h; exact h)) (.inl rfl)
  · exact readRowsAt_none s many 0 0 1 false w (put (raAns_1 (by omega))) (put (readU_bad s 0 w hs (.inl (by omega)))) (.inl rfl)

set_option maxHeartbeats 1000000 in
set_option maxRecDepth 100000 in
theorem implReadRows_any (s : ByteArray) (many : Int) (w : World) (hs : s.size ≤ 9223372036854775807) :
    Calls Try.prog 30 #[.string s, .int .i64 many] w fun e w' => ∃ v, e = .returned (.tuple #[v, .int .i64 (readRAns s many).2.1, .bool (readRAns s many).2.2]) ∧ Rws w' w.heap.size v (readRAns s many).1 ∧ Below w.heap.size w w' := by
  have HA := put (readRAns_ra s many)
  have hans : ∃ rs e c, raAns s many = (rs, e, c) := ⟨_, _, _, rfl⟩
  obtain ⟨rs, en, cd, hra⟩ := hans
  have HRA := put hra
  rw [hra] at HA
  clear hra
  go_enter Try.func30, Try.ntmps30
  go_wp2_with fail
  refine (readRowsAt_any s many _ hs).mono ?_
  rw [HRA.out]
  rintro e w1 ⟨v, rfl, hrw, hb1⟩
  simp only at hrw HA
  by_cases hc : cd = 0
  · subst hc
    by_cases he : en < s.size
    · have HF := put (show readRAns s many = ([], 4, false) by have := HA.out; rwa [if_pos rfl, if_pos he] at this)
      have he2 : (en : Int) < (s.size : Int) := by omega
      clear HA
      go_wp2
      go_ret3
      exact ⟨.slice none 0 0, by rw [HF.out]; rfl, by rw [HF.out]; exact Rws.nil _ _, hb1⟩
    · have HF := put (show readRAns s many = (rs, 0, true) by have := HA.out; rwa [if_pos rfl, if_neg he] at this)
      have he2 : ¬ ((en : Int) < (s.size : Int)) := by omega
      clear HA
      go_wp2
      go_ret3
      exact ⟨v, by rw [HF.out]; rfl, by rw [HF.out]; exact hrw, hb1⟩
  · have HF := put (show readRAns s many = ([], cd, false) by have := HA.out; rwa [if_neg hc] at this)
    have hc1 : (cd == 0) = false := beq_of hc
    have hc2 : (cd != 0) = true := by simp [hc]
    clear HA hc
    go_wp2
    go_ret3
    exact ⟨.slice none 0 0, by rw [HF.out]; rfl, by rw [HF.out]; exact Rws.nil _ _, hb1⟩

end Go.Proofs.Ytkfdehmmhgcapaa
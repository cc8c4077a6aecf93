/-
  The contract of the program's ExprText.
-/
import Derived.Test.YtfdijeeilfhjeaaDoorIText
namespace Go.Proofs.YtfdijeeilfhjeaaDoor
open Go.RowKit Exs
set_option linter.unusedVariables false

/-- The library's contract in these words. -/
theorem appendInt_any (B : Nat) (v : Value) (l : List UInt8) (i : Int) (w : World) (h0 : -2147483648 ≤ i) (h1 : i ≤ 2147483647) (hown : Bytes w B v l) (hB : B ≤ w.heap.size) (hl : l.length ≤ 1000000) (hp : Pows B w) :
    Calls Tryd.prog 30 #[v, .int .i64 i, .int .i64 10] w (Put B (l ++ intL i) w) := by
  refine (Tryd.strconv_AppendInt_10 B l.length i (by omega) (by omega) v (Lib.byteCells l) w hown hB (by omega) hp).mono ?_
  rintro e w' ⟨v', rfl, h2, h3, _⟩
  refine ⟨v', rfl, ?_, h3⟩
  unfold Bytes
  rw [itoa_intL] at h2
  simpa [Lib.byteCells] using h2

theorem beq_of' {a b : Int} (h : a ≠ b) : (a == b) = false := by simpa using h
theorem word_op {op : Int} (h0 : 3 ≤ op) (h1 : op ≤ 10) : tokL (op, 0) = wordN op.toNat := by
  have hcs : op = 3 ∨ op = 4 ∨ op = 5 ∨ op = 6 ∨ op = 7 ∨ op = 8 ∨ op = 9 ∨ op = 10 := by omega
  rcases hcs with rfl | rfl | rfl | rfl | rfl | rfl | rfl | rfl <;> rfl

set_option maxHeartbeats 2000000 in
set_option maxRecDepth 100000 in
theorem appendToken_any (B : Nat) (v : Value) (l : List UInt8) (op n : Int) (w : World) (hown : Bytes w B v l) (hB : B ≤ w.heap.size) (hB0 : 0 < B) (hl : l.length ≤ 1000) (ht : tokB op n = true) (hw : Hid (Words w)) (hp : Hid (Pows B w)) :
    Calls Tryd.prog 25 #[v, .agg #[.int .i64 op, .int .i64 n]] w (Put B (l ++ tokL (op, n)) w) := by
  have hg := (tokB_iff _ _).1 ht
  clear ht
  have hc : (op = 1 ∧ -2147483648 ≤ n ∧ n ≤ 2147483647) ∨ (op = 2 ∧ 0 ≤ n ∧ n ≤ 99) ∨ (op = 11 ∧ 0 ≤ n ∧ n ≤ 99) ∨ (3 ≤ op ∧ op ≤ 10 ∧ n = 0) := by omega
  clear hg
  have b0 : Below B w (w.alloc (Obj.cells #[Value.int IntKind.i64 op, Value.int IntKind.i64 n] 38)) := (Below.refl _ _).alloc hB _
  have hsz : (w.alloc (Obj.cells #[Value.int IntKind.i64 op, Value.int IntKind.i64 n] 38)).heap.size = w.heap.size + 1 := by simp
  have hB1 : B ≤ (w.alloc (Obj.cells #[Value.int IntKind.i64 op, Value.int IntKind.i64 n] 38)).heap.size := by omega
  have HB1 := put hB1
  clear hsz hB1
  rcases hc with ⟨rfl, h0, h1⟩ | ⟨rfl, h0, h1⟩ | ⟨rfl, h0, h1⟩ | ⟨h0, h1, rfl⟩
  · go_enter Tryd.func25, Tryd.ntmps25
    go_wp2_with fail
    refine (appendInt_any B v l n _ h0 h1 (hown.alloc _) HB1.out (by omega) (hp.out.on b0)).mono ?_
    rintro e w1 ⟨v1, rfl, hown1, hb1⟩
    go_wp2
    go_ret
    exact ⟨v1, rfl, hown1, b0.trans hb1⟩
  · have hwd := (hw.out.below b0 hB0).at_ 2 (by omega) (l := [118]) rfl
    obtain ⟨m, rfl⟩ := Int.eq_ofNat_of_zero_le h0
    have HT := put (tokL_var m)
    have HI := put (show intL (m : Int) = numL m by rw [intL_pos (by omega), Int.toNat_natCast])
    go_enter Tryd.func25, Tryd.ntmps25
    go_wp2_with (at_builtin; refine wpList_append_text rfl _ _ rfl B v l [118] rfl rfl w b0 HB1.out (hown.alloc _) (by omega) (by simp) ?_)
    intro v1 w1 hown1 hb1 hg1
    have hcell := kept_behind hown hg1
    clear hg1
    go_wp2_with fail
    refine (appendInt_any B v1 (l ++ [118]) m _ (by omega) (by omega) hown1 (by have := hb1.size; omega) (by simp; omega) (hp.out.on hb1)).mono ?_
    rintro e w2 ⟨v2, rfl, hown2, hb2⟩
    rw [HI.out, List.append_assoc, ← HT.out] at hown2
    go_wp2
    go_ret
    exact ⟨v2, rfl, hown2, hb1.trans hb2⟩
  · have hwd := (hw.out.below b0 hB0).at_ 11 (by omega) (l := [102]) rfl
    obtain ⟨m, rfl⟩ := Int.eq_ofNat_of_zero_le h0
    have HT := put (tokL_call m)
    have HI := put (show intL (m : Int) = numL m by rw [intL_pos (by omega), Int.toNat_natCast])
    go_enter Tryd.func25, Tryd.ntmps25
    go_wp2_with (at_builtin; refine wpList_append_text rfl _ _ rfl B v l [102] rfl rfl w b0 HB1.out (hown.alloc _) (by omega) (by simp) ?_)
    intro v1 w1 hown1 hb1 hg1
    have hcell := kept_behind hown hg1
    clear hg1
    go_wp2_with fail
    refine (appendInt_any B v1 (l ++ [102]) m _ (by omega) (by omega) hown1 (by have := hb1.size; omega) (by simp; omega) (hp.out.on hb1)).mono ?_
    rintro e w2 ⟨v2, rfl, hown2, hb2⟩
    rw [HI.out, List.append_assoc, ← HT.out] at hown2
    go_wp2
    go_ret
    exact ⟨v2, rfl, hown2, hb1.trans hb2⟩
  · have hwd := (hw.out.below b0 hB0).at_ op.toNat (by omega) (word_op h0 h1).symm
    obtain ⟨k, rfl⟩ := Int.eq_ofNat_of_zero_le (by omega : 0 ≤ op)
    rw [Int.toNat_natCast] at hwd
    have hlen := tokL_length (op := (k : Int)) (n := 0) ((tokB_iff _ _).2 (by omega))
    generalize tokL ((k : Int), 0) = tk at *
    have e1 : ((k : Int) == 1) = false := beq_of' (by omega)
    have e2 : ((k : Int) == 2) = false := beq_of' (by omega)
    have e3 : ((k : Int) == 11) = false := beq_of' (by omega)
    have k12 : (k : Int) < 12 := by omega
    go_enter Tryd.func25, Tryd.ntmps25
    go_wp2_with (at_builtin; refine wpList_append_text rfl _ _ rfl B v l tk rfl rfl w b0 HB1.out (hown.alloc _) (by omega) (by omega) ?_)
    intro v1 w1 hown1 hb1 _
    go_wp2
    go_ret
    exact ⟨v1, rfl, hown1, hb1⟩

/-- 'append(b, c)', c a byte. -/
theorem wpList_append_byte {w : World} {ops : Array Oper} {rest : List Oper} {o : Oper} {a : Act} {Q : Exit → Act → World → Prop} (hgd : o.guard = none) (s x : Operand)
    (ho : o.op = .call { callee := .builtin .append, args := #[s, x], argTypes := #[48, 48] }) (B : Nat) (v : Value) (l : List UInt8) (hs : a.eval s = v) (w0 : World) (hbel : Below B w0 w) (hB : B ≤ w.heap.size) (hown : Bytes w B v l)
    (g : Nat) (b : UInt8) (hx : a.eval x = .slice (some ⟨g, 0, none⟩) 1 1) (hcell : w.cell? ⟨g, 0, none⟩ = some (.int .u8 b.toNat)) (hlen : l.length ≤ 1000000)
    (h : ∀ v' w', Bytes w' B v' (l ++ [b]) → Below B w0 w' → w.grownBy w' v.ownBlock → wpList Tryd.prog ops Q rest (a.put o.dst v') w') : wpList Tryd.prog ops Q (o :: rest) a w := by
  obtain ⟨i0, hi, hz0, hz1, hz2⟩ := info_parts Tryd.info5
  refine wpList_append_own w hgd s x 48 ho B 5 i0 (.int .u8 0) 1 1 Tryd.underlying48 hi hz0 hz1 hz2 rfl (by decide) v l.length _ hs hown ⟨g, 0, none⟩ 1 1 [.int .u8 b.toNat] hx rfl ?_ ?_ ?_ ?_ hB ?_
  · intro j u hj
    match j, hj with
    | 0, hj => simp at hj; subst hj; simpa [Addr.add] using hcell
  · intro u hu; simp at hu; subst hu; rfl
  · unfold maxLen; omega
  · omega
  · intro v' w' h1 h2 _
    refine h v' w' ?_ (hbel.grown h2 hB fun j hj => (World.ownsRow.lt hown j hj).1) h2
    unfold Bytes
    simpa [Lib.byteCells] using h1

theorem bytes_below {w w' : World} {B : Nat} {v : Value} {l : List UInt8} (h : Bytes w B v l) (hb : Below w.heap.size w w') : Bytes w' B v l := by
  refine ⟨h.1, ?_⟩
  rcases h.2 with h0 | ⟨g, cap, cur, hv, hB, hg, hc, hmx, hs, ht⟩
  · exact .inl h0
  · exact .inr ⟨g, cap, cur, hv, hB, (hb.block g (Array.getElem?_eq_some_iff.1 hg).1).trans hg, hc, hmx, hs, ht⟩

theorem kept_at {w W w' : World} {B : Nat} {v : Value} {l : List UInt8} (hown : Bytes w B v l) (hg : W.grownBy w' v.ownBlock) (hlt : w.heap.size < W.heap.size) : ∀ j, w'.cell? ⟨w.heap.size, j, none⟩ = W.cell? ⟨w.heap.size, j, none⟩ := by
  intro j
  refine World.cell?_of_block (hg.block w.heap.size hlt fun e => ?_)
  have := (World.ownsRow.lt hown _ e.symm).2
  omega

/-- A text made of a row of the call's own. -/
theorem run_text_own (w : World) (B : Nat) (v : Value) (l : List UInt8) (hown : Bytes w B v l) : (convert 48 9 v).run Tryd.prog w = .ok (.string (strB l)) w := by
  rcases hown.2 with ⟨rfl, hn⟩ | ⟨g, cap, cur, rfl, _, hg, hnc, _, hcs, htk⟩
  · obtain rfl : l = [] := List.eq_nil_of_length_eq_zero hn
    rw [run_convert_bytes_nil w 48 5 Tryd.underlying48 Tryd.underlying5 0 0 9 Tryd.underlying9]; rfl
  · refine run_convert_bytes_back w 48 9 5 ⟨g, 0, none⟩ cap l Tryd.underlying48 Tryd.underlying5 Tryd.underlying9 (fun j hj => ?_)
    exact World.ownsRow.cells (g := g) hown rfl j _ (by simp [Lib.byteCells, hj])

set_option maxHeartbeats 1000000 in
set_option maxRecDepth 100000 in
theorem exprText_any (A : Option Addr) (n c : Nat) (ts : List Token) (w : World) (hr : ReadsT w w.heap.size A n ts) (hn : n ≤ 1048576) (h0 : 0 < w.heap.size) (hw : Hid (Words w)) (hp : Hid (Pows w.heap.size w)) :
    Calls Tryd.prog 16 #[.slice A n c] w fun e w' => e = .returned (.tuple #[.string (strB (textAns ts).1), .bool (textAns ts).2]) ∧ Below w.heap.size w w' := by
  have hlen := put hr.1
  by_cases h1 : 1 ≤ n
  · by_cases h12 : n ≤ 12
    · go_enter Tryd.func16, Tryd.ntmps16
      go_wp2
      go_loopw [4, 17] (fun tv i wr => ∃ (k : Nat) (l : List UInt8), k ≤ n ∧ i = .int .i64 k ∧ Bytes wr w.heap.size tv l ∧ l.length ≤ 12 * k ∧ Hid (l = textK ts k) ∧ Hid (toksB (ts.take k) = true) ∧ Below w.heap.size w wr) (fun _ i _ => n - (intOf i).toNat)
      case atStart => exact ⟨0, [], Nat.zero_le _, rfl, Bytes.nil _ _, by simp, rfl, rfl, Below.refl _ _⟩
      case round =>
        obtain ⟨k, l, hk, rfl, hown, hl, htx, ha, hbel⟩ := hrel
        by_cases hlt : k < n
        · obtain ⟨b, off, op, x, rfl, hb, hc1, hc2, hx⟩ := (hr.below hbel).at_ hlt
          have hbs := hbel.size
          cases ht : tokB op x with
          | false =>
            have HF := put (textAns_no (.inl (toksB_no hx.out ht)))
            go_wp2_with fail
            refine (goodToken_any _ _ _).mono ?_
            rintro e w1 ⟨rfl, hb1⟩
            have hbw := (hbel.alloc hbel.size _).trans (hb1.mono (by simp; omega))
            clear hb1 hc1 hc2
            go_wp2
            go_ret2
            exact ⟨ret_text (by rw [HF.out]), hbw⟩
          | true =>
            have HA := put (toksB_more hx.out ha.out ht)
            have hlt2 := tokL_length ht
            by_cases hk0 : k = 0
            · subst hk0
              simp only [Nat.zero_mul, Nat.add_zero] at hc1 hc2
              have HN := put (show l ++ tokL (op, x) = textK ts 1 by rw [textK_one hx.out, htx.out])
              go_wp2_with fail
              refine (goodToken_any _ _ _).mono ?_
              rintro e w1 ⟨rfl, hb1⟩
              have hcell := fun j => hb1.cell (p := ⟨wr.heap.size, j, none⟩) (by simp)
              have hbw := (hbel.alloc hbel.size _).trans (hb1.mono (by simp; omega))
              have hown1 : Bytes w1 w.heap.size _ l := bytes_below (hown.alloc _) hb1
              clear hb1 hc1 hc2
              go_wp2_with fail
              refine (appendToken_any w.heap.size _ l op x _ hown1 hbw.size h0 (by omega) ht (put (hw.out.below hbw h0)) (put (hp.out.on hbw))).mono ?_
              rintro e w2 ⟨v2, rfl, hown2, hb2⟩
              go_wp2
              go_roundw
              case rel => exact ⟨1, l ++ tokL (op, x), by omega, rfl, hown2, by simp; omega, HN, HA, hbw.trans hb2⟩
              case measure => simp [intOf]; omega
            · have hk1 : 0 < k := by omega
              have HN := put (show l ++ [32] ++ tokL (op, x) = textK ts (k + 1) by rw [textK_more hx.out hk1, htx.out])
              go_wp2_with fail
              refine (goodToken_any _ _ _).mono ?_
              rintro e w1 ⟨rfl, hb1⟩
              have hcell := fun j => hb1.cell (p := ⟨wr.heap.size, j, none⟩) (by simp)
              have hbw := (hbel.alloc hbel.size _).trans (hb1.mono (by simp; omega))
              have hown1 : Bytes w1 w.heap.size _ l := bytes_below (hown.alloc _) hb1
              have hs1 : wr.heap.size < w1.heap.size := by have := hb1.size; simp at this; omega
              have hbws := hbw.size
              clear hb1 hc1 hc2
              go_wp2_with (at_builtin; refine wpList_append_byte rfl _ _ rfl w.heap.size _ l rfl w (hbw.alloc hbw.size _) (by simp; omega) (hown1.alloc _) w1.heap.size 32 rfl (by simp) (by omega) ?_)
              intro v2 w2 hown2 hb2 hg2
              have hcell2 := kept_at hown hg2 (by simp; omega)
              clear hg2
              go_wp2_with fail
              refine (appendToken_any w.heap.size _ (l ++ [32]) op x _ hown2 hb2.size h0 (by simp; omega) ht (put (hw.out.below hb2 h0)) (put (hp.out.on hb2))).mono ?_
              rintro e w3 ⟨v3, rfl, hown3, hb3⟩
              go_wp2
              go_roundw
              case rel => exact ⟨k + 1, l ++ [32] ++ tokL (op, x), by omega, by go_num, hown3, by simp; omega, HN, HA, hb2.trans hb3⟩
              case measure => simp [intOf]; omega
        · have HT := put (htx.out.trans (textK_all (by rw [hr.1]; omega)))
          have HF := put (textAns_yes (ts := ts) (by have h5 := ha.out; rw [List.take_of_length_le (by rw [hr.1]; omega)] at h5; exact h5) ((within_iff _ _ _).2 (by rw [hlen.out]; omega)))
          have hcv := run_text_own _ _ _ _ hown
          go_wp2
          go_ret2
          exact ⟨ret_text (by rw [HF.out, HT.out]), hbel⟩
    · have HF := put (textAns_no (ts := ts) (.inr (by rw [Bool.eq_false_iff]; intro h; have := (within_iff _ _ _).1 h; rw [hlen.out] at this; omega)))
      have h12' : 12 < n := by omega
      go_enter Tryd.func16, Tryd.ntmps16
      go_wp2
      go_ret2
      exact ⟨ret_text (by rw [HF.out]), Below.refl _ _⟩
  · have HF := put (textAns_no (ts := ts) (.inr (by rw [Bool.eq_false_iff]; intro h; have := (within_iff _ _ _).1 h; rw [hlen.out] at this; omega)))
    have h1' : n < 1 := by omega
    go_enter Tryd.func16, Tryd.ntmps16
    go_wp2
    go_ret2
    exact ⟨ret_text (by rw [HF.out]), Below.refl _ _⟩

end Go.Proofs.YtfdijeeilfhjeaaDoor

/-
  The contract of the program's OutcomeText.
-/
import Derived.Test.YtnpmokkifffihaaDoorOText3
namespace Go.Proofs.YtnpmokkifffihaaDoor
open Go.RowKit Exs
set_option linter.unusedVariables false

set_option maxHeartbeats 1000000 in
set_option maxRecDepth 100000 in
/-- Where it tells no text. -/
theorem outcomeText_no (o : Oc) (A : Option Addr) (n c : Nat) (w : World) (hr : Reads w w.heap.size .i64 A n o.trace) (hn : n ≤ 1048576) (hno : ocOk o = false) :
    Calls Tryd.prog 7 #[ocV o A n c] w fun e w' => e = .returned (.tuple #[.string (strB []), .bool false]) ∧ Below w.heap.size w w' := by
  have hb0 : Below w.heap.size w (w.alloc (.cells #[.int .i64 o.code, .int .i64 o.value, .slice A n c, .int .i64 o.used] 28)) := (Below.refl _ _).alloc (Nat.le_refl _) _
  have hl := put hr.1
  unfold ocV
  by_cases h1 : o.code < 1
  · go_enter Tryd.func7, Tryd.ntmps7
    go_wp2
    go_ret2
    exact ⟨rfl, hb0⟩
  by_cases h2 : 5 < o.code
  · go_enter Tryd.func7, Tryd.ntmps7
    go_wp2
    go_ret2
    exact ⟨rfl, hb0⟩
  by_cases h3 : (600 : Int) < n
  · go_enter Tryd.func7, Tryd.ntmps7
    go_wp2
    go_ret2
    exact ⟨rfl, hb0⟩
  cases h4 : bound o.value with
  | false =>
    go_enter Tryd.func7, Tryd.ntmps7
    go_wp2_with fail
    refine (inBounds_any _ _).mono ?_
    rintro e w1 ⟨rfl, rfl⟩
    go_wp2
    go_ret2
    exact ⟨rfl, hb0⟩
  | true =>
    cases h5 : bound o.used with
    | false =>
      go_enter Tryd.func7, Tryd.ntmps7
      go_wp2_with fail
      refine (inBounds_any _ _).mono ?_
      rintro e w1 ⟨rfl, rfl⟩
      go_wp2_with fail
      refine (inBounds_any _ _).mono ?_
      rintro e w1 ⟨rfl, rfl⟩
      go_wp2
      go_ret2
      exact ⟨rfl, hb0⟩
    | true =>
      have h6 : o.trace.all bound = false := by
        have hlen : o.trace.length ≤ 600 := by rw [hl.out]; omega
        have hw : within o.code 1 5 = true := (within_iff _ _ _).2 (by omega)
        simpa [ocOk, h4, h5, hlen, hw] using hno
      clear hno
      go_enter Tryd.func7, Tryd.ntmps7
      go_wp2_with fail
      refine (inBounds_any _ _).mono ?_
      rintro e w1 ⟨rfl, rfl⟩
      go_wp2_with fail
      refine (inBounds_any _ _).mono ?_
      rintro e w1 ⟨rfl, rfl⟩
      go_wp2_with fail
      refine (allInBounds_any A n c o.trace _ (hr.now hb0) hn).mono ?_
      rintro e w1 ⟨rfl, rfl⟩
      go_wp2
      go_ret2
      exact ⟨rfl, hb0⟩

set_option maxHeartbeats 2000000 in
set_option maxRecDepth 100000 in
/-- Where it tells one. -/
theorem outcomeText_yes (o : Oc) (A : Option Addr) (n c : Nat) (w : World) (hr : Reads w w.heap.size .i64 A n o.trace) (hok : ocOk o = true) (h0 : 0 < w.heap.size) (hw : Hid (OWords w)) (hp : Hid (Pows w.heap.size w)) :
    Calls Tryd.prog 7 #[ocV o A n c] w fun e w' => e = .returned (.tuple #[.string (strB (ocText o)), .bool true]) ∧ Below w.heap.size w w' := by
  have hb0 : Below w.heap.size w (w.alloc (.cells #[.int .i64 o.code, .int .i64 o.value, .slice A n c, .int .i64 o.used] 28)) := (Below.refl _ _).alloc (Nat.le_refl _) _
  have k0 := Keep.new w #[.int .i64 o.code, .int .i64 o.value, .slice A n c, .int .i64 o.used] 28
  simp only [ocOk, Bool.and_eq_true, decide_eq_true_eq] at hok
  obtain ⟨h1, h2, h3, h4, h5⟩ := hok
  have hl := hr.1
  rw [hl] at h2
  have H3 := put h3
  have hhl := headL_length h4
  have hH := put (show headL o = ocW o.code.toNat ++ [32] ++ intL o.value ++ [58] from rfl)
  have hv := (bound_iff _).1 h4
  have hil := intL_length hv.1 hv.2
  obtain ⟨hv0, hv1⟩ := hv
  have hc5 := (within_iff _ _ _).1 h1
  clear h1 hl
  unfold ocV
  obtain ⟨k, hk⟩ : ∃ k : Nat, o.code = k := ⟨o.code.toNat, by omega⟩
  rw [hk] at hb0 k0 hH ⊢
  rw [Int.toNat_natCast] at hH
  have hkn : k < 6 := by omega
  have hk0 : (k : Int) < 6 := by omega
  have hk1 : (0 : Int) ≤ k := by omega
  have e1 : ¬ (k : Int) < 1 := by omega
  have e2 : ¬ (5 : Int) < k := by omega
  have e3 : ¬ (600 : Int) < n := by omega
  clear hc5 hk
  have hwl := ocW_length k
  have hwd : (w.alloc (.cells #[.int .i64 k, .int .i64 o.value, .slice A n c, .int .i64 o.used] 28)).cell? ⟨0, k, none⟩ = some (.string (strB (ocW k))) := (hw.out.below hb0 h0) k hkn
  have hconv : ∀ W : World, (convert 9 39 (.string (strB (ocW k)))).run Tryd.prog W = .ok (.slice (some ⟨W.heap.size, 0, none⟩) (strB (ocW k)).size (grownCap W (strB (ocW k)).size 0 5)) (Lib.bytesWorld W 5 (strB (ocW k))) := fun W => Lib.run_convert_string_bytes W 9 39 5 (strB (ocW k)) Tryd.underlying9 Tryd.underlying39 Tryd.underlying5
  have hp0 : Pows (w.alloc (.cells #[.int .i64 k, .int .i64 o.value, .slice A n c, .int .i64 o.used] 28)).heap.size (w.alloc (.cells #[.int .i64 k, .int .i64 o.value, .slice A n c, .int .i64 o.used] 28)) := Lib.tabBelow_of_tabIs (hp.out _ hb0)
  have HP := put hp0
  have R0 := put (hr.now hb0)
  clear hp0 hp hw hr
  go_enter Tryd.func7, Tryd.ntmps7
  go_wp2_with fail
  generalize hW : w.alloc (.cells #[.int .i64 k, .int .i64 o.value, .slice A n c, .int .i64 o.used] 28) = W0 at hb0 k0 hwd HP R0 ⊢
  clear hW
  have y0 := k0.cell 0
  have y1 := k0.cell 1
  have y2 := k0.cell 2
  have y3 := k0.cell 3
  simp at y0 y1 y2 y3
  refine (inBounds_any _ _).mono ?_
  rintro e w1 ⟨rfl, rfl⟩
  go_wp2_with fail
  refine (inBounds_any _ _).mono ?_
  rintro e w1 ⟨rfl, rfl⟩
  go_wp2_with fail
  refine (allInBounds_any A n c o.trace _ R0.out (by omega)).mono ?_
  rintro e w1 ⟨rfl, rfl⟩
  have g0 := BytesG.conv W0 (ocW k) (by omega)
  have hB1 : Below W0.heap.size W0 (Lib.bytesWorld W0 5 (strB (ocW k))) := ⟨rfl, rfl, rfl, by rw [Lib.bytesWorld_size]; omega, fun j hj => Lib.bytesWorld_at_old W0 5 (strB (ocW k)) j hj⟩
  have b1 : Below W0.heap.size W0 ((Lib.bytesWorld W0 5 (strB (ocW k))).alloc (Obj.cells #[Value.int IntKind.u8 32] 5)) := hB1.alloc hB1.size _
  have B1 := put b1.size
  go_wp2_with (at_builtin; refine wpList_appendG rfl _ _ rfl W0.heap.size _ (ocW k) rfl W0 b1 B1.out (g0.alloc _) (Lib.bytesWorld W0 5 (strB (ocW k))).heap.size 1 1 [32] rfl rfl (by simp) ?c1 (by omega) ?_)
  case c1 =>
    intro j u' hj
    match j, hj with
    | 0, hj => simp [Lib.byteCells] at hj; subst hj; simp [Addr.add]
  intro v2 w2 g2 b2 _
  clear g0 hB1 b1 B1 hconv hwd
  have k2 := k0.below b2
  have z1 := k2.cell 1
  simp at z1
  clear y0 y1 y2 y3
  go_wp2_with fail
  refine (appendInt_G W0.heap.size v2 (ocW k ++ [32]) o.value w2 hv0 hv1 g2 b2.size (by simp; omega) (HP.out.on b2)).mono ?_
  rintro e w3 ⟨v3, rfl, g3, hb3⟩
  have b3 := b2.trans hb3
  clear g2 b2 hb3 z1 k2
  have b3a : Below W0.heap.size W0 (w3.alloc (Obj.cells #[Value.int IntKind.u8 58] 5)) := b3.alloc b3.size _
  have B3 := put b3a.size
  go_wp2_with (at_builtin; refine wpList_appendG rfl _ _ rfl W0.heap.size v3 (ocW k ++ [32] ++ intL o.value) rfl W0 b3a B3.out (g3.alloc _) w3.heap.size 1 1 [58] rfl rfl (by simp) ?c2 (by simp; omega) ?_)
  case c2 =>
    intro j u' hj
    match j, hj with
    | 0, hj => simp [Lib.byteCells] at hj; subst hj; simp [Addr.add]
  intro v4 w4 g4 b4 _
  replace g4 : BytesG w4 W0.heap.size v4 (headL o) := by rw [hH.out]; simpa using g4
  clear g3 b3 b3a B3
  have k4 := k0.below b4
  have z2 := k4.cell 2
  simp at z2
  clear k4 k0
  go_wp2
  go_loopw [4, 54] (fun tv i wr => ∃ (q : Nat) (l : List UInt8), q ≤ n ∧ i = .int .i64 q ∧ BytesG wr W0.heap.size tv l ∧ l.length ≤ 18 + 12 * q ∧ Hid (l = headL o ++ tellL (o.trace.take q)) ∧ Below W0.heap.size W0 wr) (fun _ i _ => n - (intOf i).toNat)
  case atStart => exact ⟨0, headL o, Nat.zero_le _, rfl, g4, by omega, put (by simp [tellL]), b4⟩
  case round =>
    obtain ⟨q, l, hq, rfl, hown, hlq, htx, hbel⟩ := hrel
    by_cases hlt : q < n
    · obtain ⟨b, off, x, rfl, hb, hc, hx⟩ := (R0.out.below hbel).at_ hlt
      have hxb := (bound_iff x).1 (List.all_eq_true.1 H3.out x (List.mem_of_getElem? hx.out))
      obtain ⟨hx0, hx1⟩ := hxb
      have hs3 : (intL x).length ≤ 11 := intL_length hx0 hx1
      have HN := put (show l ++ [32] ++ intL x = headL o ++ tellL (o.trace.take (q + 1)) by rw [tellL_more hx.out, htx.out]; simp)
      have ba : Below W0.heap.size W0 (wr.alloc (Obj.cells #[Value.int IntKind.u8 32] 5)) := hbel.alloc hbel.size _
      have BA := put ba.size
      go_wp2_with (at_builtin; refine wpList_appendG rfl _ _ rfl W0.heap.size _ l rfl W0 ba BA.out (hown.alloc _) wr.heap.size 1 1 [32] rfl rfl (by simp) ?c3 (by omega) ?_)
      case c3 =>
        intro j u' hj
        match j, hj with
        | 0, hj => simp [Lib.byteCells] at hj; subst hj; simp [Addr.add]
      intro v5 w5 g5 b5 _
      clear ba BA hown hbel hc
      go_wp2_with fail
      refine (appendInt_G W0.heap.size v5 (l ++ [32]) x w5 hx0 hx1 g5 b5.size (by simp; omega) (HP.out.on b5)).mono ?_
      rintro e w6 ⟨v6, rfl, g6, hb6⟩
      have b6 := b5.trans hb6
      clear g5 b5 hb6
      go_wp2
      go_roundw
      case rel => exact ⟨q + 1, l ++ [32] ++ intL x, by omega, by go_num, g6, by simp; omega, HN, b6⟩
      case measure => simp [intOf]; omega
    · have HT := put (show headL o ++ tellL (o.trace.take q) = ocText o by rw [List.take_of_length_le (by rw [R0.out.1]; omega)]; rfl)
      have hcv := run_textG _ _ _ _ hown
      have hbz := hb0.trans (hbel.mono hb0.size)
      go_wp2
      go_ret2
      exact ⟨ret_text (by rw [htx.out, HT.out]), hbz⟩

theorem outcomeText_any (o : Oc) (A : Option Addr) (n c : Nat) (w : World) (hr : Reads w w.heap.size .i64 A n o.trace) (hn : n ≤ 1048576) (h0 : 0 < w.heap.size) (hw : Hid (OWords w)) (hp : Hid (Pows w.heap.size w)) :
    Calls Tryd.prog 7 #[ocV o A n c] w fun e w' => e = .returned (.tuple #[.string (strB (ocAns o).1), .bool (ocAns o).2]) ∧ Below w.heap.size w w' := by
  cases h : ocOk o with
  | false => simpa [ocAns, h] using outcomeText_no o A n c w hr hn h
  | true => simpa [ocAns, h] using outcomeText_yes o A n c w hr h h0 hw hp

end Go.Proofs.YtnpmokkifffihaaDoor

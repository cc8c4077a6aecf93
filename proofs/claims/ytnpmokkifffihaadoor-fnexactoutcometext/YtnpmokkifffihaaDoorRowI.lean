/-
  Decimal digits appended to such a row: the library's AppendUint and AppendInt.
-/
import Derived.Test.YtnpmokkifffihaaDoorRowG
import Derived.Test.YtnpmokkifffihaaDoorSNum
namespace Go.Proofs.YtnpmokkifffihaaDoor
open Go.RowKit Exs

/-- 'append(b, c...)', c bytes in a row. -/
theorem wpList_appendG {w : World} {ops : Array Oper} {rest : List Oper} {o : Oper} {a : Act} {Q : Exit → Act → World → Prop} (hgd : o.guard = none) (s x : Operand)
    (ho : o.op = .call { callee := .builtin .append, args := #[s, x], argTypes := #[39, 39] }) (B : Nat) (v : Value) (l : List UInt8) (hs : a.eval s = v) (w0 : World) (hbel : Below B w0 w) (hB : B ≤ w.heap.size) (hown : BytesG w B v l)
    (g m c : Nat) (t : List UInt8) (hx : a.eval x = .slice (some ⟨g, 0, none⟩) m c) (hm : t.length = m) (ht : t ≠ []) (hnews : ∀ j u, (Lib.byteCells t)[j]? = some u → w.cell? ((⟨g, 0, none⟩ : Addr).add j) = some u) (hlen : l.length + m ≤ 1000000)
    (h : ∀ v' w', BytesG w' B v' (l ++ t) → Below B w0 w' → w.grownBy w' v.ownBlock → wpList Tryd.prog ops Q rest (a.put o.dst v') w') : wpList Tryd.prog ops Q (o :: rest) a w := by
  refine wpList_plain hgd fun K hK => ?_
  obtain ⟨v', w', hr, h2, h3⟩ := run_appendG w B v l hown hB ⟨g, 0, none⟩ m c t hm ht hnews hlen o.type
  unfold Oper.wp execOp
  simp only [ho, resolve, invoke, builtin, Sem.run_bind, Sem.run_pure, Result.andThen_ok, List.map_toArray, List.map_cons, List.map_nil, hs, hx, hr]
  exact hK _ _ (h v' w' h2 (hbel.grown h3 hB fun j hj => (hown.lt j hj).1) h3)
/-- 'append(b, s...)', s a text. -/
theorem wpList_appendG_text {w : World} {ops : Array Oper} {rest : List Oper} {o : Oper} {a : Act} {Q : Exit → Act → World → Prop} (hgd : o.guard = none) (s x : Operand)
    (ho : o.op = .call { callee := .builtin .append, args := #[s, x], argTypes := #[39, 9] }) (B : Nat) (v : Value) (l : List UInt8) (hs : a.eval s = v) (w0 : World) (hbel : Below B w0 w) (hB : B ≤ w.heap.size) (hown : BytesG w B v l)
    (t : List UInt8) (hx : a.eval x = .string (strB t)) (ht : t ≠ []) (hlen : l.length + t.length ≤ 1000000)
    (h : ∀ v' w', BytesG w' B v' (l ++ t) → Below B w0 w' → wpList Tryd.prog ops Q rest (a.put o.dst v') w') : wpList Tryd.prog ops Q (o :: rest) a w := by
  refine wpList_plain hgd fun K hK => ?_
  obtain ⟨v', w', hr, h2, h3⟩ := run_appendG_text w B v l hown hB t ht hlen o.type
  unfold Oper.wp execOp
  simp only [ho, resolve, invoke, builtin, Sem.run_bind, Sem.run_pure, Result.andThen_ok, List.map_toArray, List.map_cons, List.map_nil, hs, hx, hr]
  exact hK _ _ (h v' w' h2 (hbel.grown h3 hB fun j hj => (hown.lt j hj).1))

/-- What an append of bytes leaves. -/
def PutG (B : Nat) (l : List UInt8) (w : World) (e : Ending) (w' : World) : Prop := ∃ v', e = .returned v' ∧ BytesG w' B v' l ∧ Below B w w'
theorem dec_ne (u : Nat) : Lib.decDigits u ≠ [] := by
  rw [Lib.decDigits]
  split <;> simp
theorem dec_len {u : Nat} (h : u < 18446744073709551616) : (Lib.decDigits u).length ≤ 20 := by
  rw [Lib.decDigits_length]
  by_cases h1 : 1 ≤ u
  · have := Lib.numDigits_eq u h1 h
    split at this <;> omega
  · obtain rfl : u = 0 := by omega
    rw [Lib.nDigits_small (by omega)]
    omega

set_option maxHeartbeats 1000000 in
set_option maxRecDepth 100000 in
theorem appendUint_small (B : Nat) (v : Value) (l : List UInt8) (u : Nat) (w : World) (hu : u < 100) (hown : BytesG w B v l) (hB : B ≤ w.heap.size) (hl : l.length ≤ 900000) :
    Calls Tryd.prog 23 #[v, .int .u64 u, .int .i64 10] w (PutG B (l ++ Lib.decDigits u) w) := by
  have hd := dec_len (u := u) (by omega)
  have hu' : (u : Int) < 100 := by omega
  have HO := put hown
  go_enter Tryd.func23, Tryd.ntmps23
  go_wp2_with (first
    | (go_at_call 24; refine (Tryd.internal_strconv_small u hu _).mono ?_; rintro e w' ⟨rfl, rfl⟩)
    | (at_builtin; refine wpList_appendG_text rfl _ _ rfl B v l rfl _ (Below.refl _ _) hB HO.out (Lib.decDigits u) rfl (dec_ne u) (by omega) ?_))
  intro v' w1 h1 h2
  go_wp2
  go_ret
  exact ⟨v', rfl, h1, h2⟩


set_option maxHeartbeats 2000000 in
set_option maxRecDepth 100000 in
theorem appendUint_big (B : Nat) (v : Value) (l : List UInt8) (u : Nat) (w : World) (hu : 100 ≤ u) (hu64 : u < 18446744073709551616) (hown : BytesG w B v l) (hB : B ≤ w.heap.size) (hl : l.length ≤ 900000) (htab : Lib.TabIs Tryd.prog w "internal/strconv.uint64pow10" .u64 Lib.pow10Tab) :
    Calls Tryd.prog 23 #[v, .int .u64 u, .int .i64 10] w (PutG B (l ++ Lib.decDigits u) w) := by
  have hd := dec_len hu64
  have hdl := Lib.decDigits_length u
  have hu1 : 1 ≤ u := by omega
  have hal : Tryd.prog.arrayLen 48 = 24 := by simp [Program.arrayLen, Tryd.underlying48]
  have hcut : ∀ W, (Instr.sliceAt 48 (.pointer (some ⟨w.heap.size, 0, none⟩)) none (some (.int .i64 (Lib.nDigits u : Int))) none).run Tryd.prog W = .ok (.slice (some ⟨w.heap.size, 0, none⟩) (Lib.nDigits u) 24) W := fun W => by
    rw [run_sliceAt_array_h W 48 ⟨w.heap.size, 0, none⟩ (by simp [Program.arrayLen, Program.elem, Tryd.underlying48]) .i64 (Lib.nDigits u : Int) (by omega) (by rw [hal]; omega)]
    go_simp
  have hz := Lib.holds_zero0 w 48 (Lib.nDigits u) (by omega)
  have hfmt := Tryd.internal_strconv_formatBase10 w.heap.size 0 24 u (Array.replicate (Lib.nDigits u) 0) (w.alloc (.cells Lib.zeros24 48)) hz (by rw [Array.size_replicate]; exact Lib.lt_pow_nDigits u) hu64 (by rw [Array.size_replicate]; omega)
  rw [Array.size_replicate] at hfmt
  have HZ := put hz
  have iu : ¬ (u : Int) < 100 := by omega
  have HO := put hown
  clear hz hal hown
  go_enter Tryd.func23, Tryd.ntmps23
  go_wp2_with (go_at_call 25; refine (Tryd.internal_strconv_numDigits u hu1 hu64 _ (Lib.tabIs_alloc htab _)).mono ?_; rintro e w' ⟨rfl, rfl⟩)
  go_at_call 26
  refine hfmt.mono ?_
  rintro e w' ⟨rfl, k, v', dk, rfl, hF⟩
  have hcells : ∀ j u', (Lib.byteCells (Lib.decDigits u))[j]? = some u' → ((Sort.putRow (fun (b : UInt8) => Value.int .u8 (b.toNat : Int)) (w.alloc (.cells Lib.zeros24 48)) w.heap.size 0 dk).drewN k).cell? ((⟨w.heap.size, 0, none⟩ : Addr).add j) = some u' := by
    intro j u' hj
    have hjl : j < (Lib.decDigits u).length := by rw [← byteCells_len]; exact (List.getElem?_eq_some_iff.1 hj).1
    have e5 : (Lib.byteCells (Lib.decDigits u))[j]? = some (Value.int .u8 ((Lib.decDigits u)[j].toNat : Int)) := by simp [Lib.byteCells, hjl]
    rw [e5] at hj
    cases hj
    rw [Lib.row_is_numeral hF j hjl, Lib.add_plain, World.cell?_drewN]
    exact Sort.cell?_putRow (fun (b : UInt8) => Value.int .u8 (b.toNat : Int)) _ w.heap.size 0 _ dk HZ.out (by rw [hF.size, Array.size_replicate]) j (by rw [hF.size, ← hdl]; exact hjl)
  obtain ⟨os, eo⟩ := Lib.fin_at w (.cells Lib.zeros24 48) dk k 0
  have hbel : Below w.heap.size w ((Sort.putRow (fun (b : UInt8) => Value.int .u8 (b.toNat : Int)) (w.alloc (.cells Lib.zeros24 48)) w.heap.size 0 dk).drewN k) := by rw [eo]; exact Lib.below_grow w.heap.size w (Nat.le_refl _) k os
  generalize (Sort.putRow (fun (b : UInt8) => Value.int .u8 (b.toNat : Int)) (w.alloc (.cells Lib.zeros24 48)) w.heap.size 0 dk).drewN k = W2 at hcells hbel ⊢
  clear eo HZ hfmt hF
  have hown2 := HO.out.below hbel
  have hbB := hbel.mono hB
  have hz2 := hbel.size
  go_wp2_with (at_builtin; refine wpList_appendG rfl _ _ rfl B v l rfl w hbB (by omega) hown2 w.heap.size (Lib.nDigits u) 24 (Lib.decDigits u) rfl hdl (dec_ne u) hcells (by omega) ?_)
  intro v2 w3 h1 h2 _
  go_wp2
  go_ret
  exact ⟨v2, rfl, h1, h2⟩

theorem appendUint_G (B : Nat) (v : Value) (l : List UInt8) (u : Nat) (w : World) (hu64 : u < 18446744073709551616) (hown : BytesG w B v l) (hB : B ≤ w.heap.size) (hl : l.length ≤ 900000) (htab : Lib.TabIs Tryd.prog w "internal/strconv.uint64pow10" .u64 Lib.pow10Tab) :
    Calls Tryd.prog 23 #[v, .int .u64 u, .int .i64 10] w (PutG B (l ++ numL u) w) := by
  rw [← decDigits_numL]
  by_cases h : u < 100
  · exact appendUint_small B v l u w h hown hB hl
  · exact appendUint_big B v l u w (by omega) hu64 hown hB hl htab

set_option maxHeartbeats 2000000 in
set_option maxRecDepth 100000 in
/-- The library's AppendInt, base ten. -/
theorem appendInt_G0 (B : Nat) (v : Value) (l : List UInt8) (i : Int) (w : World) (h0 : -2147483648 ≤ i) (h1 : i ≤ 2147483647) (hown : BytesG w B v l) (hB : B ≤ w.heap.size) (hl : l.length ≤ 800000) (hp : Pows B w) :
    Calls Tryd.prog 21 #[v, .int .i64 i, .int .i64 10] w (PutG B (l ++ intL i) w) := by
  by_cases hneg : i < 0
  · obtain ⟨u, rfl⟩ : ∃ u : Nat, i = -(u : Int) := ⟨(-i).toNat, by omega⟩
    have hwr : IntKind.u64.wrap (-IntKind.u64.wrap (-(u : Int))) = (u : Int) := by rw [IntKind.wrap_u64, IntKind.wrap_u64]; omega
    have HI := put (show intL (-(u : Int)) = [45] ++ numL u by rw [intL_neg hneg]; simp)
    have HO := put hown
    have HP := put hp
    have bA : Below B w (w.alloc (Obj.cells #[Value.int IntKind.u8 45] 5)) := (Below.refl _ _).alloc hB _
    have hsA : (w.alloc (Obj.cells #[Value.int IntKind.u8 45] 5)).heap.size = w.heap.size + 1 := by simp
    have HB := put (show B ≤ (w.alloc (Obj.cells #[Value.int IntKind.u8 45] 5)).heap.size by omega)
    clear hown hp hsA
    go_enter Tryd.func21, Tryd.ntmps21
    go_wp2_with (at_builtin; refine wpList_appendG rfl _ _ rfl B v l rfl w bA HB.out (HO.out.alloc _) w.heap.size 1 1 [45] rfl rfl (by simp) ?c (by simp; omega) ?_)
    case c =>
      intro j u' hj
      match j, hj with
      | 0, hj => simp [Lib.byteCells] at hj; subst hj; simp [Addr.add]
    intro v1 w1 g1 g2 _
    have hz1 := g2.size
    go_wp2_with fail
    refine (appendUint_G B v1 (l ++ [45]) u w1 (by omega) g1 (by omega) (by simp; omega) (HP.out w1 g2)).mono ?_
    rintro e w2 ⟨v2, rfl, g3, g4⟩
    rw [List.append_assoc, ← HI.out] at g3
    go_wp2
    go_ret
    exact ⟨v2, rfl, g3, g2.trans g4⟩
  · obtain ⟨u, rfl⟩ : ∃ u : Nat, i = u := ⟨i.toNat, by omega⟩
    have HI := put (show intL (u : Int) = numL u by rw [intL_pos hneg, Int.toNat_natCast])
    have hwr : IntKind.u64.wrap (u : Int) = (u : Int) := by rw [IntKind.wrap_u64]; omega
    have HO := put hown
    have HP := put hp
    clear hown hp
    go_enter Tryd.func21, Tryd.ntmps21
    go_wp2_with fail
    refine (appendUint_G B v l u w (by omega) HO.out hB (by omega) HP.out.here).mono ?_
    rintro e w2 ⟨v2, rfl, g3, g4⟩
    rw [← HI.out] at g3
    go_wp2
    go_ret
    exact ⟨v2, rfl, g3, g4⟩
set_option maxHeartbeats 2000000 in
set_option maxRecDepth 100000 in
theorem appendInt_G (B : Nat) (v : Value) (l : List UInt8) (i : Int) (w : World) (h0 : -2147483648 ≤ i) (h1 : i ≤ 2147483647) (hown : BytesG w B v l) (hB : B ≤ w.heap.size) (hl : l.length ≤ 800000) (hp : Pows B w) :
    Calls Tryd.prog 17 #[v, .int .i64 i, .int .i64 10] w (PutG B (l ++ intL i) w) := by
  have hc := appendInt_G0 B v l i w h0 h1 hown hB hl hp
  clear hown hp
  go_enter Tryd.func17, Tryd.ntmps17
  go_wp2_with fail
  refine hc.mono ?_
  rintro e w2 ⟨v2, rfl, g3, g4⟩
  go_wp2
  go_ret
  exact ⟨v2, rfl, g3, g4⟩

end Go.Proofs.YtnpmokkifffihaaDoor

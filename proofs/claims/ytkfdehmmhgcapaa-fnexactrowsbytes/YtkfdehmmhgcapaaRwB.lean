/-
  RowsBytes of both sides.
-/
import Derived.Test.YtkfdehmmhgcapaaRwK
import Derived.Test.YtkfdehmmhgcapaaBld
import Derived.Test.YtkfdehmmhgcapaaRwN
namespace Go.Proofs.Ytkfdehmmhgcapaa
open Go.RowKit Exs Leb

theorem strOfNums_append (a b : List Int) : strOfNums (a ++ b) = strOfNums a ++ strOfNums b := by
  apply ByteArray.ext
  simp [strOfNums]
theorem bytesAns_bad {many : Int} {rs : List Row3} (h : goodB many rs = false) : bytesAns many rs = ([], false) := by simp [bytesAns, h]
theorem bytesAns_ok {many : Int} {rs : List Row3} (h : goodB many rs = true) : bytesAns many rs = (bytesR rs, true) := by simp [bytesAns, h]
/-- The numbers of a row's piece, as the walks reckon them. -/
theorem piece_parts {many : Nat} {rs : List Row3} {k : Nat} {x y z : Int} (hm : many ≤ 300) (hro : rowsF many 0 rs = true) (h : rs[k]? = some (x, y, z)) :
    ∃ (a : Int) (m1 m2 : Nat) (d : Int), lastTo 0 (rs.take k) = a ∧ lastTo 0 (rs.take (k + 1)) = y ∧ 0 ≤ a ∧ a ≤ 300 ∧ x - a = m1 ∧ y - x = m2 ∧ z - y = d ∧ 0 ≤ x ∧ x ≤ 300 ∧ 0 ≤ y ∧ y ≤ 300 ∧ 0 ≤ z ∧ z ≤ 300 ∧ m1 ≤ 300 ∧ m2 ≤ 300 ∧ -300 ≤ d ∧ d ≤ 300 ∧ pieceR (lastTo 0 (rs.take k)) (x, y, z) = putU m1 ++ putU m2 ++ putS d := by
  have hb := rowB_iff.1 (rowsF_at hro h)
  have h0 := lastTo_bounds (rowsF_take hro k) (by omega)
  simp only at hb
  refine ⟨_, (x - lastTo 0 (rs.take k)).toNat, (y - x).toNat, z - y, rfl, by rw [takeA_more h, lastTo_snoc], h0.1, by omega, by omega, by omega, rfl, by omega, by omega, by omega, by omega, by omega, by omega, by omega, by omega, by omega, by omega, rfl⟩

set_option maxHeartbeats 4000000 in
set_option maxRecDepth 100000 in
theorem l7Bytes_any (A : Option Addr) (n c : Nat) (rs : List Row3) (many : Nat) (w : World) (hr : ReadsR w w.heap.size A n rs) (hn : n ≤ 300) (hm : many ≤ 300) (hro : rowsF many 0 rs = true) :
    Calls Try.prog 47 #[.slice A n c] w fun e w' => e = .returned (.string (strOfNums (bytesR rs))) ∧ Below w.heap.size w w' := by
  have HLN := put hr.1
  have HRO := put hro
  clear hro
  go_enter Try.func47, Try.ntmps47
  go_wp2_with fail
  refine (specPutU_any n _ (by omega)).mono ?_
  rintro e w1 ⟨rfl, hb1⟩
  go_wp2
  go_loopw [3, 4, 13] (fun s u i wr => ∃ (k : Nat) (ys : List Int), k ≤ n ∧ i = .int .i64 k ∧ u = .int .i64 (lastTo 0 (rs.take k)) ∧ s = .string (strOfNums ys) ∧ Hid (ys = putU rs.length ++ piecesR 0 (rs.take k)) ∧ Below w.heap.size w wr) (fun _ _ i _ => n - (intOf i).toNat)
  case atStart => exact ⟨0, putU n, Nat.zero_le _, rfl, rfl, rfl, put (by rw [HLN.out]; simp [piecesR]), hb1⟩
  case round =>
    obtain ⟨k, ys, hk, rfl, rfl, rfl, hys, hbel⟩ := hrel
    clear hb1
    by_cases hlt : k < n
    · obtain ⟨b, off, x, y, z, rfl, hb', hc1, hc2, hc3, hxt⟩ := (hr.below hbel).at_ hlt
      obtain ⟨a, m1, m2, d, e1, e2, a0, a1, f1, f2, f3, x0', x1', y0', y1', z0', z1', g1, g2, g3, g4, hpc⟩ := piece_parts hm HRO.out hxt.out
      have HM := put (show ys ++ (putU m1 ++ putU m2 ++ putS d) = putU rs.length ++ piecesR 0 (rs.take (k + 1)) by rw [bytesTo_more hxt.out, hys.out, hpc])
      have HE := put e2
      rw [e1]
      have hsz : (strOfNums ys).size ≤ 1802 := by rw [strOfNums_size, hys.out]; exact bytesTo_length hm HRO.out k
      have hs1 : (strOfNums (putU m1)).size ≤ 10 := by rw [strOfNums_size]; exact putU_length_u64 (by omega)
      have hs2 : (strOfNums (putU m2)).size ≤ 10 := by rw [strOfNums_size]; exact putU_length_u64 (by omega)
      have hl3 := put (putS_length_i64 (n := d) (by omega) (by omega))
      have hs3 : (strOfNums (putS d)).size ≤ 10 := by rw [strOfNums_size]; exact hl3.out
      have v1 : IntKind.i64.wrap (x - a) = (m1 : Int) := by rw [f1]; exact IntWalk.i64_in _ ⟨by omega, by omega⟩
      have v2 : IntKind.i64.wrap (y - x) = (m2 : Int) := by rw [f2]; exact IntWalk.i64_in _ ⟨by omega, by omega⟩
      have v3 : IntKind.i64.wrap (z - y) = d := by rw [f3]; exact IntWalk.i64_in _ ⟨by omega, by omega⟩
      have hb0 := hbel.alloc hbel.size (Obj.cells #[.int .i64 x, .int .i64 y, .int .i64 z] 50)
      have k0 := Keep.new wr #[.int .i64 x, .int .i64 y, .int .i64 z] 50
      clear e1 e2 f1 f2 f3 hpc
      go_wp2
      generalize hW : wr.alloc (Obj.cells #[.int .i64 x, .int .i64 y, .int .i64 z] 50) = W0 at hb0 k0 ⊢
      have q0 := k0.cell 0; have q1 := k0.cell 1; have q2 := k0.cell 2; simp at q0 q1 q2; clear hW k0 hbel
      have r0 := cell_regrown q0
      have r1 := cell_regrown q1
      have r2 := cell_regrown q2
      refine wp_region_quiet_below (by kernel_rfl) (by kernel_rfl) ?_
      repeat (first | go_big_quiet_step ((first | (go_at_call 67; exact Calls.regrown_of (specPutU_any m1 _ (by omega))) | (go_at_call 67; exact Calls.regrown_of (specPutU_any m2 _ (by omega))) | (go_at_call 68; exact Calls.regrown_of (specPutS_any d _ (by omega) (by omega) hl3)))) | quiet_step (fail))
      refine wpQuiet_nil ?_
      intro _ hw'
      obtain ⟨⟨dq, osq⟩, hw''⟩ := hw'
      subst hw''
      have hb9 := hb0.trans ((below_regrown W0 dq osq).mono hb0.size)
      go_wp2
      go_roundw
      case rel => exact ⟨k + 1, ys ++ (putU m1 ++ putU m2 ++ putS d), by omega, by go_num, by rw [HE.out], by rw [strOfNums_append, strOfNums_append, strOfNums_append], HM, hb9⟩
      case measure => simp [intOf]; omega
    · have hfin := put (show ys = bytesR rs by rw [hys.out, List.take_of_length_le (by have := HLN.out; omega)]; rfl)
      go_wp2
      go_ret
      exact ⟨by rw [hfin.out]; rfl, hbel⟩

set_option maxHeartbeats 1000000 in
set_option maxRecDepth 100000 in
theorem specRowsBytes_any (A : Option Addr) (n c : Nat) (rs : List Row3) (many : Int) (w : World) (hr : ReadsR w w.heap.size A n rs) (hn : n ≤ 1048576) :
    Calls Try.prog 27 #[.slice A n c, .int .i64 many] w fun e w' => e = .returned (.tuple #[.string (strOfNums (bytesAns many rs).1), .bool (bytesAns many rs).2]) ∧ Below w.heap.size w w' := by
  cases hg : goodB many rs with
  | false =>
    have HG := put hg
    have HA := put (bytesAns_bad hg)
    clear hg
    go_enter Try.func27, Try.ntmps27
    go_wp2_with fail
    refine (l7Good_any A n c rs many _ hr hn).mono ?_
    rintro e w1 ⟨rfl, hb1⟩
    rw [HG.out]
    go_wp2
    go_ret2
    exact ⟨by rw [HA.out]; rfl, hb1⟩
  | true =>
    have HG := put hg
    have HA := put (bytesAns_ok hg)
    have hm := (goodB_iff.1 hg).1
    have HRO := put (goodB_iff.1 hg).2
    have hn3 : n ≤ 300 := by rw [← hr.1]; exact goodB_length hg
    have hm3 : many.toNat ≤ 300 := by omega
    have hsz : (strOfNums (bytesR rs)).size ≤ 1802 := by rw [strOfNums_size]; exact bytesR_length hg
    clear hg hm
    go_enter Try.func27, Try.ntmps27
    go_wp2_with fail
    refine (l7Good_any A n c rs many _ hr hn).mono ?_
    rintro e w1 ⟨rfl, hb1⟩
    rw [HG.out]
    go_wp2_with fail
    refine (l7Bytes_any A n c rs many.toNat _ (hr.now hb1) hn3 hm3 HRO.out).mono ?_
    rintro e w2 ⟨rfl, hb2⟩
    have b2 := hb1.trans (hb2.mono hb1.size)
    go_wp2_with fail
    refine (l7Bytes_any A n c rs many.toNat _ (hr.now b2) hn3 hm3 HRO.out).mono ?_
    rintro e w3 ⟨rfl, hb3⟩
    have b3 := b2.trans (hb3.mono b2.size)
    go_wp2
    go_ret2
    exact ⟨by rw [HA.out]; rfl, b3⟩

/-- The bytes of some numbers, as a builder holds them. -/
def bl (ys : List Int) : List UInt8 := (strOfNums ys).data.toList
theorem bl_length (ys : List Int) : (Lib.byteCells (bl ys)).length = ys.length := by rw [Lib.byteCells_length]; simp [bl, data_str]
theorem bl_str (ys : List Int) : (⟨(bl ys).toArray⟩ : ByteArray) = strOfNums ys := by simp [bl]
theorem bl_more (ys p : List Int) : Lib.byteCells (bl ys) ++ Lib.strCells (strOfNums p) = Lib.byteCells (bl (ys ++ p)) := by
  rw [Lib.strCells_eq, ← Lib.byteCells_append]
  congr 1
  simp [bl, strOfNums_append]

set_option maxHeartbeats 4000000 in
set_option maxRecDepth 100000 in
theorem implRowsBytes_any (A : Option Addr) (n c : Nat) (rs : List Row3) (many : Int) (w : World) (hr : ReadsR w w.heap.size A n rs) (hn : n ≤ 1048576) :
    Calls Try.prog 28 #[.slice A n c, .int .i64 many] w fun e w' => e = .returned (.tuple #[.string (strOfNums (bytesAns many rs).1), .bool (bytesAns many rs).2]) ∧ Below w.heap.size w w' := by
  cases hg : goodB many rs with
  | false =>
    have HG := put hg
    have HA := put (bytesAns_bad hg)
    clear hg
    go_enter Try.func28, Try.ntmps28
    go_wp2_with fail
    refine (implGoodRows_any A n c rs many _ hr hn).mono ?_
    rintro e w1 ⟨rfl, hb1⟩
    rw [HG.out]
    go_wp2
    go_ret2
    exact ⟨by rw [HA.out]; rfl, hb1⟩
  | true =>
    have HG := put hg
    have HA := put (bytesAns_ok hg)
    have hmm := (goodB_iff.1 hg).1
    have HRO := put (goodB_iff.1 hg).2
    have hn3 : n ≤ 300 := by rw [← hr.1]; exact goodB_length hg
    obtain ⟨M, hM⟩ : ∃ M : Nat, many.toNat = M := ⟨_, rfl⟩
    have hm : M ≤ 300 := by omega
    rw [hM] at HRO
    have hall := bytesR_length hg
    have HLN := put hr.1
    clear hg hmm hM
    go_enter Try.func28, Try.ntmps28
    go_wp2_with fail
    refine (implGoodRows_any A n c rs many _ hr hn).mono ?_
    rintro e w1 ⟨rfl, hb1⟩
    rw [HG.out]
    have hs1 := hb1.size
    obtain ⟨B, hB⟩ : ∃ B, w1.heap.size = B := ⟨_, rfl⟩
    have bld0 : Lib.IsBuilder 66 5 B B [] (w1.alloc (.cells #[.pointer none, .slice none 0 0] 66)) := by rw [← hB]; exact Lib.fresh_isBuilder 66 5 w1
    have bel0 : Below w.heap.size w (w1.alloc (.cells #[.pointer none, .slice none 0 0] 66)) := hb1.alloc hs1 _
    have siz0 : B ≤ (w1.alloc (.cells #[.pointer none, .slice none 0 0] 66)).heap.size := by rw [← hB]; simp
    have hwB : w.heap.size ≤ B := by omega
    go_wp2_with fail
    generalize w1.alloc (.cells #[.pointer none, .slice none 0 0] 66) = W1 at bld0 bel0 siz0 ⊢
    clear hb1 hs1 hB
    refine (putU_any n _ (by omega)).mono ?_
    rintro e w2 ⟨rfl, hb2⟩
    have bel2 := bel0.trans (hb2.mono bel0.size)
    have siz2 : B ≤ w2.heap.size := Nat.le_trans siz0 hb2.size
    have bld2 := bld_below bld0 hb2
    have hsz0 : (strOfNums (putU n)).size ≤ 10 := by rw [strOfNums_size]; exact putU_length_u64 (by omega)
    clear bld0 bel0 siz0 hb2
    go_wp2_with fail
    refine (writeString_any B B [] (strOfNums (putU n)) _ bld2 (by simp; omega) siz2).mono ?_
    rintro e w3 ⟨rfl, bld3, hb3, _⟩
    have bel3 := bel2.trans (hb3.mono hwB)
    have siz3 : B ≤ w3.heap.size := Nat.le_trans siz2 hb3.size
    have bld3' : Lib.IsBuilder 66 5 B B (Lib.byteCells (bl (putU n))) w3 := by
      have h := bl_more [] (putU n)
      rw [List.nil_append] at h
      rw [← h]
      exact .inr bld3
    clear bld2 bel2 siz2 hb3 bld3
    go_wp2
    go_loopw [7, 21] (fun u i wr => ∃ (k : Nat) (ys : List Int), k ≤ n ∧ i = .int .i64 k ∧ u = .int .i64 (lastTo 0 (rs.take k)) ∧ Hid (ys = putU rs.length ++ piecesR 0 (rs.take k)) ∧ Lib.IsBuilder 66 5 B B (Lib.byteCells (bl ys)) wr ∧ B ≤ wr.heap.size ∧ Below w.heap.size w wr) (fun _ i _ => n - (intOf i).toNat)
    case atStart => exact ⟨0, putU n, Nat.zero_le _, rfl, rfl, put (by rw [HLN.out]; simp [piecesR]), bld3', siz3, bel3⟩
    case round =>
      obtain ⟨k, ys, hk, rfl, rfl, hys, bldR, sizR, hbel⟩ := hrel
      clear bel3 siz3 bld3'
      by_cases hlt : k < n
      · obtain ⟨b, off, x, y, z, rfl, hb', hc1, hc2, hc3, hxt⟩ := (hr.below hbel).at_ hlt
        obtain ⟨a, m1, m2, d, e1, e2, a0, a1, f1, f2, f3, x0', x1', y0', y1', z0', z1', g1, g2, g3, g4, hpc⟩ := piece_parts hm HRO.out hxt.out
        have HM := put (show ys ++ (putU m1 ++ putU m2 ++ putS d) = putU rs.length ++ piecesR 0 (rs.take (k + 1)) by rw [bytesTo_more hxt.out, hys.out, hpc])
        have HE := put e2
        rw [e1]
        have hsz : ys.length ≤ 1802 := by rw [hys.out]; exact bytesTo_length hm HRO.out k
        have hs1 : (putU m1).length ≤ 10 := putU_length_u64 (by omega)
        have hs2 : (putU m2).length ≤ 10 := putU_length_u64 (by omega)
        have hl3 := put (putS_length_i64 (n := d) (by omega) (by omega))
        have v1 : IntKind.i64.wrap (x - a) = (m1 : Int) := by rw [f1]; exact IntWalk.i64_in _ ⟨by omega, by omega⟩
        have v2 : IntKind.i64.wrap (y - x) = (m2 : Int) := by rw [f2]; exact IntWalk.i64_in _ ⟨by omega, by omega⟩
        have v3 : IntKind.i64.wrap (z - y) = d := by rw [f3]; exact IntWalk.i64_in _ ⟨by omega, by omega⟩
        have hb0 := hbel.alloc hbel.size (Obj.cells #[.int .i64 x, .int .i64 y, .int .i64 z] 50)
        have k0 := Keep.new wr #[.int .i64 x, .int .i64 y, .int .i64 z] 50
        have bldA := bld_below bldR ((Below.refl _ _).alloc (Nat.le_refl _) (Obj.cells #[.int .i64 x, .int .i64 y, .int .i64 z] 50))
        have sizA : B ≤ (wr.alloc (Obj.cells #[.int .i64 x, .int .i64 y, .int .i64 z] 50)).heap.size := by simp; omega
        have hne : wr.heap.size ≠ B := by
          rcases bldR with h | h <;> (obtain ⟨_, v, hbk, _⟩ := h; have := (Array.getElem?_eq_some_iff.1 hbk).1; omega)
        have l1 : (ys ++ putU m1).length ≤ 1812 := by rw [List.length_append]; omega
        have l2 : (ys ++ putU m1 ++ putU m2).length ≤ 1822 := by rw [List.length_append]; omega
        clear e1 e2 f1 f2 f3 hpc bldR sizR
        go_wp2_with fail
        generalize hW : wr.alloc (Obj.cells #[.int .i64 x, .int .i64 y, .int .i64 z] 50) = W0 at hb0 k0 bldA sizA ⊢
        generalize wr.heap.size = gb at k0 hne ⊢
        clear hW hbel
        refine (putU_any m1 _ (by omega)).mono ?_
        rintro e w4 ⟨rfl, hb4⟩
        have bel4 := hb0.trans (hb4.mono hb0.size)
        have siz4 : B ≤ w4.heap.size := Nat.le_trans sizA hb4.size
        have bld4 := bld_below bldA hb4
        have k4 := k0.below hb4
        clear hb0 sizA bldA k0 hb4
        go_wp2_with fail
        refine (writeString_any B B _ (strOfNums (putU m1)) _ bld4 (by rw [bl_length, strOfNums_size]; omega) siz4).mono ?_
        rintro e w5 ⟨rfl, bld5, hb5, hk5⟩
        rw [bl_more] at bld5
        have bel5 := bel4.trans (hb5.mono hwB)
        have siz5 : B ≤ w5.heap.size := Nat.le_trans siz4 hb5.size
        have k5 := hk5 hne (by decide) k4
        clear bel4 siz4 bld4 k4 hb5 hk5
        have q0 := k5.cell 0; have q1 := k5.cell 1; have q2 := k5.cell 2; simp at q0 q1 q2
        go_wp2_with fail
        refine (putU_any m2 _ (by omega)).mono ?_
        rintro e w6 ⟨rfl, hb6⟩
        have bel6 := bel5.trans (hb6.mono bel5.size)
        have siz6 : B ≤ w6.heap.size := Nat.le_trans siz5 hb6.size
        have bld6 := bldAt_below bld5 hb6
        have k6 := k5.below hb6
        clear bel5 siz5 bld5 k5 hb6 q0 q1 q2
        go_wp2_with fail
        refine (writeString_any B B _ (strOfNums (putU m2)) _ (.inr bld6) (by rw [bl_length, strOfNums_size]; omega) siz6).mono ?_
        rintro e w7 ⟨rfl, bld7, hb7, hk7⟩
        rw [bl_more] at bld7
        have bel7 := bel6.trans (hb7.mono hwB)
        have siz7 : B ≤ w7.heap.size := Nat.le_trans siz6 hb7.size
        have k7 := hk7 hne (by decide) k6
        clear bel6 siz6 bld6 k6 hb7 hk7
        have q0 := k7.cell 0; have q1 := k7.cell 1; have q2 := k7.cell 2; simp at q0 q1 q2
        go_wp2_with fail
        refine (putS_any d _ (by omega) (by omega) hl3).mono ?_
        rintro e w8 ⟨rfl, hb8⟩
        have bel8 := bel7.trans (hb8.mono bel7.size)
        have siz8 : B ≤ w8.heap.size := Nat.le_trans siz7 hb8.size
        have bld8 := bldAt_below bld7 hb8
        have k8 := k7.below hb8
        clear bel7 siz7 bld7 k7 hb8 q0 q1 q2
        go_wp2_with fail
        refine (writeString_any B B _ (strOfNums (putS d)) _ (.inr bld8) (by rw [bl_length, strOfNums_size]; have := hl3.out; omega) siz8).mono ?_
        rintro e w9 ⟨rfl, bld9, hb9, hk9⟩
        rw [bl_more, List.append_assoc, List.append_assoc, ← List.append_assoc (putU m1)] at bld9
        have bel9 := bel8.trans (hb9.mono hwB)
        have siz9 : B ≤ w9.heap.size := Nat.le_trans siz8 hb9.size
        have k9 := hk9 hne (by decide) k8
        clear bel8 siz8 bld8 k8 hb9 hk9
        have q0 := k9.cell 0; have q1 := k9.cell 1; have q2 := k9.cell 2; simp at q0 q1 q2
        go_wp2
        go_roundw
        case rel => exact ⟨k + 1, ys ++ (putU m1 ++ putU m2 ++ putS d), by omega, by go_num, by rw [HE.out], HM, .inr bld9, siz9, bel9⟩
        case measure => simp [intOf]; omega
      · have hfin := put (show ys = bytesR rs by rw [hys.out, List.take_of_length_le (by have := HLN.out; omega)]; rfl)
        have hyl : ys.length ≤ 1802 := by rw [hfin.out]; exact hall
        go_wp2_with fail
        refine (Try.Builder_Len B B _ _ bldR).mono ?_
        rintro e w4 ⟨rfl, rfl⟩
        rw [bl_length]
        go_wp2_with fail
        refine (Try.Builder_String_any B B _ _ bldR sizR).mono ?_
        rintro e w5 ⟨rfl, hb5⟩
        rw [bl_str]
        have bel5 := hbel.trans (hb5.mono hwB)
        go_wp2
        go_ret2
        exact ⟨by rw [HA.out, hfin.out]; rfl, bel5⟩

end Go.Proofs.Ytkfdehmmhgcapaa

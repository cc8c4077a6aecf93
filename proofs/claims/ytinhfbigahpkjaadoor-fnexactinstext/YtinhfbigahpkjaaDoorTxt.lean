/-
  The text of an instruction: both sides' contracts.
-/
import Derived.Test.YtinhfbigahpkjaaDoorIns2
import Derived.Test.YtinhfbigahpkjaaDoorSText
import Derived.Test.YtinhfbigahpkjaaDoorSInt
import Derived.Lib.ItoaLen
import Derived.Lib.AppendIntMem
import Derived.Deep.RegionLaw
namespace Go.Proofs.YtinhfbigahpkjaaDoor
open Go.RowKit Exs

theorem decDigits_numL (n : Nat) : Lib.decDigits n = numL n := by
  induction n using Nat.strongRecOn with
  | _ n ih =>
    rw [Lib.decDigits, numL]
    split
    · rfl
    · rw [ih (n / 10) (by omega)]
theorem itoa_intL (n : Int) : Lib.itoa n = intL n := by
  unfold Lib.itoa intL
  split
  · rw [decDigits_numL, show n.natAbs = (-n).toNat by omega]
  · rw [decDigits_numL]

/-- The text of an instruction. -/
def itAns (op x : Int) : List UInt8 × Bool := if insB op x then (if hasN op then kW op.toNat ++ [32] ++ intL x else kW op.toNat, true) else ([], false)

def wordsA : Array Value := #[.string ⟨#[]⟩, .string ⟨#[110, 117, 109]⟩, .string ⟨#[118, 97, 114]⟩, .string ⟨#[115, 101, 116]⟩, .string ⟨#[114, 101, 99, 107, 111, 110]⟩, .string ⟨#[105, 110, 112, 117, 116]⟩, .string ⟨#[114, 101, 99, 111, 118, 101, 114]⟩, .string ⟨#[99, 97, 108, 108]⟩, .string ⟨#[112, 114, 105, 110, 116]⟩, .string ⟨#[100, 114, 111, 112]⟩, .string ⟨#[106, 117, 109, 112]⟩, .string ⟨#[117, 110, 108, 101, 115, 115]⟩, .string ⟨#[112, 117, 116]⟩, .string ⟨#[112, 97, 110, 105, 99]⟩, .string ⟨#[101, 120, 105, 116]⟩, .string ⟨#[114, 101, 115, 117, 108, 116]⟩, .string ⟨#[108, 101, 97, 118, 101]⟩, .string ⟨#[111, 102, 102]⟩, .string ⟨#[101, 110, 100]⟩]
theorem wordsA_at (j : Nat) (hj : j < 19) : wordsA[j]? = some (.string (strB (kW j))) := by
  have h : j = 0 ∨ j = 1 ∨ j = 2 ∨ j = 3 ∨ j = 4 ∨ j = 5 ∨ j = 6 ∨ j = 7 ∨ j = 8 ∨ j = 9 ∨ j = 10 ∨ j = 11 ∨ j = 12 ∨ j = 13 ∨ j = 14 ∨ j = 15 ∨ j = 16 ∨ j = 17 ∨ j = 18 := by omega
  rcases h with rfl | rfl | rfl | rfl | rfl | rfl | rfl | rfl | rfl | rfl | rfl | rfl | rfl | rfl | rfl | rfl | rfl | rfl | rfl
  all_goals rfl

set_option maxHeartbeats 1000000 in
theorem l5Words_any (w : World) : Calls Tryd.prog 47 #[] w fun e w' => e = .returned (.slice (some ⟨w.heap.size, 0, none⟩) 19 19) ∧ Keep w' w.heap.size wordsA 9 ∧ Below w.heap.size w w' := by
  have hb := (Below.refl w.heap.size w).alloc (Nat.le_refl _) (Obj.cells wordsA 9)
  have hk := Keep.new w wordsA 9
  unfold wordsA at *
  go_enter Tryd.func47, Tryd.ntmps47
  go_wp2
  go_ret
  exact ⟨rfl, hk, hb⟩

theorem bytes_in {op x : Int} (h : insB op x = true) : -2147483648 ≤ x ∧ x ≤ 2147483647 := by
  rw [insB_eq] at h
  obtain ⟨_, _, h1, h2⟩ := of_decide_eq_true h
  unfold kL at h1
  unfold kM at h2
  constructor
  · split at h1
    · omega
    · split at h1 <;> omega
  · split at h2
    · omega
    · split at h2
      · omega
      · split at h2 <;> omega
theorem kLM {op : Int} (h : 1 ≤ op) (h' : op ≤ 18) : (kL op == kM op) = !hasN op := by
  have hc : op = 1 ∨ op = 2 ∨ op = 3 ∨ op = 4 ∨ op = 5 ∨ op = 6 ∨ op = 7 ∨ op = 8 ∨ op = 9 ∨ op = 10 ∨ op = 11 ∨ op = 12 ∨ op = 13 ∨ op = 14 ∨ op = 15 ∨ op = 16 ∨ op = 17 ∨ op = 18 := by omega
  rcases hc with rfl | rfl | rfl | rfl | rfl | rfl | rfl | rfl | rfl | rfl | rfl | rfl | rfl | rfl | rfl | rfl | rfl | rfl
  all_goals decide
theorem ret_txt {a b : ByteArray} {q : Bool} (h : a = b) : Ending.returned (.tuple #[.string a, .bool q]) = .returned (.tuple #[.string b, .bool q]) := by rw [h]
theorem kW_length (j : Nat) : (kW j).length ≤ 7 := by
  by_cases h : j < 19
  · have hc : j = 0 ∨ j = 1 ∨ j = 2 ∨ j = 3 ∨ j = 4 ∨ j = 5 ∨ j = 6 ∨ j = 7 ∨ j = 8 ∨ j = 9 ∨ j = 10 ∨ j = 11 ∨ j = 12 ∨ j = 13 ∨ j = 14 ∨ j = 15 ∨ j = 16 ∨ j = 17 ∨ j = 18 := by omega
    rcases hc with rfl | rfl | rfl | rfl | rfl | rfl | rfl | rfl | rfl | rfl | rfl | rfl | rfl | rfl | rfl | rfl | rfl | rfl | rfl
    all_goals decide
  · unfold kW
    rw [List.getD_eq_getElem?_getD, List.getElem?_eq_none (by simp; omega)]
    simp
theorem txt3 (a b : List UInt8) : strB a ++ (⟨#[32]⟩ : ByteArray) ++ strB b = strB (a ++ [32] ++ b) := by
  rw [show (⟨#[32]⟩ : ByteArray) = strB [32] from rfl, strB_append, strB_append]

set_option maxHeartbeats 2000000 in
set_option maxRecDepth 100000 in
theorem specInsText_any (op x : Int) (w : World) : Calls Tryd.prog 27 #[.agg #[.int .i64 op, .int .i64 x]] w fun e w' => e = .returned (.tuple #[.string (strB (itAns op x).1), .bool (itAns op x).2]) ∧ Below w.heap.size w w' := by
  have hb := (Below.refl w.heap.size w).alloc (Nat.le_refl _) (Obj.cells #[.int .i64 op, .int .i64 x] 45)
  have k := Keep.new w #[.int .i64 op, .int .i64 x] 45
  cases hi : insB op x
  · have HI := put hi
    have ha : itAns op x = ([], false) := by simp [itAns, hi]
    rw [ha]
    clear ha hi
    go_enter Tryd.func27, Tryd.ntmps27
    go_wp2_with fail
    refine (l5Ins_any op x _).mono ?_
    rintro e w1 ⟨rfl, hb1⟩
    rw [HI.out]
    go_wp2
    go_ret2
    exact ⟨rfl, hb.trans (hb1.mono hb.size)⟩
  have HI := put hi
  have hop : 1 ≤ op ∧ op ≤ 18 := by rw [insB_eq] at hi; have := of_decide_eq_true hi; omega
  obtain ⟨j, rfl⟩ : ∃ j : Nat, op = (j : Int) := ⟨op.toNat, by omega⟩
  have hjl : j < 19 := by omega
  have hjI : (j : Int) < 19 := by omega
  have hx := bytes_in hi
  have HWD := put (wordsA_at j hjl)
  have w1s : (strB (kW j)).size ≤ 7 := by rw [strB_size]; exact kW_length j
  have w2s : (strB (intL x)).size ≤ 11 := by rw [strB_size]; exact intL_length hx.1 hx.2
  have g1 : ¬ 9223372036854775807 < (strB (kW j)).size + 1 := by omega
  have g2 : ¬ 9223372036854775807 < (strB (kW j)).size + 1 + (strB (intL x)).size := by omega
  cases hN : hasN (j : Int)
  · have HN := put hN
    have ha : itAns j x = (kW j, true) := by simp [itAns, hi, hN]
    rw [ha]
    clear ha hi hN
    go_enter Tryd.func27, Tryd.ntmps27
    go_wp2_with fail
    generalize hW : w.alloc (Obj.cells #[.int .i64 (j : Int), .int .i64 x] 45) = W0 at hb k ⊢
    clear hW
    refine (l5Ins_any j x W0).mono ?_
    rintro e w1 ⟨rfl, hb1⟩
    rw [HI.out]
    have b1 : Below w.heap.size w w1 := hb.trans (hb1.mono hb.size)
    have k1 := k.below hb1
    have y0 := k1.cell 0
    have y1 := k1.cell 1
    simp at y0 y1
    clear hb k hb1
    go_wp2_with fail
    refine (l5HasN_any j w1).mono ?_
    rintro e w2 ⟨rfl, rfl⟩
    rw [HN.out]
    go_wp2
    go_region_law (first
      | (go_simp; go_at_call 47; refine (l5Words_any w1.drew).mono ?_; rintro e w3 ⟨rfl, kw, hb3⟩; have v0 := (Keep.below (w := w1.drew) k1 hb3).cell 0; have u0 : w3.cell? ⟨w1.heap.size, j, none⟩ = some (.string (strB (kW j))) := (kw.cell j).trans HWD.out; simp at v0))
    all_goals (
      go_wp2
      go_ret2
      exact ⟨rfl, b1.drew.trans (hb3.mono b1.size)⟩)
  · have HN := put hN
    have ha : itAns j x = (kW j ++ [32] ++ intL x, true) := by simp [itAns, hi, hN]
    rw [ha]
    clear ha hi hN
    go_enter Tryd.func27, Tryd.ntmps27
    go_wp2_with fail
    generalize hW : w.alloc (Obj.cells #[.int .i64 (j : Int), .int .i64 x] 45) = W0 at hb k ⊢
    clear hW
    refine (l5Ins_any j x W0).mono ?_
    rintro e w1 ⟨rfl, hb1⟩
    rw [HI.out]
    have b1 : Below w.heap.size w w1 := hb.trans (hb1.mono hb.size)
    have k1 := k.below hb1
    have y0 := k1.cell 0
    have y1 := k1.cell 1
    simp at y0 y1
    clear hb k hb1
    go_wp2_with fail
    refine (l5HasN_any j w1).mono ?_
    rintro e w2 ⟨rfl, rfl⟩
    rw [HN.out]
    go_wp2
    go_region_law (first
      | (go_simp; go_at_call 47; refine (l5Words_any w1.drew).mono ?_; rintro e w3 ⟨rfl, kw, hb3⟩; have kv := Keep.below (w := w1.drew) k1 hb3; have v0 := kv.cell 0; have v1 := kv.cell 1; have u0 : w3.cell? ⟨w1.heap.size, j, none⟩ = some (.string (strB (kW j))) := (kw.cell j).trans HWD.out; simp at v0 v1)
      | (go_simp; go_at_call 48; refine (l2Int_any x w3 hx.1 hx.2).mono ?_; rintro e w4 ⟨rfl, hb4⟩; have v02 := (kv.below hb4).cell 0; have u02 : w4.cell? ⟨w1.heap.size, j, none⟩ = some (.string (strB (kW j))) := ((kw.below hb4).cell j).trans HWD.out; simp at v02))
    all_goals (
      go_wp2
      go_ret2
      exact ⟨ret_txt (txt3 _ _), (b1.drew.trans (hb3.mono b1.size)).trans (hb4.mono (Nat.le_trans b1.size hb3.size))⟩)

set_option maxHeartbeats 2000000 in
set_option maxRecDepth 100000 in
theorem insText_any (op x : Int) (w : World) (hk : Kinds w) (hpos : 0 < w.heap.size) (hp : Hid (∀ W, Below w.heap.size w W → Lib.TabIs Tryd.prog W "internal/strconv.uint64pow10" .u64 Lib.pow10Tab)) : Calls Tryd.prog 28 #[.agg #[.int .i64 op, .int .i64 x]] w fun e w' => e = .returned (.tuple #[.string (strB (itAns op x).1), .bool (itAns op x).2]) ∧ Below w.heap.size w w' := by
  have hb := (Below.refl w.heap.size w).alloc (Nat.le_refl _) (Obj.cells #[.int .i64 op, .int .i64 x] 45)
  have k := Keep.new w #[.int .i64 op, .int .i64 x] 45
  have HK := put (hk.below hb hpos)
  clear hk
  cases hi : insB op x
  · have HI := put hi
    have ha : itAns op x = ([], false) := by simp [itAns, hi]
    rw [ha]
    clear ha hi
    go_enter Tryd.func28, Tryd.ntmps28
    go_wp2_with fail
    refine (goodIns_any op x _ HK.out (by simp)).mono ?_
    rintro e w1 ⟨rfl, hb1⟩
    rw [HI.out]
    go_wp2
    go_ret2
    exact ⟨rfl, hb.trans (hb1.mono hb.size)⟩
  have HI := put hi
  have hop : 1 ≤ op ∧ op ≤ 18 := by rw [insB_eq] at hi; have := of_decide_eq_true hi; omega
  have hLM := kLM hop.1 hop.2
  obtain ⟨j, rfl⟩ : ∃ j : Nat, op = (j : Int) := ⟨op.toNat, by omega⟩
  have hjl : j < 19 := by omega
  have hjI : (j : Int) < 19 := by omega
  have hx := bytes_in hi
  have w1s : (strB (kW j)).size ≤ 7 := by rw [strB_size]; exact kW_length j
  have w2s : (strB (intL x)).size ≤ 11 := by rw [strB_size]; exact intL_length hx.1 hx.2
  have g1 : ¬ 9223372036854775807 < (strB (kW j)).size + 1 := by omega
  have g2 : ¬ 9223372036854775807 < (strB (kW j)).size + 1 + (strB (intL x)).size := by omega
  go_enter Tryd.func28, Tryd.ntmps28
  go_wp2_with fail
  generalize hW : w.alloc (Obj.cells #[.int .i64 (j : Int), .int .i64 x] 45) = W0 at hb k HK ⊢
  clear hW
  refine (goodIns_any j x W0 HK.out (by have := hb.size; omega)).mono ?_
  rintro e w1 ⟨rfl, hb1⟩
  rw [HI.out]
  have b1 : Below w.heap.size w w1 := hb.trans (hb1.mono hb.size)
  have k1 := k.below hb1
  have y0 := k1.cell 0
  have y1 := k1.cell 1
  simp at y0 y1
  obtain ⟨c0, c1, c2, c3, c4⟩ := (HK.out.below hb1 (by have := hb.size; omega)) j hjl
  rw [show strK (kW j) = strB (kW j) from rfl] at c0
  clear hb k hb1
  obtain ⟨a, ha⟩ : ∃ a, kL j = a := ⟨_, rfl⟩
  obtain ⟨b, hb'⟩ : ∃ b, kM j = b := ⟨_, rfl⟩
  rw [ha] at c3 hLM
  rw [hb'] at c4 hLM
  clear ha hb'
  have kn := Keep.new w1 #[.string (strB (kW j)), .int .i64 (kT j), .int .i64 (kP j), .int .i64 a, .int .i64 b] 71
  have b2 := b1.alloc b1.size (.cells #[.string (strB (kW j)), .int .i64 (kT j), .int .i64 (kP j), .int .i64 a, .int .i64 b] 71)
  have kk := k1.alloc (.cells #[.string (strB (kW j)), .int .i64 (kT j), .int .i64 (kP j), .int .i64 a, .int .i64 b] 71)
  cases hN : hasN (j : Int)
  · rw [hN] at hLM
    have ha : itAns j x = (kW j, true) := by simp [itAns, hi, hN]
    have HA := put ha
    have hab : (a == b) = true := by simpa using hLM
    clear ha hi hN hLM
    go_wp2
    go_ret2
    rw [HA.out]
    exact ⟨rfl, b2⟩
  · rw [hN] at hLM
    have ha : itAns j x = (kW j ++ [32] ++ intL x, true) := by simp [itAns, hi, hN]
    have HA := put ha
    have hab : (a == b) = false := by simpa using hLM
    clear ha hi hN hLM
    go_wp2
    generalize hW : w1.alloc (.cells #[.string (strB (kW j)), .int .i64 (kT j), .int .i64 (kP j), .int .i64 a, .int .i64 b] 71) = W2 at kn b2 kk ⊢
    clear hW c0 c1 c2 c3 c4 y0 y1
    have v0 := kn.cell 0
    have y1 := kk.cell 1
    simp at v0 y1
    go_region_law (first
      | (go_simp; go_at_call 49; refine (Tryd.strconv_Itoa x (by omega) (by omega) W2.drew (hp.out _ b2.drew)).mono ?_; rintro e w3 ⟨rfl, kq, os, hw3⟩; have hB3 : Below W2.heap.size W2.drew w3 := (by rw [hw3]; exact Lib.below_grow W2.heap.size W2.drew (Nat.le_refl _) kq os); clear hw3; rw [itoa_intL]; rw [show (⟨(intL x).toArray⟩ : ByteArray) = strB (intL x) from rfl]; have v0' := (hB3.cell (p := ⟨w1.heap.size, 0, none⟩) kn.lt).trans v0))
    all_goals (
      go_wp2
      go_ret2
      rw [HA.out]
      exact ⟨ret_txt (txt3 _ _), b2.drew.trans (hB3.mono b2.size)⟩)

end Go.Proofs.YtinhfbigahpkjaaDoor

/-
  ParamsOf on both sides: contracts.
-/
import Derived.Test.YtfdijeeilfhjeaaPEq4
import Derived.Test.YtfdijeeilfhjeaaPkB
namespace Go.Proofs.Ytfdijeeilfhjeaa
open Go.RowKit Exs

theorem retL {v : Value} {b b' : Bool} (h : b = b') : Ending.returned (.tuple #[v, .bool b]) = .returned (.tuple #[v, .bool b']) := by rw [h]
def parAns (fs : List Fc) : List Int × Bool := if progB fs then (paramsL fs, true) else ([], false)
theorem progB_len {fs : List Fc} (h : progB fs = true) : fs.length ≤ 5 := by
  simp only [progB, Bool.and_eq_true, decide_eq_true_eq] at h
  exact h.1.1.2
theorem parAns_len (fs : List Fc) : (parAns fs).1.length ≤ 1048576 := by
  unfold parAns
  split
  · rename_i h
    have := progB_len h
    simp [paramsL]; omega
  · simp

set_option maxHeartbeats 1000000 in
theorem paramsOf_any (A : Option Addr) (n c : Nat) (fs : List Fc) (w : World) (hr : ReadsF w w.heap.size A n fs) (hs : SmallP fs) :
    Calls Try.prog 35 #[.agg #[.slice A n c]] w fun e w' => ∃ v, e = .returned (.tuple #[v, .bool (parAns fs).2]) ∧ Nums w' w.heap.size 3 .i64 v (parAns fs).1 ∧ Below w.heap.size w w' := by
  have hb0 : Below w.heap.size w (w.alloc (.cells #[.slice A n c] 44)) := (Below.refl _ _).alloc (Nat.le_refl _) _
  have hk0 := Keep.new w #[.slice A n c] 44
  have hn : n ≤ 1048576 := by rw [← hr.1]; exact hs.1
  have HL := put hr.1
  go_enter Try.func35, Try.ntmps35
  go_wp2_with fail
  refine (goodProg_any A n c fs _ (hr.now hb0) hs).mono ?_
  rintro e w1 ⟨rfl, hb1⟩
  have b1 : Below w.heap.size w w1 := hb0.trans (hb1.mono hb0.size)
  have k1 := hk0.below hb1
  have y := k1.cell 0
  simp at y
  clear hb0 hk0 hb1
  cases hg : progB fs with
  | false =>
    have hf := put (show parAns fs = ([], false) by simp [parAns, hg])
    clear hg
    go_wp2
    go_ret2
    exact ⟨.slice none 0 0, retL (by rw [hf.out]), by rw [hf.out]; exact Nums.nil _ _ _ _, b1⟩
  | true =>
    have hf := put (show parAns fs = (paramsL fs, true) by simp [parAns, hg])
    have h5 := put (progB_len hg)
    clear hg
    go_wp2_with fail
    refine (paramsIn_any A n c fs _ (hr.now b1) hn).mono ?_
    rintro e w2 ⟨g, rfl, hgl, hroom, hb2⟩
    have b2 : Below w.heap.size w w2 := b1.trans (hb2.mono b1.size)
    have hlen : (paramsL fs).length = n := by simp [paramsL, HL.out]
    have hnum : Nums w2 w.heap.size 3 .i64 (.slice (some ⟨g, 0, none⟩) n n) (paramsL fs) := by
      have := Nums.of_room (B := w.heap.size) hroom (Nat.le_trans b1.size hgl) (by rw [hlen]; exact Nat.le_refl _) (by have := h5.out; rw [HL.out] at this; unfold maxLen; omega)
      rwa [hlen] at this
    have HN := put hnum
    clear hnum hroom hlen
    go_wp2
    go_ret2
    exact ⟨_, retL (by rw [hf.out]), by rw [hf.out]; exact HN.out, b2⟩

set_option maxHeartbeats 1000000 in
theorem specParamsOf_any (A : Option Addr) (n c : Nat) (fs : List Fc) (w : World) (hr : ReadsF w w.heap.size A n fs) (hs : SmallP fs) :
    Calls Try.prog 36 #[.agg #[.slice A n c]] w fun e w' => ∃ v, e = .returned (.tuple #[v, .bool (parAns fs).2]) ∧ Nums w' w.heap.size 3 .i64 v (parAns fs).1 ∧ Below w.heap.size w w' := by
  have hb0 : Below w.heap.size w (w.alloc (.cells #[.slice A n c] 44)) := (Below.refl _ _).alloc (Nat.le_refl _) _
  have hk0 := Keep.new w #[.slice A n c] 44
  have HL := put hr.1
  go_enter Try.func36, Try.ntmps36
  go_wp2_with fail
  refine (specGoodProg_any A n c fs _ (hr.now hb0) hs).mono ?_
  rintro e w1 ⟨rfl, hb1⟩
  rw [progS_eq]
  have b1 : Below w.heap.size w w1 := hb0.trans (hb1.mono hb0.size)
  have k1 := hk0.below hb1
  have y := k1.cell 0
  simp at y
  clear hb0 hk0 hb1
  cases hg : progB fs with
  | false =>
    have hf := put (show parAns fs = ([], false) by simp [parAns, hg])
    clear hg
    go_wp2
    go_ret2
    exact ⟨.slice none 0 0, retL (by rw [hf.out]), by rw [hf.out]; exact Nums.nil _ _ _ _, b1⟩
  | true =>
    have hf := put (show parAns fs = (paramsL fs, true) by simp [parAns, hg])
    have h5 := progB_len hg
    rw [HL.out] at h5
    clear hg
    go_wp2_with fail
    refine (l3Params_any A n c fs _ (hr.now b1) (by omega)).mono ?_
    rintro e w2 ⟨v, rfl, hnum, hb2⟩
    have b2 : Below w.heap.size w w2 := b1.trans (hb2.mono b1.size)
    have HN := put (hnum.more (b1.size))
    clear hnum
    go_wp2
    go_ret2
    exact ⟨_, retL (by rw [hf.out]), by rw [hf.out]; exact HN.out, b2⟩

end Go.Proofs.Ytfdijeeilfhjeaa

/-
  EndOf of both sides, against one plain answer.
-/
import Derived.Test.YtcpjddkhclaafaaOc
import Derived.Deep.RegionLaw
import Derived.Lib.BufferMore
namespace Go.Proofs.Ytcpjddkhclaafaa
open Go.RowKit Go.Deep Exs

set_option maxHeartbeats 400000 in
set_option maxRecDepth 100000 in
theorem l1Own_any (A : Option Addr) (n c : Nat) (xs : List Int) (w : World) (hr : Reads w w.heap.size .i64 A n xs) (hn : n ≤ 1048576) (hA : A = none → c = 0) :
    Calls Try.prog 39 #[.slice A n c] w fun e w' => ∃ v, e = .returned v ∧ Nums w' w.heap.size 3 .i64 v xs ∧ Below w.heap.size w w' := by
  have hb0 : Below w.heap.size w (w.alloc (.cells #[] 3)) := (Below.refl _ _).alloc (Nat.le_refl _) _
  have hn0 := Nums.empty w 3 .i64
  have HR := put (hr.now hb0)
  have hn' : n ≤ 2000000 := by omega
  clear hr
  go_enter Try.func39, Try.ntmps39
  go_wp2_with (at_builtin; refine wpList_append_reads rfl _ _ 23 rfl w.heap.size 3 .i64 8 Try.info3 Try.underlying23 (by decide) (.slice (some ⟨w.heap.size, 0, none⟩) 0 0) [] rfl (by simp) hn0 (by simp) A n c xs rfl hA HR.out (by simp) hn' ?_; intro v1 w1 hn1 hb1 hv1)
  go_ret
  exact ⟨_, rfl, by simpa using hn1, hb0.trans hb1⟩

set_option maxHeartbeats 400000 in
set_option maxRecDepth 100000 in
theorem clone_any (A : Addr) (n c : Nat) (xs : List Int) (w : World) (hr : Reads w w.heap.size .i64 (some A) n xs) (hn : n ≤ 1048576) :
    Calls Try.prog 24 #[.slice (some A) n c] w fun e w' => ∃ v, e = .returned v ∧ Nums w' w.heap.size 3 .i64 v xs ∧ Below w.heap.size w w' := by
  have hb0 : Below w.heap.size w (w.alloc (.cells #[] 3)) := (Below.refl _ _).alloc (Nat.le_refl _) _
  have hn0 := Nums.empty w 3 .i64
  have HR := put (hr.now hb0)
  have hn' : n ≤ 2000000 := by omega
  have hq : ∀ W : World, (binOp .eql 23 (.slice (some A) n c) (.slice none 0 0)).run Try.prog W = .ok (.bool false) W := fun W => Lib.run_eql_slice_some_nil W A n c Try.underlying23
  clear hr
  go_enter Try.func24, Try.ntmps24
  go_wp2_with (at_builtin; refine wpList_append_reads rfl _ _ 23 rfl w.heap.size 3 .i64 8 Try.info3 Try.underlying23 (by decide) (.slice (some ⟨w.heap.size, 0, none⟩) 0 0) [] rfl (by simp) hn0 (by simp) (some A) n c xs rfl (fun h => by cases h) HR.out (by simp) hn' ?_; intro v1 w1 hn1 hb1 hv1)
  go_ret
  exact ⟨_, rfl, by simpa using hn1, hb0.trans hb1⟩

/-- The outcome of a machine. -/
def endOc (s : Mc) : Oc := ⟨if s.code = 0 then 5 else s.code, if s.code = 1 ∨ s.code = 2 then s.value else 0, s.used, s.trace⟩

end Go.Proofs.Ytcpjddkhclaafaa

/-
  The laws' marks on a machine.
-/
import Derived.Test.YtpbkkjiikhjanaaMcM
import Derived.Test.YtpbkkjiikhjanaaFrInk
namespace Go.Proofs.Ytpbkkjiikhjanaa
open Go.RowKit Exs

def inkMc (s : Mc) : Nat := inkFrs s.frames + s.trace.length + 3 * s.notes.length

set_option maxHeartbeats 1000000 in
set_option maxRecDepth 100000 in
theorem markMc_v (s : Mc) (A1 : Option Addr) (n1 c1 : Nat) (A2 : Option Addr) (n2 c2 : Nat) (A3 : Option Addr) (n3 c3 : Nat) (k : Int) (L : Nat) (wc w : World) (m : MMc wc L s A1 n1 A2 n2 A3 n3) (hL : L ≤ wc.heap.size) (hw : Below wc.heap.size wc w) (hs : SmallMc s) (hk0 : 0 ≤ k) (hk1 : k + (inkMc s : Int) ≤ 1000000000) :
    Calls Try.prog 10 #[mcV s A1 n1 c1 A2 n2 c2 A3 n3 c3, .int .i64 k] w fun e w' => e = .returned (.int .i64 (k + (inkMc s : Int))) ∧ Inkv L wc.heap.size w w' := by
  obtain ⟨l1, q1, l2, l3⟩ := hs
  have e1 : s.frames.length = n1 := m.frames.reads.1
  rw [e1] at l1
  have e2 : s.trace.length = n2 := m.trace.reads.1
  rw [e2] at l2
  have e3 : s.notes.length = n3 := m.notes.reads.1
  rw [e3] at l3
  have hval : ((inkMc s : Nat) : Int) = (inkFrs s.frames : Int) + (n2 : Int) + 3 * (n3 : Int) := by simp only [inkMc, e2, e3]; omega
  rw [hval] at hk1 ⊢
  have M1 := put m.frames
  have M2 := put m.trace
  have M3 := put m.notes
  clear m hval e1 e2 e3
  have hi0 := (Inkv.refl L wc.heap.size w).alloc (Nat.le_trans hL hw.size) (.cells #[.slice A1 n1 c1, .slice A2 n2 c2, .int .i64 s.used, .int .i64 s.code, .int .i64 s.value, .int .i64 s.made, .slice A3 n3 c3] 33)
  have hk0' := Keep.new w #[.slice A1 n1 c1, .slice A2 n2 c2, .int .i64 s.used, .int .i64 s.code, .int .i64 s.value, .int .i64 s.made, .slice A3 n3 c3] 33
  have hb0 := hw.alloc hw.size (.cells #[.slice A1 n1 c1, .slice A2 n2 c2, .int .i64 s.used, .int .i64 s.code, .int .i64 s.value, .int .i64 s.made, .slice A3 n3 c3] 33)
  have hwR := hw.size
  unfold mcV
  go_enter Try.func10, Try.ntmps10
  go_wp2_with fail
  generalize w.alloc (.cells #[.slice A1 n1 c1, .slice A2 n2 c2, .int .i64 s.used, .int .i64 s.code, .int .i64 s.value, .int .i64 s.made, .slice A3 n3 c3] 33) = W0 at hi0 hk0' hb0 ⊢
  have hj0 := Inkv.refl L wc.heap.size W0
  refine (markFrs_v A1 n1 c1 s.frames (k) L wc W0 W0 M1.out hb0 hj0 l1 q1 (by omega) (by omega)).mono ?_
  rintro e W1 ⟨rfl, hj1⟩
  have hk1' : Keep W1 w.heap.size #[.slice A1 n1 c1, .slice A2 n2 c2, .int .i64 s.used, .int .i64 s.code, .int .i64 s.value, .int .i64 s.made, .slice A3 n3 c3] 33 := (hj1.above _ hwR (Keep.lt hk0')).trans hk0'
  have q := hk1'.cell 1
  simp at q
  go_wp2_with fail
  clear q hk1'
  refine (markInts_v A2 n2 c2 s.trace (k + (inkFrs s.frames : Int)) L wc W0 W1 M2.out hb0 hj1 l2 (by omega) (by omega)).mono ?_
  rintro e W2 ⟨rfl, hj2⟩
  have hk2' : Keep W2 w.heap.size #[.slice A1 n1 c1, .slice A2 n2 c2, .int .i64 s.used, .int .i64 s.code, .int .i64 s.value, .int .i64 s.made, .slice A3 n3 c3] 33 := (hj2.above _ hwR (Keep.lt hk0')).trans hk0'
  have q := hk2'.cell 6
  simp at q
  go_wp2_with fail
  clear q hk2'
  refine (markRows_v A3 n3 c3 s.notes (k + (inkFrs s.frames : Int) + (n2 : Int)) L wc W0 W2 M3.out hb0 hj2 l3 (by omega) (by omega)).mono ?_
  rintro e W3 ⟨rfl, hj3⟩
  go_wp2
  go_ret
  exact ⟨ret_int (by omega), hi0.trans hj3⟩

end Go.Proofs.Ytpbkkjiikhjanaa

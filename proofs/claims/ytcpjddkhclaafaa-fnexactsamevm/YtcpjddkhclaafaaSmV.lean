/-
  The contracts of both SameVm, at machines written out.
-/
import Derived.Test.YtcpjddkhclaafaaMcV
import Derived.Test.YtcpjddkhclaafaaSm6
import Derived.Test.YtcpjddkhclaafaaSm7
namespace Go.Proofs.Ytcpjddkhclaafaa
open Go.RowKit Go.Deep Exs

theorem specSameVm_v (s s' : Mc) (A1 : Option Addr) (n1 c1 : Nat) (A2 : Option Addr) (n2 c2 : Nat) (A3 : Option Addr) (n3 c3 : Nat) (B1 : Option Addr) (m1 d1 : Nat) (B2 : Option Addr) (m2 d2 : Nat) (B3 : Option Addr) (m3 d3 : Nat) (w : World) (hr : IsMc w w.heap.size s A1 n1 A2 n2 A3 n3) (hr' : IsMc w w.heap.size s' B1 m1 B2 m2 B3 m3) (hs : SmallMc s) (hs' : SmallMc s') :
    Calls Try.prog 14 #[.agg #[.slice A1 n1 c1, .slice A2 n2 c2, .int .i64 s.used, .int .i64 s.code, .int .i64 s.value, .int .i64 s.made, .slice A3 n3 c3], .agg #[.slice B1 m1 d1, .slice B2 m2 d2, .int .i64 s'.used, .int .i64 s'.code, .int .i64 s'.value, .int .i64 s'.made, .slice B3 m3 d3]] w fun e w' => e = .returned (.bool (decide (s = s'))) ∧ Below w.heap.size w w' := by
  obtain ⟨l1, q1, l2, l3⟩ := hs
  obtain ⟨l1', q1', l2', l3'⟩ := hs'
  rw [hr.frames.1] at l1; rw [hr.trace.1] at l2; rw [hr.notes.1] at l3
  rw [hr'.frames.1] at l1'; rw [hr'.trace.1] at l2'; rw [hr'.notes.1] at l3'
  cases s; cases s'
  exact specSameVm_x _ _ _ _ _ _ _ _ _ _ _ _ _ _ _ _ _ _ _ _ _ _ _ _ _ _ _ _ _ _ _ _ w hr.frames hr.trace hr.notes hr'.frames hr'.trace hr'.notes l1 l2 l3 l1' l2' l3' q1 q1'
theorem sameVm_v (s s' : Mc) (A1 : Option Addr) (n1 c1 : Nat) (A2 : Option Addr) (n2 c2 : Nat) (A3 : Option Addr) (n3 c3 : Nat) (B1 : Option Addr) (m1 d1 : Nat) (B2 : Option Addr) (m2 d2 : Nat) (B3 : Option Addr) (m3 d3 : Nat) (w : World) (hr : IsMc w w.heap.size s A1 n1 A2 n2 A3 n3) (hr' : IsMc w w.heap.size s' B1 m1 B2 m2 B3 m3) (hs : SmallMc s) (hs' : SmallMc s') :
    Calls Try.prog 15 #[.agg #[.slice A1 n1 c1, .slice A2 n2 c2, .int .i64 s.used, .int .i64 s.code, .int .i64 s.value, .int .i64 s.made, .slice A3 n3 c3], .agg #[.slice B1 m1 d1, .slice B2 m2 d2, .int .i64 s'.used, .int .i64 s'.code, .int .i64 s'.value, .int .i64 s'.made, .slice B3 m3 d3]] w fun e w' => e = .returned (.bool (decide (s = s'))) ∧ Below w.heap.size w w' := by
  obtain ⟨l1, q1, l2, l3⟩ := hs
  obtain ⟨l1', q1', l2', l3'⟩ := hs'
  rw [hr.frames.1] at l1; rw [hr.trace.1] at l2; rw [hr.notes.1] at l3
  rw [hr'.frames.1] at l1'; rw [hr'.trace.1] at l2'; rw [hr'.notes.1] at l3'
  cases s; cases s'
  exact sameVm_x _ _ _ _ _ _ _ _ _ _ _ _ _ _ _ _ _ _ _ _ _ _ _ _ _ _ _ _ _ _ _ _ w hr.frames hr.trace hr.notes hr'.frames hr'.trace hr'.notes l1 l2 l3 l1' l2' l3' q1 q1'

end Go.Proofs.Ytcpjddkhclaafaa

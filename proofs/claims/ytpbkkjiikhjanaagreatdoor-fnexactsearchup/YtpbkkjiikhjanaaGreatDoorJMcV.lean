/-
  The contracts of what the law of SameVm calls, at machines written out.
-/
import Derived.Test.YtpbkkjiikhjanaaGreatDoorJArgV
import Derived.Test.YtpbkkjiikhjanaaGreatDoorJFrEq
namespace Go.Proofs.YtpbkkjiikhjanaaGreatDoor
open Go.RowKit Go.Deep Exs

theorem smallFr_of {s : Fr} (h : manyFr s ≤ 1048576) : SmallFr s := by unfold manyFr at h; exact ⟨by omega, by omega, by omega⟩
theorem smallMc_of {s : Mc} (h : manyMc s ≤ 1048576) : SmallMc s := by
  unfold manyMc at h
  exact ⟨by omega, fun x hx => smallFr_of (by have := manyFrs_mem hx; omega), by omega, by omega⟩

theorem szMc_v (s : Mc) (A1 : Option Addr) (n1 c1 : Nat) (A2 : Option Addr) (n2 c2 : Nat) (A3 : Option Addr) (n3 c3 : Nat) (left : Int) (w : World) (hr : IsMc w w.heap.size s A1 n1 A2 n2 A3 n3) (hl : LongMc s) (h0 : 0 ≤ left) (h1 : left ≤ 1048576) :
    Calls Tryz.prog 7 #[.agg #[.slice A1 n1 c1, .slice A2 n2 c2, .int .i64 s.used, .int .i64 s.code, .int .i64 s.value, .int .i64 s.made, .slice A3 n3 c3], .int .i64 left] w fun e w' => e = .returned (.int .i64 (szA (manyMc s) left)) ∧ Below w.heap.size w w' := szMc_any s A1 n1 c1 A2 n2 c2 A3 n3 c3 left w hr hl h0 h1
theorem toMc_v (s : Mc) (A1 : Option Addr) (n1 c1 : Nat) (A2 : Option Addr) (n2 c2 : Nat) (A3 : Option Addr) (n3 c3 : Nat) (w : World) (hr : IsMc w w.heap.size s A1 n1 A2 n2 A3 n3) (hs : SmallMc s) :
    Calls Tryz.prog 10 #[.agg #[.slice A1 n1 c1, .slice A2 n2 c2, .int .i64 s.used, .int .i64 s.code, .int .i64 s.value, .int .i64 s.made, .slice A3 n3 c3]] w fun e w' => ∃ B1 B2 B3, e = .returned (.agg #[.slice B1 n1 n1, .slice B2 n2 n2, .int .i64 s.used, .int .i64 s.code, .int .i64 s.value, .int .i64 s.made, .slice B3 n3 n3]) ∧ MMc w' w.heap.size s B1 n1 B2 n2 B3 n3 ∧ Below w.heap.size w w' := toMc_any s A1 n1 c1 A2 n2 c2 A3 n3 c3 w hr hs
theorem eqMc_v (s : Mc) (A1 : Option Addr) (n1 c1 : Nat) (A2 : Option Addr) (n2 c2 : Nat) (A3 : Option Addr) (n3 c3 : Nat) (B1 : Option Addr) (m1 d1 : Nat) (B2 : Option Addr) (m2 d2 : Nat) (B3 : Option Addr) (m3 d3 : Nat) (w : World) (hr : IsMc w w.heap.size s A1 n1 A2 n2 A3 n3) (hr' : IsMc w w.heap.size s B1 m1 B2 m2 B3 m3) (hs : SmallMc s) :
    Calls Tryz.prog 13 #[.agg #[.slice A1 n1 c1, .slice A2 n2 c2, .int .i64 s.used, .int .i64 s.code, .int .i64 s.value, .int .i64 s.made, .slice A3 n3 c3], .agg #[.slice B1 m1 d1, .slice B2 m2 d2, .int .i64 s.used, .int .i64 s.code, .int .i64 s.value, .int .i64 s.made, .slice B3 m3 d3]] w fun e w' => e = .returned (.bool true) ∧ Below w.heap.size w w' := by
  obtain rfl : n1 = m1 := by rw [← hr.frames.1, ← hr'.frames.1]
  obtain rfl : n2 = m2 := by rw [← hr.trace.1, ← hr'.trace.1]
  obtain rfl : n3 = m3 := by rw [← hr.notes.1, ← hr'.notes.1]
  exact eqMc_same s A1 n1 c1 A2 n2 c2 A3 n3 c3 B1 d1 B2 d2 B3 d3 w hr hr' hs

end Go.Proofs.YtpbkkjiikhjanaaGreatDoor

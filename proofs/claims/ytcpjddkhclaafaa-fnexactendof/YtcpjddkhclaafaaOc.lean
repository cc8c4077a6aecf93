/-
  Outcomes: how the laws count them, copy them and compare them.
-/
import Derived.Test.YtcpjddkhclaafaaPut
import Derived.Test.YtcpjddkhclaafaaMcV
import Derived.Deep.QuietTactic
import Derived.BigQuiet
namespace Go.Proofs.Ytcpjddkhclaafaa
open Go.RowKit Go.Deep Exs

/-- An outcome. -/
structure Oc where
  code : Int
  value : Int
  used : Int
  trace : List Int
def ocV (o : Oc) (A : Option Addr) (n c : Nat) : Value := .agg #[.int .i64 o.code, .int .i64 o.value, .slice A n c, .int .i64 o.used]

set_option maxHeartbeats 1000000 in
set_option maxRecDepth 100000 in
theorem eqOutcome_same (o : Oc) (A : Option Addr) (n c : Nat) (B : Option Addr) (d : Nat) (w : World) (hr : Reads w w.heap.size .i64 A n o.trace) (hr' : Reads w w.heap.size .i64 B n o.trace) (hs : n ≤ 1048576) :
    Calls Try.prog 9 #[ocV o A n c, ocV o B n d] w fun e w' => e = .returned (.bool true) ∧ Below w.heap.size w w' := by
  unfold ocV
  go_enter Try.func9, Try.ntmps9
  go_wp2_with fail
  have hb0 : Below w.heap.size w ((w.alloc (.cells #[.int .i64 o.code, .int .i64 o.value, .slice A n c, .int .i64 o.used] 29)).alloc (.cells #[.int .i64 o.code, .int .i64 o.value, .slice B n d, .int .i64 o.used] 29)) := ((Below.refl _ _).alloc (Nat.le_refl _) _).alloc (by simp) _
  have hx0 : Keep ((w.alloc (.cells #[.int .i64 o.code, .int .i64 o.value, .slice A n c, .int .i64 o.used] 29)).alloc (.cells #[.int .i64 o.code, .int .i64 o.value, .slice B n d, .int .i64 o.used] 29)) w.heap.size #[.int .i64 o.code, .int .i64 o.value, .slice A n c, .int .i64 o.used] 29 := (Keep.new _ _ _).alloc _
  have hy0 : Keep ((w.alloc (.cells #[.int .i64 o.code, .int .i64 o.value, .slice A n c, .int .i64 o.used] 29)).alloc (.cells #[.int .i64 o.code, .int .i64 o.value, .slice B n d, .int .i64 o.used] 29)) (w.heap.size + 1) #[.int .i64 o.code, .int .i64 o.value, .slice B n d, .int .i64 o.used] 29 := by
    have := Keep.new (w.alloc (.cells #[.int .i64 o.code, .int .i64 o.value, .slice A n c, .int .i64 o.used] 29)) #[.int .i64 o.code, .int .i64 o.value, .slice B n d, .int .i64 o.used] 29
    rw [World.size_alloc] at this
    exact this
  generalize hW0 : (w.alloc (.cells #[.int .i64 o.code, .int .i64 o.value, .slice A n c, .int .i64 o.used] 29)).alloc (.cells #[.int .i64 o.code, .int .i64 o.value, .slice B n d, .int .i64 o.used] 29) = W0 at hb0 hx0 hy0 ⊢
  clear hW0
  refine (eqInts_below A B n c d o.trace _ (hr.now hb0) (hr'.now hb0) hs).mono ?_
  rintro e W1 ⟨rfl, hc0⟩
  have hb1 : Below w.heap.size w W1 := hb0.trans (hc0.mono hb0.size)
  have hx1 := hx0.below hc0
  have hy1 := hy0.below hc0
  clear hx0 hy0 hc0 hb0
  have q1 := hx1.cell 3
  have q2 := hy1.cell 3
  simp at q1 q2
  go_wp2
  go_ret
  exact ⟨rfl, hb1⟩

end Go.Proofs.Ytcpjddkhclaafaa

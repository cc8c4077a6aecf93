/-
  Traces compared: the reference's and the program's TraceBegins, each against one plain answer.
-/
import Derived.Test.YtnpmokkifffihaaOcS
import Derived.Deep.RegionLaw
namespace Go.Proofs.Ytnpmokkifffihaa
open Go.RowKit Go.Deep Exs

/-- Whether the first one's trace is as the second one's begins. -/
def beginsAns (a b : Oc) : Bool := decide (a.trace.length ≤ b.trace.length) && decide (a.trace = b.trace.take a.trace.length)
theorem Reads.first {w : World} {B : Nat} {k : IntKind} {A : Option Addr} {n m : Nat} {xs : List Int} (h : Reads w B k A n xs) (hm : m ≤ n) : Reads w B k A m (xs.take m) := by
  refine ⟨by rw [List.length_take, h.1]; omega, fun hp => ?_⟩
  obtain ⟨b, off, hA, hb, hc⟩ := h.2 (by omega)
  refine ⟨b, off, hA, hb, fun j x hx => hc j x ?_⟩
  rw [List.getElem?_take] at hx
  split at hx
  · exact hx
  · cases hx

set_option maxHeartbeats 1000000 in
set_option maxRecDepth 100000 in
theorem specTraceBegins_any (o p : Oc) (A : Option Addr) (n c : Nat) (b off : Nat) (m d : Nat) (w : World) (hr : Reads w w.heap.size .i64 A n o.trace) (hr' : Reads w w.heap.size .i64 (some ⟨b, off, none⟩) m p.trace) (hs : n ≤ 1048576) (hd : m ≤ d) :
    Calls Try.prog 11 #[ocV o A n c, ocV p (some ⟨b, off, none⟩) m d] w fun e w' => e = .returned (.bool (beginsAns o p)) ∧ Below w.heap.size w w' := by
  have hb0 : Below w.heap.size w ((w.alloc (.cells #[.int .i64 o.code, .int .i64 o.value, .slice A n c, .int .i64 o.used] 27)).alloc (.cells #[.int .i64 p.code, .int .i64 p.value, .slice (some ⟨b, off, none⟩) m d, .int .i64 p.used] 27)) := ((Below.refl _ _).alloc (Nat.le_refl _) _).alloc (by simp) _
  have hx0 : Keep ((w.alloc (.cells #[.int .i64 o.code, .int .i64 o.value, .slice A n c, .int .i64 o.used] 27)).alloc (.cells #[.int .i64 p.code, .int .i64 p.value, .slice (some ⟨b, off, none⟩) m d, .int .i64 p.used] 27)) w.heap.size #[.int .i64 o.code, .int .i64 o.value, .slice A n c, .int .i64 o.used] 27 := (Keep.new _ _ _).alloc _
  have hy0 : Keep ((w.alloc (.cells #[.int .i64 o.code, .int .i64 o.value, .slice A n c, .int .i64 o.used] 27)).alloc (.cells #[.int .i64 p.code, .int .i64 p.value, .slice (some ⟨b, off, none⟩) m d, .int .i64 p.used] 27)) (w.heap.size + 1) #[.int .i64 p.code, .int .i64 p.value, .slice (some ⟨b, off, none⟩) m d, .int .i64 p.used] 27 := by
    have := Keep.new (w.alloc (.cells #[.int .i64 o.code, .int .i64 o.value, .slice A n c, .int .i64 o.used] 27)) #[.int .i64 p.code, .int .i64 p.value, .slice (some ⟨b, off, none⟩) m d, .int .i64 p.used] 27
    rw [World.size_alloc] at this
    exact this

  unfold ocV
  by_cases h1 : n ≤ m
  · have hans := put (show beginsAns o p = decide (o.trace = p.trace.take n) by simp [beginsAns, hr.1, hr'.1, h1])
    have h2 : (n : Int) ≤ m := by omega
    have h3 : n ≤ d := by omega
    have R1 := put (hr.now hb0)
    have R2 := put ((hr'.now hb0).first h1)
    clear hr hr'
    go_enter Try.func11, Try.ntmps11
    go_wp2
    generalize hW : (w.alloc (.cells #[.int .i64 o.code, .int .i64 o.value, .slice A n c, .int .i64 o.used] 27)).alloc (.cells #[.int .i64 p.code, .int .i64 p.value, .slice (some ⟨b, off, none⟩) m d, .int .i64 p.used] 27) = W at hb0 hx0 hy0 R1 R2 ⊢
    clear hW
    have x2 := hx0.cell 2
    have y2 := hy0.cell 2
    simp at x2 y2
    clear hx0 hy0
    go_region_law (first | (go_simp; go_at_call 21; refine (l1Same_any A (some ⟨b, off, none⟩) n n c d o.trace (p.trace.take n) W.drew R1.out R2.out hs hs).mono ?_; rintro e w1 ⟨rfl, q, rfl⟩))
    all_goals (
      go_wp2
      go_ret
      exact ⟨by rw [hans.out]; rfl, below_drewN hb0 _⟩)
  · have hans := put (show beginsAns o p = false by simp [beginsAns, hr.1, hr'.1, h1])
    have h2 : ¬ (n : Int) ≤ m := by omega
    go_enter Try.func11, Try.ntmps11
    go_wp2
    generalize hW : (w.alloc (.cells #[.int .i64 o.code, .int .i64 o.value, .slice A n c, .int .i64 o.used] 27)).alloc (.cells #[.int .i64 p.code, .int .i64 p.value, .slice (some ⟨b, off, none⟩) m d, .int .i64 p.used] 27) = W at hb0 hx0 hy0 ⊢
    clear hW
    have x2 := hx0.cell 2
    have y2 := hy0.cell 2
    simp at x2 y2
    clear hx0 hy0
    go_quiet (fail)
    go_wp2
    go_ret
    exact ⟨by rw [hans.out]; rfl, below_drewN hb0 _⟩

set_option maxHeartbeats 1000000 in
set_option maxRecDepth 100000 in
theorem traceBegins_any (o p : Oc) (A : Option Addr) (n c : Nat) (b off : Nat) (m d : Nat) (w : World) (hr : Reads w w.heap.size .i64 A n o.trace) (hr' : Reads w w.heap.size .i64 (some ⟨b, off, none⟩) m p.trace) (hs : n ≤ 1048576) (hd : m ≤ d) :
    Calls Try.prog 12 #[ocV o A n c, ocV p (some ⟨b, off, none⟩) m d] w fun e w' => e = .returned (.bool (beginsAns o p)) ∧ Below w.heap.size w w' := by
  have hb0 : Below w.heap.size w ((w.alloc (.cells #[.int .i64 o.code, .int .i64 o.value, .slice A n c, .int .i64 o.used] 27)).alloc (.cells #[.int .i64 p.code, .int .i64 p.value, .slice (some ⟨b, off, none⟩) m d, .int .i64 p.used] 27)) := ((Below.refl _ _).alloc (Nat.le_refl _) _).alloc (by simp) _
  have hx0 : Keep ((w.alloc (.cells #[.int .i64 o.code, .int .i64 o.value, .slice A n c, .int .i64 o.used] 27)).alloc (.cells #[.int .i64 p.code, .int .i64 p.value, .slice (some ⟨b, off, none⟩) m d, .int .i64 p.used] 27)) w.heap.size #[.int .i64 o.code, .int .i64 o.value, .slice A n c, .int .i64 o.used] 27 := (Keep.new _ _ _).alloc _
  have hy0 : Keep ((w.alloc (.cells #[.int .i64 o.code, .int .i64 o.value, .slice A n c, .int .i64 o.used] 27)).alloc (.cells #[.int .i64 p.code, .int .i64 p.value, .slice (some ⟨b, off, none⟩) m d, .int .i64 p.used] 27)) (w.heap.size + 1) #[.int .i64 p.code, .int .i64 p.value, .slice (some ⟨b, off, none⟩) m d, .int .i64 p.used] 27 := by
    have := Keep.new (w.alloc (.cells #[.int .i64 o.code, .int .i64 o.value, .slice A n c, .int .i64 o.used] 27)) #[.int .i64 p.code, .int .i64 p.value, .slice (some ⟨b, off, none⟩) m d, .int .i64 p.used] 27
    rw [World.size_alloc] at this
    exact this

  unfold ocV
  by_cases h1 : n ≤ m
  · have hans := put (show beginsAns o p = decide (o.trace = p.trace.take n) by simp [beginsAns, hr.1, hr'.1, h1])
    have h2 : (n : Int) ≤ m := by omega
    have h3 : n ≤ d := by omega
    have R1 := put (hr.now hb0)
    have R2 := put ((hr'.now hb0).first h1)
    clear hr hr'
    go_enter Try.func12, Try.ntmps12
    go_wp2
    generalize hW : (w.alloc (.cells #[.int .i64 o.code, .int .i64 o.value, .slice A n c, .int .i64 o.used] 27)).alloc (.cells #[.int .i64 p.code, .int .i64 p.value, .slice (some ⟨b, off, none⟩) m d, .int .i64 p.used] 27) = W at hb0 hx0 hy0 R1 R2 ⊢
    clear hW
    have x2 := hx0.cell 2
    have y2 := hy0.cell 2
    simp at x2 y2
    clear hx0 hy0
    go_region_law (first | (go_simp; go_at_call 22; refine (slEqual_any A (some ⟨b, off, none⟩) n n c d o.trace (p.trace.take n) W.drew R1.out R2.out hs hs).mono ?_; rintro e w1 ⟨rfl, q, rfl⟩))
    all_goals (
      go_wp2
      go_ret
      exact ⟨by rw [hans.out]; rfl, below_drewN hb0 _⟩)
  · have hans := put (show beginsAns o p = false by simp [beginsAns, hr.1, hr'.1, h1])
    have h2 : ¬ (n : Int) ≤ m := by omega
    go_enter Try.func12, Try.ntmps12
    go_wp2
    generalize hW : (w.alloc (.cells #[.int .i64 o.code, .int .i64 o.value, .slice A n c, .int .i64 o.used] 27)).alloc (.cells #[.int .i64 p.code, .int .i64 p.value, .slice (some ⟨b, off, none⟩) m d, .int .i64 p.used] 27) = W at hb0 hx0 hy0 ⊢
    clear hW
    have x2 := hx0.cell 2
    have y2 := hy0.cell 2
    simp at x2 y2
    clear hx0 hy0
    go_quiet (fail)
    go_wp2
    go_ret
    exact ⟨by rw [hans.out]; rfl, below_drewN hb0 _⟩

end Go.Proofs.Ytnpmokkifffihaa

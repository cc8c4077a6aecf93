/-
  Outcomes compared: the reference's and the program's SameOutcome and TraceBegins, each against one plain answer.
-/
import Derived.Test.YtnpmokkifffihaaOc
namespace Go.Proofs.Ytnpmokkifffihaa
open Go.RowKit Go.Deep Exs

theorem take_same {xs ys : List Int} {k : Nat} {x y : Int} (h : xs.take k = ys.take k) (hx : xs[k]? = some x) (hy : ys[k]? = some y) (e : x = y) : xs.take (k + 1) = ys.take (k + 1) := by
  rw [take_more hx, take_more hy, h, e]
theorem take_differ {xs ys : List Int} {k : Nat} {x y : Int} (hx : xs[k]? = some x) (hy : ys[k]? = some y) (e : ¬ x = y) : decide (xs = ys) = false := by
  refine decide_eq_false fun h => e ?_
  rw [h, hy] at hx
  injection hx with hx
  exact hx.symm

set_option maxHeartbeats 400000 in
set_option maxRecDepth 100000 in
theorem l1Same_any (A A' : Option Addr) (n n' c c' : Nat) (xs ys : List Int) (w : World) (hr : Reads w w.heap.size .i64 A n xs) (hr' : Reads w w.heap.size .i64 A' n' ys) (hn : n ≤ 1048576) (hn' : n' ≤ 1048576) :
    Calls Try.prog 21 #[.slice A n c, .slice A' n' c'] w fun e w' => e = .returned (.bool (decide (xs = ys))) ∧ ∃ q, w' = w.drewN q := by
  by_cases hnn : n = n'
  · subst hnn
    go_enter Try.func21, Try.ntmps21
    go_wp2
    go_loopw [13] (fun i wr => ∃ k q : Nat, k ≤ n ∧ i = .int .i64 k ∧ wr = w.drewN q ∧ Hid (xs.take k = ys.take k)) (fun i _ => n - (intOf i).toNat)
    case atStart => exact ⟨0, 0, Nat.zero_le _, rfl, rfl, put rfl⟩
    case round =>
      obtain ⟨k, q, hk, rfl, rfl, hs⟩ := hrel
      by_cases hlt : k < n
      · obtain ⟨b, off, x, rfl, hb, hc, hx⟩ := hr.at_ hlt
        obtain ⟨b', off', x', rfl, hb', hc', hx'⟩ := hr'.at_ hlt
        by_cases hxx : x = x'
        · have hs' := put (take_same hs.out hx.out hx'.out hxx)
          subst hxx
          go_wp2
          go_quiet (fail)
          go_wp2
          go_roundw
          case rel => exact ⟨k + 1, _, by omega, by go_num, rfl, hs'⟩
          case measure => simp [intOf]; omega
        · have hs' := put (take_differ hx.out hx'.out hxx)
          go_wp2
          go_quiet (fail)
          go_wp2
          go_ret
          exact ⟨by rw [hs'.out]; rfl, q + nq, World.drewN_drewN _ _ _⟩
      · have hfin := put (show decide (xs = ys) = true by
          have h := hs.out
          rw [List.take_of_length_le (by rw [hr.1]; omega), List.take_of_length_le (by rw [hr'.1]; omega)] at h
          exact decide_eq_true h)
        go_wp2
        go_ret
        exact ⟨by rw [hfin.out]; rfl, _, rfl⟩
  · have hfin := put (show decide (xs = ys) = false from decide_eq_false fun h => hnn (by rw [← hr.1, ← hr'.1, h]))
    have hnn' : ¬ (n : Int) = n' := by omega
    go_enter Try.func21, Try.ntmps21
    go_wp2
    go_ret
    exact ⟨by rw [hfin.out]; rfl, 0, rfl⟩

set_option maxHeartbeats 400000 in
set_option maxRecDepth 100000 in
theorem slEqual_any (A A' : Option Addr) (n n' c c' : Nat) (xs ys : List Int) (w : World) (hr : Reads w w.heap.size .i64 A n xs) (hr' : Reads w w.heap.size .i64 A' n' ys) (hn : n ≤ 1048576) (hn' : n' ≤ 1048576) :
    Calls Try.prog 22 #[.slice A n c, .slice A' n' c'] w fun e w' => e = .returned (.bool (decide (xs = ys))) ∧ ∃ q, w' = w.drewN q := by
  by_cases hnn : n = n'
  · subst hnn
    go_enter Try.func22, Try.ntmps22
    go_wp2
    go_loopw [13] (fun i wr => ∃ k q : Nat, k ≤ n ∧ i = .int .i64 k ∧ wr = w.drewN q ∧ Hid (xs.take k = ys.take k)) (fun i _ => n - (intOf i).toNat)
    case atStart => exact ⟨0, 0, Nat.zero_le _, rfl, rfl, put rfl⟩
    case round =>
      obtain ⟨k, q, hk, rfl, rfl, hs⟩ := hrel
      by_cases hlt : k < n
      · obtain ⟨b, off, x, rfl, hb, hc, hx⟩ := hr.at_ hlt
        obtain ⟨b', off', x', rfl, hb', hc', hx'⟩ := hr'.at_ hlt
        by_cases hxx : x = x'
        · have hs' := put (take_same hs.out hx.out hx'.out hxx)
          subst hxx
          go_wp2
          go_quiet (fail)
          go_wp2
          go_roundw
          case rel => exact ⟨k + 1, _, by omega, by go_num, rfl, hs'⟩
          case measure => simp [intOf]; omega
        · have hs' := put (take_differ hx.out hx'.out hxx)
          go_wp2
          go_quiet (fail)
          go_wp2
          go_ret
          exact ⟨by rw [hs'.out]; rfl, q + nq, World.drewN_drewN _ _ _⟩
      · have hfin := put (show decide (xs = ys) = true by
          have h := hs.out
          rw [List.take_of_length_le (by rw [hr.1]; omega), List.take_of_length_le (by rw [hr'.1]; omega)] at h
          exact decide_eq_true h)
        go_wp2
        go_ret
        exact ⟨by rw [hfin.out]; rfl, _, rfl⟩
  · have hfin := put (show decide (xs = ys) = false from decide_eq_false fun h => hnn (by rw [← hr.1, ← hr'.1, h]))
    have hnn' : ¬ (n : Int) = n' := by omega
    go_enter Try.func22, Try.ntmps22
    go_wp2
    go_ret
    exact ⟨by rw [hfin.out]; rfl, 0, rfl⟩

/-- Whether all is the same. -/
def sameAns (a b : Oc) : Bool := decide (a.code = b.code) && (decide (a.value = b.value) && (decide (a.used = b.used) && decide (a.trace = b.trace)))

set_option maxHeartbeats 1000000 in
set_option maxRecDepth 100000 in
theorem specSameOutcome_any (o p : Oc) (A : Option Addr) (n c : Nat) (B : Option Addr) (m d : Nat) (w : World) (hr : Reads w w.heap.size .i64 A n o.trace) (hr' : Reads w w.heap.size .i64 B m p.trace) (hs : n ≤ 1048576) (hs' : m ≤ 1048576) :
    Calls Try.prog 7 #[ocV o A n c, ocV p B m d] w fun e w' => e = .returned (.bool (sameAns o p)) ∧ Below w.heap.size w w' := by
  have hb0 : Below w.heap.size w ((w.alloc (.cells #[.int .i64 o.code, .int .i64 o.value, .slice A n c, .int .i64 o.used] 27)).alloc (.cells #[.int .i64 p.code, .int .i64 p.value, .slice B m d, .int .i64 p.used] 27)) := ((Below.refl _ _).alloc (Nat.le_refl _) _).alloc (by simp) _
  unfold ocV
  by_cases h1 : o.code = p.code
  · by_cases h2 : o.value = p.value
    · by_cases h3 : o.used = p.used
      · have hans := put (show sameAns o p = decide (o.trace = p.trace) by simp [sameAns, h1, h2, h3])
        rw [h1, h2, h3] at hb0 ⊢
        go_enter Try.func7, Try.ntmps7
        go_wp2_with fail
        refine (l1Same_any A B n m c d o.trace p.trace _ (hr.now hb0) (hr'.now hb0) hs hs').mono ?_
        rintro e w1 ⟨rfl, q, rfl⟩
        go_wp2
        go_ret
        exact ⟨by rw [hans.out]; rfl, below_drewN hb0 _⟩
      · have hans := put (show sameAns o p = false by simp [sameAns, h3])
        rw [h1, h2] at hb0 ⊢
        go_enter Try.func7, Try.ntmps7
        go_wp2
        go_ret
        exact ⟨by rw [hans.out]; rfl, hb0⟩
    · have hans := put (show sameAns o p = false by simp [sameAns, h2])
      rw [h1] at hb0 ⊢
      go_enter Try.func7, Try.ntmps7
      go_wp2
      go_ret
      exact ⟨by rw [hans.out]; rfl, hb0⟩
  · have hans := put (show sameAns o p = false by simp [sameAns, h1])
    go_enter Try.func7, Try.ntmps7
    go_wp2
    go_ret
    exact ⟨by rw [hans.out]; rfl, hb0⟩

set_option maxHeartbeats 1000000 in
set_option maxRecDepth 100000 in
theorem sameOutcome_any (o p : Oc) (A : Option Addr) (n c : Nat) (B : Option Addr) (m d : Nat) (w : World) (hr : Reads w w.heap.size .i64 A n o.trace) (hr' : Reads w w.heap.size .i64 B m p.trace) (hs : n ≤ 1048576) (hs' : m ≤ 1048576) :
    Calls Try.prog 9 #[ocV o A n c, ocV p B m d] w fun e w' => e = .returned (.bool (sameAns o p)) ∧ Below w.heap.size w w' := by
  have hb0 : Below w.heap.size w ((w.alloc (.cells #[.int .i64 o.code, .int .i64 o.value, .slice A n c, .int .i64 o.used] 27)).alloc (.cells #[.int .i64 p.code, .int .i64 p.value, .slice B m d, .int .i64 p.used] 27)) := ((Below.refl _ _).alloc (Nat.le_refl _) _).alloc (by simp) _
  unfold ocV
  by_cases h1 : o.code = p.code
  · by_cases h2 : o.value = p.value
    · by_cases h3 : o.used = p.used
      · have hans := put (show sameAns o p = decide (o.trace = p.trace) by simp [sameAns, h1, h2, h3])
        rw [h1, h2, h3] at hb0 ⊢
        go_enter Try.func9, Try.ntmps9
        go_wp2_with fail
        refine (slEqual_any A B n m c d o.trace p.trace _ (hr.now hb0) (hr'.now hb0) hs hs').mono ?_
        rintro e w1 ⟨rfl, q, rfl⟩
        go_wp2
        go_ret
        exact ⟨by rw [hans.out]; rfl, below_drewN hb0 _⟩
      · have hans := put (show sameAns o p = false by simp [sameAns, h3])
        rw [h1, h2] at hb0 ⊢
        go_enter Try.func9, Try.ntmps9
        go_wp2
        go_ret
        exact ⟨by rw [hans.out]; rfl, hb0⟩
    · have hans := put (show sameAns o p = false by simp [sameAns, h2])
      rw [h1] at hb0 ⊢
      go_enter Try.func9, Try.ntmps9
      go_wp2
      go_ret
      exact ⟨by rw [hans.out]; rfl, hb0⟩
  · have hans := put (show sameAns o p = false by simp [sameAns, h1])
    go_enter Try.func9, Try.ntmps9
    go_wp2
    go_ret
    exact ⟨by rw [hans.out]; rfl, hb0⟩

end Go.Proofs.Ytnpmokkifffihaa

/-
  Whether lists of notes are the same.
-/
import Derived.Test.YtcpjddkhclaafaaSm1
namespace Go.Proofs.Ytcpjddkhclaafaa
open Go.RowKit Go.Deep Exs

theorem first_apart {x y z x1 y1 z1 : Int} (h : ¬ (x, y, z) = (x1, y1, z1)) : (¬ x = x1) ∨ (x = x1 ∧ ¬ y = y1) ∨ (x = x1 ∧ y = y1 ∧ ¬ z = z1) := by
  by_cases h1 : x = x1
  · by_cases h2 : y = y1
    · by_cases h3 : z = z1
      · exact absurd (by rw [h1, h2, h3]) h
      · exact .inr (.inr ⟨h1, h2, h3⟩)
    · exact .inr (.inl ⟨h1, h2⟩)
  · exact .inl h1

set_option maxHeartbeats 800000 in
set_option maxRecDepth 100000 in
theorem slEqualN_any (A A' : Option Addr) (n n' c c' : Nat) (xs ys : List Row3) (w : World) (hr : ReadsR w w.heap.size A n xs) (hr' : ReadsR w w.heap.size A' n' ys) (hn : n ≤ 1048576) (hn' : n' ≤ 1048576) :
    Calls Try.prog 35 #[.slice A n c, .slice A' n' c'] w fun e w' => e = .returned (.bool (decide (xs = ys))) ∧ Below w.heap.size w w' := by
  by_cases hnn : n = n'
  · subst hnn
    go_enter Try.func35, Try.ntmps35
    go_wp2
    go_loopw [13] (fun i wr => ∃ k q : Nat, k ≤ n ∧ i = .int .i64 k ∧ wr = w.drewN q ∧ Hid (xs.take k = ys.take k)) (fun i _ => n - (intOf i).toNat)
    case atStart => exact ⟨0, 0, Nat.zero_le _, rfl, rfl, put rfl⟩
    case round =>
      obtain ⟨k, q, hk, rfl, rfl, hs⟩ := hrel
      by_cases hlt : k < n
      · obtain ⟨b, off, x, y, z, rfl, hb, hc1, hc2, hc3, hx⟩ := hr.at_ hlt
        obtain ⟨b', off', x1, y1, z1, rfl, hb', hc'1, hc'2, hc'3, hx'⟩ := hr'.at_ hlt
        by_cases hxx : (x, y, z) = (x1, y1, z1)
        · have hs' := put (take_sameA hs.out hx.out hx'.out hxx)
          obtain ⟨rfl, rfl, rfl⟩ : x = x1 ∧ y = y1 ∧ z = z1 := by simpa using hxx
          go_wp2
          go_quiet (fail)
          go_wp2
          go_roundw
          case rel => exact ⟨k + 1, _, by omega, by go_num, rfl, hs'⟩
          case measure => simp [intOf]; omega
        · have hs' := put (take_differA hx.out hx'.out hxx)
          obtain hne | ⟨rfl, hne⟩ | ⟨rfl, rfl, hne⟩ := first_apart hxx
          all_goals (
            go_wp2
            go_quiet (fail)
            go_wp2
            go_ret
            exact ⟨ret_no hs'.out, below_drewN (below_drewN (Below.refl _ _) _) _⟩)
      · obtain rfl : k = n := by omega
        have hfin := put (all_same hs.out hr.1 hr'.1)
        go_wp2
        go_ret
        exact ⟨ret_yes hfin.out, below_drewN (Below.refl _ _) _⟩
  · have hfin := put (show ¬ xs = ys from fun h => hnn (by rw [← hr.1, ← hr'.1, h]))
    have hnn' : ¬ (n : Int) = n' := by omega
    go_enter Try.func35, Try.ntmps35
    go_wp2
    go_ret
    exact ⟨ret_no hfin.out, Below.refl _ _⟩

end Go.Proofs.Ytcpjddkhclaafaa

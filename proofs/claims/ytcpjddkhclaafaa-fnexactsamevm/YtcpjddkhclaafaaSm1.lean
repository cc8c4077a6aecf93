/-
  Whether frames and machines are the same: the reference's and the program's answer.
-/
import Derived.Test.YtcpjddkhclaafaaMcM
import Derived.Deep.QuietTactic
import Derived.BigQuiet
import Derived.Deep.RegionLaw
namespace Go.Proofs.Ytcpjddkhclaafaa
open Go.RowKit Go.Deep Exs

theorem Fr.eq_iff (a b : Fr) : (a.ide = b.ide ∧ a.fn = b.fn ∧ a.pla = b.pla ∧ a.pile = b.pile ∧ a.vars = b.vars ∧ a.flags = b.flags ∧ a.result = b.result ∧ a.mode = b.mode ∧ a.value = b.value ∧ a.base = b.base ∧ a.off = b.off) ↔ a = b := by cases a; cases b; simp
instance : DecidableEq Fr := fun a b => decidable_of_iff _ (Fr.eq_iff a b)
theorem Mc.eq_iff (a b : Mc) : (a.frames = b.frames ∧ a.trace = b.trace ∧ a.used = b.used ∧ a.code = b.code ∧ a.value = b.value ∧ a.made = b.made ∧ a.notes = b.notes) ↔ a = b := by cases a; cases b; simp
instance : DecidableEq Mc := fun a b => decidable_of_iff _ (Mc.eq_iff a b)
theorem ret_dec {p q : Prop} [Decidable p] [Decidable q] (h : p ↔ q) : Ending.returned (.bool (decide p)) = .returned (.bool (decide q)) := by simp only [h]
theorem ret_yes {p : Prop} [Decidable p] (h : p) : Ending.returned (.bool true) = .returned (.bool (decide p)) := by rw [decide_eq_true h]
theorem ret_no {p : Prop} [Decidable p] (h : ¬ p) : Ending.returned (.bool false) = .returned (.bool (decide p)) := by rw [decide_eq_false h]
theorem take_sameA {α : Type} {xs ys : List α} {k : Nat} {x y : α} (h : xs.take k = ys.take k) (hx : xs[k]? = some x) (hy : ys[k]? = some y) (e : x = y) : xs.take (k + 1) = ys.take (k + 1) := by
  rw [takeA_more hx, takeA_more hy, h, e]
theorem take_differA {α : Type} {xs ys : List α} {k : Nat} {x y : α} (hx : xs[k]? = some x) (hy : ys[k]? = some y) (e : ¬ x = y) : ¬ xs = ys := by
  intro h
  rw [h, hy] at hx
  injection hx with hx
  exact e hx.symm
theorem all_same {α : Type} {xs ys : List α} {n : Nat} (h : xs.take n = ys.take n) (hx : xs.length = n) (hy : ys.length = n) : xs = ys := by
  rwa [List.take_of_length_le (by omega), List.take_of_length_le (by omega)] at h

set_option maxHeartbeats 800000 in
set_option maxRecDepth 100000 in
theorem l1Same_any (A A' : Option Addr) (n n' c c' : Nat) (xs ys : List Int) (w : World) (hr : Reads w w.heap.size .i64 A n xs) (hr' : Reads w w.heap.size .i64 A' n' ys) (hn : n ≤ 1048576) (hn' : n' ≤ 1048576) :
    Calls Try.prog 33 #[.slice A n c, .slice A' n' c'] w fun e w' => e = .returned (.bool (decide (xs = ys))) ∧ Below w.heap.size w w' := by
  by_cases hnn : n = n'
  · subst hnn
    go_enter Try.func33, Try.ntmps33
    go_wp2
    go_loopw [13] (fun i wr => ∃ k q : Nat, k ≤ n ∧ i = .int .i64 k ∧ wr = w.drewN q ∧ Hid (xs.take k = ys.take k)) (fun i _ => n - (intOf i).toNat)
    case atStart => exact ⟨0, 0, Nat.zero_le _, rfl, rfl, put rfl⟩
    case round =>
      obtain ⟨k, q, hk, rfl, rfl, hs⟩ := hrel
      by_cases hlt : k < n
      · obtain ⟨b, off, x, rfl, hb, hc, hx⟩ := hr.at_ hlt
        obtain ⟨b', off', x1, rfl, hb', hc', hx'⟩ := hr'.at_ hlt
        by_cases hxx : x = x1
        · have hs' := put (take_sameA hs.out hx.out hx'.out hxx)
          subst hxx
          go_wp2
          go_quiet (fail)
          go_wp2
          go_roundw
          case rel => exact ⟨k + 1, _, by omega, by go_num, rfl, hs'⟩
          case measure => simp [intOf]; omega
        · have hs' := put (take_differA hx.out hx'.out hxx)
          skip
          all_goals (
            go_wp2
            go_quiet (fail)
            go_wp2
            go_ret
            exact ⟨ret_no hs'.out, below_drewN (below_drewN (Below.refl _ _) _) _⟩)
      · obtain rfl : k = n := by omega
        have hfin := put (all_same hs.out hr.1 hr'.1)
        go_wp2
        go_ret
        exact ⟨ret_yes hfin.out, below_drewN (Below.refl _ _) _⟩
  · have hfin := put (show ¬ xs = ys from fun h => hnn (by rw [← hr.1, ← hr'.1, h]))
    have hnn' : ¬ (n : Int) = n' := by omega
    go_enter Try.func33, Try.ntmps33
    go_wp2
    go_ret
    exact ⟨ret_no hfin.out, Below.refl _ _⟩

set_option maxHeartbeats 800000 in
set_option maxRecDepth 100000 in
theorem slEqual_any (A A' : Option Addr) (n n' c c' : Nat) (xs ys : List Int) (w : World) (hr : Reads w w.heap.size .i64 A n xs) (hr' : Reads w w.heap.size .i64 A' n' ys) (hn : n ≤ 1048576) (hn' : n' ≤ 1048576) :
    Calls Try.prog 34 #[.slice A n c, .slice A' n' c'] w fun e w' => e = .returned (.bool (decide (xs = ys))) ∧ Below w.heap.size w w' := by
  by_cases hnn : n = n'
  · subst hnn
    go_enter Try.func34, Try.ntmps34
    go_wp2
    go_loopw [13] (fun i wr => ∃ k q : Nat, k ≤ n ∧ i = .int .i64 k ∧ wr = w.drewN q ∧ Hid (xs.take k = ys.take k)) (fun i _ => n - (intOf i).toNat)
    case atStart => exact ⟨0, 0, Nat.zero_le _, rfl, rfl, put rfl⟩
    case round =>
      obtain ⟨k, q, hk, rfl, rfl, hs⟩ := hrel
      by_cases hlt : k < n
      · obtain ⟨b, off, x, rfl, hb, hc, hx⟩ := hr.at_ hlt
        obtain ⟨b', off', x1, rfl, hb', hc', hx'⟩ := hr'.at_ hlt
        by_cases hxx : x = x1
        · have hs' := put (take_sameA hs.out hx.out hx'.out hxx)
          subst hxx
          go_wp2
          go_quiet (fail)
          go_wp2
          go_roundw
          case rel => exact ⟨k + 1, _, by omega, by go_num, rfl, hs'⟩
          case measure => simp [intOf]; omega
        · have hs' := put (take_differA hx.out hx'.out hxx)
          skip
          all_goals (
            go_wp2
            go_quiet (fail)
            go_wp2
            go_ret
            exact ⟨ret_no hs'.out, below_drewN (below_drewN (Below.refl _ _) _) _⟩)
      · obtain rfl : k = n := by omega
        have hfin := put (all_same hs.out hr.1 hr'.1)
        go_wp2
        go_ret
        exact ⟨ret_yes hfin.out, below_drewN (Below.refl _ _) _⟩
  · have hfin := put (show ¬ xs = ys from fun h => hnn (by rw [← hr.1, ← hr'.1, h]))
    have hnn' : ¬ (n : Int) = n' := by omega
    go_enter Try.func34, Try.ntmps34
    go_wp2
    go_ret
    exact ⟨ret_no hfin.out, Below.refl _ _⟩

set_option maxHeartbeats 800000 in
set_option maxRecDepth 100000 in
theorem slEqualB_any (A A' : Option Addr) (n n' c c' : Nat) (xs ys : List Bool) (w : World) (hr : ReadsB w w.heap.size A n xs) (hr' : ReadsB w w.heap.size A' n' ys) (hn : n ≤ 1048576) (hn' : n' ≤ 1048576) :
    Calls Try.prog 45 #[.slice A n c, .slice A' n' c'] w fun e w' => e = .returned (.bool (decide (xs = ys))) ∧ Below w.heap.size w w' := by
  by_cases hnn : n = n'
  · subst hnn
    go_enter Try.func45, Try.ntmps45
    go_wp2
    go_loopw [13] (fun i wr => ∃ k q : Nat, k ≤ n ∧ i = .int .i64 k ∧ wr = w.drewN q ∧ Hid (xs.take k = ys.take k)) (fun i _ => n - (intOf i).toNat)
    case atStart => exact ⟨0, 0, Nat.zero_le _, rfl, rfl, put rfl⟩
    case round =>
      obtain ⟨k, q, hk, rfl, rfl, hs⟩ := hrel
      by_cases hlt : k < n
      · obtain ⟨b, off, x, rfl, hb, hc, hx⟩ := hr.at_ hlt
        obtain ⟨b', off', x1, rfl, hb', hc', hx'⟩ := hr'.at_ hlt
        by_cases hxx : x = x1
        · have hs' := put (take_sameA hs.out hx.out hx'.out hxx)
          subst hxx
          go_wp2
          go_quiet (fail)
          go_wp2
          go_roundw
          case rel => exact ⟨k + 1, _, by omega, by go_num, rfl, hs'⟩
          case measure => simp [intOf]; omega
        · have hs' := put (take_differA hx.out hx'.out hxx)
          obtain ⟨rfl, rfl⟩ | ⟨rfl, rfl⟩ : (x = true ∧ x1 = false) ∨ (x = false ∧ x1 = true) := by revert hxx; cases x <;> cases x1 <;> simp
          all_goals (
            go_wp2
            go_quiet (fail)
            go_wp2
            go_ret
            exact ⟨ret_no hs'.out, below_drewN (below_drewN (Below.refl _ _) _) _⟩)
      · obtain rfl : k = n := by omega
        have hfin := put (all_same hs.out hr.1 hr'.1)
        go_wp2
        go_ret
        exact ⟨ret_yes hfin.out, below_drewN (Below.refl _ _) _⟩
  · have hfin := put (show ¬ xs = ys from fun h => hnn (by rw [← hr.1, ← hr'.1, h]))
    have hnn' : ¬ (n : Int) = n' := by omega
    go_enter Try.func45, Try.ntmps45
    go_wp2
    go_ret
    exact ⟨ret_no hfin.out, Below.refl _ _⟩

end Go.Proofs.Ytcpjddkhclaafaa

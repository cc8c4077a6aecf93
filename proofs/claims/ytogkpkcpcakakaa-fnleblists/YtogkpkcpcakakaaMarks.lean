/-
  Contracts of the laws' own markUint64S and heldUint64S.
-/
import Derived.Test.YtogkpkcpcakakaaSpecReadList
namespace Go.Proofs.Ytogkpkcpcakakaa
open Go.RowKit Leb

/-- The numbers 1, 2, .. -/
def ups (n : Nat) : List Int := (List.range n).map fun j => ((j + 1 : Nat) : Int)
theorem ups_more (n : Nat) : ups (n + 1) = ups n ++ [(n : Int) + 1] := by simp [ups, List.range_succ]
theorem ups_length (n : Nat) : (ups n).length = n := by simp [ups]
theorem ups_get {n i : Nat} (h : i < n) : (ups n).getD i 0 = (i : Int) + 1 := by
  simp [ups, List.getD, h]

theorem Room.none_ {w : World} {g : Nat} {t : TypeId} {c : Nat} {k : IntKind} {xs : List Int} (h : Room w g t c k xs) : Room w g t c k [] := by
  obtain ⟨cs, h1, h2, _⟩ := h
  exact ⟨cs, h1, h2, rfl⟩

theorem grownBy_set {a w : World} {g : Nat} (h : a.grownBy w (some g)) (j : Nat) (u : Value) : a.grownBy (w.setCell ⟨g, j, none⟩ u) (some g) :=
  ⟨h.os, h.tape, h.output, by simpa [World.setCell] using h.size, fun i hi hne => (Below.heap_setCell w ⟨g, j, none⟩ u i (fun e => hne (by rw [e]))).trans (h.block i hi hne)⟩

set_option maxHeartbeats 400000 in
set_option maxRecDepth 100000 in
theorem mark_any (g n : Nat) (xs : List Int) (w : World) (hr : Room w g 24 n .u64 xs) (hn : n ≤ 1048576) :
    Calls Try.prog 36 #[.slice (some ⟨g, 0, none⟩) n n, .int .i64 1] w fun e w' => e = .returned (.int .i64 ((n : Int) + 1)) ∧ Room w' g 24 n .u64 (ups n) ∧ w.grownBy w' (some g) := by
  go_enter Try.func36, Try.ntmps36
  go_wp2
  go_loopw [1, 5] (fun u i wr => ∃ k : Nat, k ≤ n ∧ i = .int .i64 k ∧ u = .int .i64 ((k : Int) + 1) ∧ Room wr g 24 n .u64 (ups k) ∧ w.grownBy wr (some g)) (fun _ i _ => n - (intOf i).toNat)
  case atStart => exact ⟨0, Nat.zero_le _, rfl, rfl, hr.none_, World.grownBy.refl _ _⟩
  case round =>
    obtain ⟨k, hk, rfl, rfl, hroom, hg⟩ := hrel
    by_cases hlt : k < n
    · obtain ⟨c0, hc0⟩ := hroom.at_ k hlt
      have hfr := hroom.frozen k
      have hpush := hroom.push (by rw [ups_length]; exact hlt) ((k : Int) + 1)
      rw [ups_length, ← ups_more] at hpush
      have HP := put hpush; clear hpush
      go_wp2
      go_roundw
      case rel => exact ⟨k + 1, by omega, by go_num, by go_num, HP.out, grownBy_set hg k _⟩
      case measure => simp [intOf]; omega
    · obtain rfl : k = n := by omega
      go_wp2
      go_ret
      exact ⟨rfl, hroom, hg⟩

set_option maxHeartbeats 400000 in
set_option maxRecDepth 100000 in
theorem held_any (g n : Nat) (w : World) (hr : Room w g 24 n .u64 (ups n)) (hn : n ≤ 1048576) :
    Calls Try.prog 37 #[.slice (some ⟨g, 0, none⟩) n n, .int .i64 1] w fun e w' => e = .returned (.int .i64 ((n : Int) + 1)) ∧ w = w' := by
  go_enter Try.func37, Try.ntmps37
  go_wp2
  go_loop [1, 5] (fun u i => ∃ k : Nat, k ≤ n ∧ i = .int .i64 k ∧ u = .int .i64 ((k : Int) + 1)) (fun _ i => n - (intOf i).toNat)
  case atStart => exact ⟨0, Nat.zero_le _, rfl, rfl⟩
  case round =>
    obtain ⟨k, hk, rfl, rfl⟩ := hrel
    by_cases hlt : k < n
    · have hc := hr.cell k (by rw [ups_length]; exact hlt)
      rw [ups_get hlt] at hc
      go_wp2
      go_round
      case rel => exact ⟨k + 1, by omega, by go_num, by go_num⟩
      case measure => simp [intOf]; omega
    · obtain rfl : k = n := by omega
      go_wp2
      go_ret
      exact ⟨rfl, rfl⟩

set_option maxHeartbeats 400000 in
set_option maxRecDepth 100000 in
theorem mark_nil (w : World) : Calls Try.prog 36 #[.slice none 0 0, .int .i64 1] w fun e w' => e = .returned (.int .i64 1) ∧ w = w' := by
  go_enter Try.func36, Try.ntmps36
  go_wp2
  refine wp_loop_rounds 1 ?_
  rw [rounds_succ]
  go_wp2
  go_ret
  exact ⟨rfl, rfl⟩

set_option maxHeartbeats 400000 in
set_option maxRecDepth 100000 in
theorem held_nil (w : World) : Calls Try.prog 37 #[.slice none 0 0, .int .i64 1] w fun e w' => e = .returned (.int .i64 1) ∧ w = w' := by
  go_enter Try.func37, Try.ntmps37
  go_wp2
  refine wp_loop_rounds 1 ?_
  rw [rounds_succ]
  go_wp2
  go_ret
  exact ⟨rfl, rfl⟩

/-- A row of numbers of the call's own, as a slice that is read. -/
theorem Nums.reads {w : World} {B : Nat} {e : TypeId} {k : IntKind} {v : Value} {xs : List Int} (h : Nums w B e k v xs) : ∃ A c, v = .slice A xs.length c ∧ Reads w w.heap.size k A xs.length xs := by
  rcases h.2 with ⟨rfl, hn⟩ | ⟨g, cap, cur, rfl, hB, hg, hnc, _, hcs, htk⟩
  · exact ⟨none, 0, by rw [hn], rfl, fun h0 => by omega⟩
  · have hlt : g < w.heap.size := (Array.getElem?_eq_some_iff.1 hg).1
    have hroom : Room w g e cap k xs := by
      have h0 := h.1
      simp only [Nat.mul_one] at hcs htk
      exact ⟨cur, hg ▸ hg, hcs, htk⟩
    exact ⟨_, cap, rfl, rfl, fun _ => ⟨g, 0, rfl, hlt, fun j x hx => by
      have hj : j < xs.length := (List.getElem?_eq_some_iff.1 hx).1
      rw [Nat.zero_add, hroom.cell j hj]
      simp [List.getD, hx]⟩⟩

theorem readMany_length (s : ByteArray) : ∀ (k p : Nat) (l : List Int) (e : Nat), readMany s k p = some (l, e) → l.length = k
  | 0, p, l, e, h => by
    rw [readMany] at h
    injection h with h
    injection h with h1 _
    rw [← h1]; rfl
  | k + 1, p, l, e, h => by
    rw [readMany] at h
    split at h
    · obtain ⟨⟨l', e'⟩, h1, h2⟩ := Option.map_eq_some_iff.1 h
      injection h2 with h3 _
      rw [← h3, List.length_cons, readMany_length s k _ l' e' h1]
    · cases h
theorem listAt_length {s : ByteArray} {a : Int} {l : List Int} {e : Nat} (h : listAt s a = some (l, e)) : l.length ≤ 200 := by
  unfold listAt at h
  split at h
  · unfold readList at h
    split at h
    · rename_i hc
      have := readMany_length s _ _ l e h
      omega
    · cases h
  · cases h

end Go.Proofs.Ytogkpkcpcakakaa

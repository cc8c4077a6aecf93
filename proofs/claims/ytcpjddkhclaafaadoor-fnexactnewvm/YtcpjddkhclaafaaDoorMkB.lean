/-
  The laws' marks on rows of truths of a call's own, from whatever number on.
-/
import Derived.Test.YtcpjddkhclaafaaDoorMkc
import Derived.Test.YtcpjddkhclaafaaDoorVzD
namespace Go.Proofs.YtcpjddkhclaafaaDoor
open Go.RowKit Exs

/-- Whether the numbers from a on are threefold. -/
def thf (a : Int) (n : Nat) : List Bool := (List.range n).map fun (j : Nat) => (a + (j : Int)) % 3 == 0
theorem thf_more (a : Int) (n : Nat) : thf a (n + 1) = thf a n ++ [(a + (n : Int)) % 3 == 0] := by simp [thf, List.range_succ]
theorem thf_length (a : Int) (n : Nat) : (thf a n).length = n := by simp [thf]
theorem thf_get {a : Int} {n i : Nat} (h : i < n) : (thf a n)[i]? = some ((a + (i : Int)) % 3 == 0) := by simp [thf, h]

set_option maxHeartbeats 400000 in
set_option maxRecDepth 100000 in
theorem markBool_own (g n : Nat) (bs : List Bool) (a : Int) (w : World) (h : RoomV w g 4 n (bs.map Value.bool)) (hn : n ≤ 1048576) (ha0 : 0 ≤ a) (ha1 : a ≤ 1000000000) :
    Calls Tryd.prog 42 #[.slice (some ⟨g, 0, none⟩) n n, .int .i64 a] w fun e w' => e = .returned (.int .i64 (a + (n : Int))) ∧ RoomV w' g 4 n ((thf a n).map Value.bool) ∧ w.grownBy w' (some g) := by
  have hr0 : RoomV w g 4 n ((thf a 0).map Value.bool) := by obtain ⟨cs, h1, h2, _⟩ := h; exact ⟨cs, h1, h2, fun j v hj => by simp [thf] at hj⟩
  clear h
  go_enter Tryd.func42, Tryd.ntmps42
  go_wp2
  go_loopw [1, 5] (fun u i wr => ∃ k : Nat, k ≤ n ∧ i = .int .i64 k ∧ u = .int .i64 (a + (k : Int)) ∧ RoomV wr g 4 n ((thf a k).map Value.bool) ∧ w.grownBy wr (some g)) (fun _ i _ => n - (intOf i).toNat)
  case atStart => exact ⟨0, Nat.zero_le _, rfl, by simp, hr0, World.grownBy.refl _ _⟩
  case round =>
    obtain ⟨k, hk, rfl, rfl, hroom, hg⟩ := hrel
    clear hr0
    by_cases hlt : k < n
    · obtain ⟨c0, hc0⟩ := hroom.at_ k (by omega)
      have hf0 := hroom.frozen k
      have p0 := hroom.push (by simp [thf_length]; omega) (.bool ((a + (k : Int)) % 3 == 0))
      rw [List.length_map, thf_length, show (thf a k).map Value.bool ++ [.bool ((a + (k : Int)) % 3 == 0)] = (thf a (k + 1)).map Value.bool by rw [thf_more]; simp] at p0
      have HP := put p0
      have HG := put (grownBy_mk hg k (.bool ((a + (k : Int)) % 3 == 0)))
      clear p0
      go_wp2
      go_roundw
      case rel => exact ⟨k + 1, by omega, by go_num, by first | (congr 1; done) | (congr 1; omega), HP.out, HG.out⟩
      case measure => simp [intOf]; omega
    · obtain rfl : k = n := by omega
      go_wp2
      go_ret
      exact ⟨rfl, hroom, hg⟩

set_option maxHeartbeats 400000 in
set_option maxRecDepth 100000 in
theorem heldBool_own (g n : Nat) (a : Int) (w : World) (h : RoomV w g 4 n ((thf a n).map Value.bool)) (hn : n ≤ 1048576) (ha0 : 0 ≤ a) (ha1 : a ≤ 1000000000) :
    Calls Tryd.prog 43 #[.slice (some ⟨g, 0, none⟩) n n, .int .i64 a] w fun e w' => e = .returned (.int .i64 (a + (n : Int))) ∧ ∃ q, w' = w.drewN q := by
  go_enter Tryd.func43, Tryd.ntmps43
  go_wp2
  go_loopw [1, 5] (fun u i wr => ∃ k q : Nat, k ≤ n ∧ i = .int .i64 k ∧ u = .int .i64 (a + (k : Int)) ∧ wr = w.drewN q) (fun _ i _ => n - (intOf i).toNat)
  case atStart => exact ⟨0, 0, Nat.zero_le _, rfl, by simp, rfl⟩
  case round =>
    obtain ⟨k, q, hk, rfl, rfl, rfl⟩ := hrel
    by_cases hlt : k < n
    · have hc0 := h.cell (j := k) (v := .bool ((a + (k : Int)) % 3 == 0)) (by rw [List.getElem?_map, thf_get hlt]; rfl)
      go_wp2

      go_roundw
      case rel => exact ⟨k + 1, _, by omega, by go_num, by first | (congr 1; done) | (congr 1; omega), rfl⟩
      case measure => simp [intOf]; omega
    · obtain rfl : k = n := by omega
      go_wp2
      go_ret
      exact ⟨rfl, _, rfl⟩

end Go.Proofs.YtcpjddkhclaafaaDoor

/-
  The laws' marks on rows of a call's own, from whatever number on; on a code of a call's own.
-/
import Derived.Test.YtcpjddkhclaafaaDoorTokMem
namespace Go.Proofs.YtcpjddkhclaafaaDoor
open Go.RowKit Exs

/-- n numbers from a on. -/
def upf (a : Int) (n : Nat) : List Int := (List.range n).map fun (j : Nat) => a + (j : Int)
theorem upf_more (a : Int) (n : Nat) : upf a (n + 1) = upf a n ++ [a + (n : Int)] := by simp [upf, List.range_succ]
theorem upf_length (a : Int) (n : Nat) : (upf a n).length = n := by simp [upf]
theorem upf_get {a : Int} {n i : Nat} (h : i < n) : (upf a n).getD i 0 = a + (i : Int) := by simp [upf, List.getD, h]
theorem upf_1 (a : Int) (k : Nat) : upf a ((k + 1) * 1) = upf a (k * 1) ++ [a + 1 * (k : Int)] := by
  rw [show (k + 1) * 1 = k * 1 + 1 by omega, upf_more]
  simp
theorem upf_2 (a : Int) (k : Nat) : upf a ((k + 1) * 2) = upf a (k * 2) ++ [a + 2 * (k : Int)] ++ [a + 2 * (k : Int) + 1] := by
  rw [show (k + 1) * 2 = k * 2 + 1 + 1 by omega, upf_more, upf_more, show a + ((k * 2 : Nat) : Int) = a + 2 * (k : Int) by omega, show a + ((k * 2 + 1 : Nat) : Int) = a + 2 * (k : Int) + 1 by omega]
theorem upf_3 (a : Int) (k : Nat) : upf a ((k + 1) * 3) = upf a (k * 3) ++ [a + 3 * (k : Int)] ++ [a + 3 * (k : Int) + 1] ++ [a + 3 * (k : Int) + 1 + 1] := by
  rw [show (k + 1) * 3 = k * 3 + 1 + 1 + 1 by omega, upf_more, upf_more, upf_more, show a + ((k * 3 : Nat) : Int) = a + 3 * (k : Int) by omega, show a + ((k * 3 + 1 : Nat) : Int) = a + 3 * (k : Int) + 1 by omega, show a + ((k * 3 + 1 + 1 : Nat) : Int) = a + 3 * (k : Int) + 1 + 1 by omega]
/-- Numbers in a row of a call's own whose elements are of sz cells. -/
def RN (w : World) (B e sz : Nat) (v : Value) (n : Nat) (xs : List Int) : Prop := w.ownsRow B e sz v n (xs.map (Value.int .i64))
theorem RN.to_room {w : World} {B e sz n : Nat} {v : Value} {xs : List Int} (h : RN w B e sz v n xs) : (v = .slice none 0 0 ∧ n = 0) ∨ ∃ g c, v = .slice (some ⟨g, 0, none⟩) n c ∧ B ≤ g ∧ Room w g e (c * sz) .i64 xs ∧ n ≤ c ∧ c ≤ maxLen := by
  have h1 : xs.length = n * sz := by simpa using h.1
  rcases h.2 with ⟨rfl, hn⟩ | ⟨g, cap, cur, rfl, hB, hg, hnc, hm, hcs, htk⟩
  · exact .inl ⟨rfl, hn⟩
  · exact .inr ⟨g, cap, rfl, hB, ⟨cur, hg, hcs, by rw [h1]; exact htk⟩, hnc, hm⟩
theorem RN.of_room {w : World} {B e sz g n c : Nat} {xs : List Int} (h : Room w g e (c * sz) .i64 xs) (hB : B ≤ g) (hx : xs.length = n * sz) (hl : n ≤ c) (hc : c ≤ maxLen) : RN w B e sz (.slice (some ⟨g, 0, none⟩) n c) n xs := by
  obtain ⟨cs, h1, h2, h3⟩ := h
  exact ⟨by simpa using hx, .inr ⟨g, c, cs, rfl, hB, h1, hl, hc, h2, by rw [← hx]; exact h3⟩⟩
theorem Room.none_mk {w : World} {g : Nat} {t : TypeId} {c : Nat} {k : IntKind} {xs : List Int} (h : Room w g t c k xs) : Room w g t c k [] := by
  obtain ⟨cs, h1, h2, _⟩ := h
  exact ⟨cs, h1, h2, rfl⟩
theorem grownBy_mk {a w : World} {g : Nat} (h : a.grownBy w (some g)) (j : Nat) (u : Value) : a.grownBy (w.setCell ⟨g, j, none⟩ u) (some g) :=
  ⟨h.os, h.tape, h.output, by simpa [World.setCell] using h.size, fun i hi hne => (Below.heap_setCell w ⟨g, j, none⟩ u i (fun e => hne (by rw [e]))).trans (h.block i hi hne)⟩

set_option maxHeartbeats 400000 in
set_option maxRecDepth 100000 in
theorem markInt_own (v : Value) (n : Nat) (xs : List Int) (B : Nat) (a : Int) (w : World) (h : RN w B 3 1 v n xs) (hn : n ≤ 1048576) (ha0 : 0 ≤ a) (ha1 : a ≤ 1000000000) :
    Calls Tryd.prog 25 #[v, .int .i64 a] w fun e w' => e = .returned (.int .i64 (a + (n : Int))) ∧ RN w' B 3 1 v n (upf a (n)) ∧ w.grownBy w' v.ownBlock := by
  rcases h.to_room with ⟨rfl, rfl⟩ | ⟨g, c, rfl, hB, hroom, hl, hc⟩
  · have H : RN w B 3 1 (.slice none 0 0) 0 (upf a 0) := World.ownsRow_nil _ _ _ _
    go_enter Tryd.func25, Tryd.ntmps25
    go_wp2
    refine wp_loop_rounds 1 ?_
    rw [rounds_succ]
    go_wp2
    go_ret
    exact ⟨by simp, H, World.grownBy.refl _ _⟩
  · rw [Nat.mul_one] at hroom
    clear h
    have HC := put hc
    have hr0 := hroom.none_mk
    clear hroom hc
    go_enter Tryd.func25, Tryd.ntmps25
    go_wp2
    go_loopw [1, 5] (fun u i wr => ∃ k : Nat, k ≤ n ∧ i = .int .i64 k ∧ u = .int .i64 (a + (k : Int)) ∧ Room wr g 3 (c) .i64 (upf a k) ∧ w.grownBy wr (some g)) (fun _ i _ => n - (intOf i).toNat)
    case atStart => exact ⟨0, Nat.zero_le _, rfl, by simp, by simpa [upf] using hr0, World.grownBy.refl _ _⟩
    case round =>
      obtain ⟨k, hk, rfl, rfl, hroom, hg⟩ := hrel
      clear hr0
      by_cases hlt : k < n
      · obtain ⟨c0, hc0⟩ := hroom.at_ (k) (by omega)
        have hf0 := hroom.frozen (k)
        have p0 := hroom.push (by simp [upf_length]; omega) (a + (k : Int))
        simp only [upf_length] at p0
        rw [← upf_more] at p0
        have HP := put p0
        have HG := put (grownBy_mk hg (k) (.int .i64 (a + (k : Int))))
        clear p0
        go_wp2
        go_roundw
        case rel => exact ⟨k + 1, by omega, by go_num, by first | (congr 1; done) | (congr 1; omega), HP.out, HG.out⟩
        case measure => simp [intOf]; omega
      · obtain rfl : k = n := by omega
        go_wp2
        go_ret
        exact ⟨rfl, RN.of_room (by rw [Nat.mul_one]; exact hroom) hB (by rw [upf_length, Nat.mul_one]) hl HC.out, hg⟩

set_option maxHeartbeats 400000 in
set_option maxRecDepth 100000 in
theorem heldInt_own (v : Value) (n : Nat) (B : Nat) (a : Int) (w : World) (h : RN w B 3 1 v n (upf a (n))) (hn : n ≤ 1048576) (ha0 : 0 ≤ a) (ha1 : a ≤ 1000000000) :
    Calls Tryd.prog 28 #[v, .int .i64 a] w fun e w' => e = .returned (.int .i64 (a + (n : Int))) ∧ w = w' := by
  rcases h.to_room with ⟨rfl, rfl⟩ | ⟨g, c, rfl, hB, hroom, hl, hc⟩
  · go_enter Tryd.func28, Tryd.ntmps28
    go_wp2
    refine wp_loop_rounds 1 ?_
    rw [rounds_succ]
    go_wp2
    go_ret
    exact ⟨by simp, rfl⟩
  · rw [Nat.mul_one] at hroom
    clear hc h
    go_enter Tryd.func28, Tryd.ntmps28
    go_wp2
    go_loop [1, 5] (fun u i => ∃ k : Nat, k ≤ n ∧ i = .int .i64 k ∧ u = .int .i64 (a + (k : Int))) (fun _ i => n - (intOf i).toNat)
    case atStart => exact ⟨0, Nat.zero_le _, rfl, by simp⟩
    case round =>
      obtain ⟨k, hk, rfl, rfl⟩ := hrel
      by_cases hlt : k < n
      · have hc0 := hroom.cell (k) (by rw [upf_length]; omega)
        rw [upf_get (by omega)] at hc0
        go_wp2
        go_round
        case rel => exact ⟨k + 1, by omega, by go_num, by first | (congr 1; done) | (congr 1; omega)⟩
        case measure => simp [intOf]; omega
      · obtain rfl : k = n := by omega
        go_wp2
        go_ret
        exact ⟨rfl, rfl⟩

end Go.Proofs.YtcpjddkhclaafaaDoor

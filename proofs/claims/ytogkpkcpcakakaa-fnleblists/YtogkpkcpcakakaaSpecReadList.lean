/-
  The contract of the reference's ReadListU.
-/
import Derived.Test.YtogkpkcpcakakaaReadList
namespace Go.Proofs.Ytogkpkcpcakakaa
open Go.RowKit Leb

/-- The answer of the reference's ReadListU in memory. -/
def GotNums (B : Nat) (o : Option (List Int × Nat)) (w : World) (e : Ending) (w' : World) : Prop :=
  (∀ l p, o = some (l, p) → ∃ v, e = .returned (.tuple #[v, .int .i64 p, .bool true]) ∧ Nums w' B 24 .u64 v l) ∧
  (o = none → e = .returned (.tuple #[.slice none 0 0, .int .i64 0, .bool false])) ∧ Below B w w'

theorem Nums.below {w w' : World} {B C : Nat} {e : TypeId} {k : IntKind} {v : Value} {xs : List Int} (h : Nums w B e k v xs) (hb : Below C w w') (hC : w.heap.size ≤ C) : Nums w' B e k v xs := by
  refine ⟨h.1, ?_⟩
  rcases h.2 with hn | ⟨g, cap, cur, rfl, hB, hg, r⟩
  · exact .inl hn
  · exact .inr ⟨g, cap, cur, rfl, hB, by rw [hb.block g (Nat.lt_of_lt_of_le (Array.getElem?_eq_some_iff.1 hg).1 hC)]; exact hg, r⟩

set_option maxHeartbeats 400000 in
set_option maxRecDepth 100000 in
theorem specReadList_many (s : ByteArray) (a many p0 : Nat) (w : World) (hs : s.size ≤ 2000) (ha : a ≤ s.size) (hp0 : p0 ≤ s.size) (hmany : many ≤ 200) (code : Int) (HR : Hid (readU s a = ⟨many, p0, code, true⟩)) :
    Calls Try.prog 33 #[.string s, .int .i64 a] w (GotNums w.heap.size (readMany s many p0) w) := by
  go_enter Try.func33, Try.ntmps33
  go_wp2_with fail
  refine (specReadU_any s a _ hs ha).mono ?_
  rintro e w1 ⟨rfl, hb1⟩
  rw [HR.out]
  unfold Read.told
  go_wp2_with fail
  go_loopw [8, 11, 12] (fun q v i wr => ∃ (k p : Nat) (ys : List Int), k ≤ many ∧ p ≤ s.size ∧ i = .int .u64 k ∧ q = .int .i64 p ∧ Hid (ys.length = k) ∧ Nums wr w.heap.size 24 .u64 v ys ∧ Hid (readMany s many p0 = (readMany s (many - k) p).map fun r => (ys ++ r.1, r.2)) ∧ Below w.heap.size w wr) (fun _ _ i _ => many - (intOf i).toNat)
  case atStart => exact ⟨0, p0, [], Nat.zero_le _, hp0, rfl, rfl, rfl, Nums.nil _ _ _ _, by show _ = _; simp, hb1⟩
  case round =>
    obtain ⟨k, p, ys, hk, hp, rfl, rfl, hlen, hown, hmore, hbel⟩ := hrel
    by_cases hlt : k < many
    · generalize hr : readU s p = r
      have HP := put hr; clear hr
      have hb := readU_bounds (s := s) (a := p) hp
      rw [HP.out] at hb
      rcases hb with ⟨h1, h2, h3, q, h4, h5⟩ | ⟨h1, h2, h3⟩
      · obtain ⟨num, place, cd, fine⟩ := r
        obtain rfl : fine = true := h1
        obtain rfl : place = q := h4
        have hnext := put (many_next hlt hmore.out (by rw [HP.out]) (by rw [HP.out]) (by rw [HP.out]))
        have hyl : ys.length ≤ 1000000 := by rw [hlen.out]; omega
        clear hmore
        go_wp2_with fail
        refine (specReadU_any s p _ hs hp).mono ?_
        rintro e w2 ⟨rfl, hb2⟩
        rw [HP.out]
        unfold Read.told
        have hown2 := hown.below hb2 (Nat.le_refl _)
        have hbel2 : Below w.heap.size w w2 := hbel.trans (hb2.mono hbel.size)
        clear hown hbel hb2
        go_wp2_with (at_builtin; refine wpList_append_one rfl _ _ 36 rfl w.heap.size 24 .u64 8 Try.info24 Try.underlying36 (by decide) _ ys rfl w (hbel2.alloc hbel2.size _) (by have := hbel2.size; simp; omega) (hown2.alloc _) w2.heap.size num rfl (by simp) (by omega) ?_)
        intro v' w3 hown' hbel' _
        go_wp2
        go_roundw
        case rel => exact ⟨k + 1, q, ys ++ [num], by omega, h5, by go_num, rfl, by show _ = _; rw [List.length_append, hlen.out]; rfl, hown', hnext.out, hbel'⟩
        case measure => simp [intOf]; omega
      · obtain ⟨num, place, cd, fine⟩ := r
        obtain rfl : fine = false := h1
        obtain rfl : num = 0 := h2
        obtain rfl : place = 0 := h3
        have hnone := put (many_fail hlt hmore.out (by rw [HP.out]))
        clear hmore
        go_wp2_with fail
        refine (specReadU_any s p _ hs hp).mono ?_
        rintro e w2 ⟨rfl, hb2⟩
        rw [HP.out]
        unfold Read.told
        go_wp2
        go_ret3
        exact ⟨fun l q h => (by rw [hnone.out] at h; cases h), fun _ => rfl, hbel.trans (hb2.mono hbel.size)⟩
    · have hdone := put (many_done hlt hmore.out)
      clear hmore
      go_wp2
      go_ret3
      refine ⟨fun l q h => ?_, fun h => (by rw [hdone.out] at h; cases h), hbel⟩
      rw [hdone.out] at h
      injection h with h
      injection h with h1 h2
      subst h1 h2
      exact ⟨_, rfl, hown⟩

set_option maxHeartbeats 400000 in
set_option maxRecDepth 100000 in
theorem specReadList_none (s : ByteArray) (a : Nat) (w : World) (hs : s.size ≤ 2000) (ha : a ≤ s.size) (num place code : Int) (fine : Bool) (HR : Hid (readU s a = ⟨num, place, code, fine⟩)) (h : fine = false ∨ (fine = true ∧ 200 < num ∧ num ≤ 18446744073709551615)) :
    Calls Try.prog 33 #[.string s, .int .i64 a] w fun e w' => e = .returned (.tuple #[.slice none 0 0, .int .i64 0, .bool false]) ∧ Below w.heap.size w w' := by
  rcases h with rfl | ⟨rfl, h1, h2⟩
  all_goals
    go_enter Try.func33, Try.ntmps33
    go_wp2_with fail
    refine (specReadU_any s a _ hs ha).mono ?_
    rintro e w1 ⟨rfl, hb1⟩
    rw [HR.out]
    unfold Read.told
    go_wp2
    go_ret3
    exact ⟨rfl, hb1⟩

set_option maxHeartbeats 400000 in
set_option maxRecDepth 100000 in
theorem specReadList_bad (s : ByteArray) (a : Int) (w : World) (hs : s.size ≤ 9223372036854775807) (h : 2000 < s.size ∨ a < 0 ∨ (s.size : Int) < a) :
    Calls Try.prog 33 #[.string s, .int .i64 a] w fun e w' => e = .returned (.tuple #[.slice none 0 0, .int .i64 0, .bool false]) ∧ w = w' := by
  go_enter Try.func33, Try.ntmps33
  go_wp2_with fail
  refine (specReadU_bad s a _ hs h).mono ?_
  rintro e w1 ⟨rfl, rfl⟩
  go_wp2
  go_ret3
  exact ⟨rfl, rfl⟩

theorem specReadList_is (s : ByteArray) (a : Int) (w : World) (hs : s.size ≤ 9223372036854775807) : Calls Try.prog 33 #[.string s, .int .i64 a] w (GotNums w.heap.size (listAt s a) w) := by
  by_cases h : s.size ≤ 2000 ∧ 0 ≤ a ∧ a ≤ s.size
  · unfold listAt
    rw [if_pos h]
    obtain ⟨h1, h2, h3⟩ := h
    obtain ⟨p, rfl⟩ := Int.eq_ofNat_of_zero_le h2
    have hp : p ≤ s.size := by omega
    rw [Int.toNat_natCast]
    unfold readList
    generalize hr : readU s p = r
    have hb := readU_bounds (s := s) (a := p) hp
    rw [hr] at hb
    obtain ⟨num, place, code, fine⟩ := r
    rcases hb with ⟨k1, k2, k3, q, k4, k5⟩ | ⟨k1, k2, k3⟩
    · obtain rfl : fine = true := k1
      obtain rfl : place = q := k4
      by_cases k6 : num ≤ 200
      · rw [if_pos ⟨rfl, k6⟩]
        obtain ⟨m, rfl⟩ := Int.eq_ofNat_of_zero_le k2
        have k6' : m ≤ 200 := by have : ((m : Nat) : Int) ≤ 200 := k6; omega
        exact specReadList_many s p m q w h1 hp k5 k6' code hr
      · rw [if_neg (fun k => k6 k.2)]
        refine (specReadList_none s p w h1 hp _ _ _ _ hr (.inr ⟨rfl, by have : ¬ num ≤ 200 := k6; omega, k3⟩)).mono ?_
        rintro e w' ⟨rfl, hb⟩
        exact ⟨fun l q h => (by cases h), fun _ => rfl, hb⟩
    · obtain rfl : fine = false := k1
      rw [if_neg (fun k => by simp at k)]
      refine (specReadList_none s p w h1 hp _ _ _ _ hr (.inl rfl)).mono ?_
      rintro e w' ⟨rfl, hb⟩
      exact ⟨fun l q h => (by cases h), fun _ => rfl, hb⟩
  · unfold listAt
    rw [if_neg h]
    refine (specReadList_bad s a w hs (by omega)).mono ?_
    rintro e w' ⟨rfl, rfl⟩
    exact ⟨fun l q h => (by cases h), fun _ => rfl, Below.refl _ _⟩

end Go.Proofs.Ytogkpkcpcakakaa

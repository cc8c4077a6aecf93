/-
  Contracts of the functions that read a list of numbers: the program's ReadListU and the reference's.
-/
import Derived.Test.YtogkpkcpcakakaaSpecReadU
import Derived.Test.YtogkpkcpcakakaaList
namespace Go.Proofs.Ytogkpkcpcakakaa
open Go.RowKit Leb

/-- So many numbers, one behind the other, from a place on: they and the place behind them. -/
def readMany (s : ByteArray) : Nat → Nat → Option (List Int × Nat)
  | 0, p => some ([], p)
  | k + 1, p => if (readU s p).fine = true then (readMany s k (readU s p).place.toNat).map fun r => ((readU s p).num :: r.1, r.2) else none

/-- What ReadListU answers. -/
def readList (s : ByteArray) (a : Nat) : Option (List Int × Nat) :=
  if (readU s a).fine = true ∧ (readU s a).num ≤ 200 then readMany s (readU s a).num.toNat (readU s a).place.toNat else none

/-- What is fine lies in the text. -/
theorem readU_bounds {s : ByteArray} {a : Nat} (ha : a ≤ s.size) : ((readU s a).fine = true ∧ 0 ≤ (readU s a).num ∧ (readU s a).num ≤ 18446744073709551615 ∧ ∃ p : Nat, (readU s a).place = p ∧ p ≤ s.size) ∨ ((readU s a).fine = false ∧ (readU s a).num = 0 ∧ (readU s a).place = 0) := by
  rcases ends_shape s a ha with ⟨L, hL1, hL2, hL3, hE, hsh⟩ | hE | hE
  · have hlen : (seg s a (a + L)).length = L := by rw [seg_length s a (a + L) (by omega) hL3]; omega
    rcases faultU_cases (seg s a (a + L)) with ⟨hf, _⟩ | ⟨_, hf, _⟩ | ⟨h10, hf, _⟩
    · right; rw [readU_fault hE hf (by decide)]; exact ⟨rfl, rfl, rfl⟩
    · right; rw [readU_fault hE hf (by decide)]; exact ⟨rfl, rfl, rfl⟩
    · left
      rw [readU_fine hE hf]
      have := val_u64 hsh (by omega) h10
      exact ⟨rfl, by simp, by simp; omega, a + L, rfl, hL3⟩
  · right; rw [readU_none hE (by decide)]; exact ⟨rfl, rfl, rfl⟩
  · right; rw [readU_none hE (by decide)]; exact ⟨rfl, rfl, rfl⟩

theorem readMany_step {s : ByteArray} {k p q : Nat} {x : Int} (h1 : (readU s p).fine = true) (h2 : (readU s p).place = q) (h3 : (readU s p).num = x) : readMany s (k + 1) p = (readMany s k q).map fun r => (x :: r.1, r.2) := by
  rw [readMany, if_pos h1, h2, h3, Int.toNat_natCast]
theorem readMany_stop {s : ByteArray} {k p : Nat} (h1 : (readU s p).fine = false) : readMany s (k + 1) p = none := by
  rw [readMany, if_neg (by simp [h1])]

theorem many_next {s : ByteArray} {many k p q a : Nat} {x : Int} {ys : List Int} (hk : k < many) (h : readMany s many a = (readMany s (many - k) p).map fun r => (ys ++ r.1, r.2))
    (h1 : (readU s p).fine = true) (h2 : (readU s p).place = q) (h3 : (readU s p).num = x) : readMany s many a = (readMany s (many - (k + 1)) q).map fun r => ((ys ++ [x]) ++ r.1, r.2) := by
  rw [h, show many - k = (many - (k + 1)) + 1 by omega, readMany_step h1 h2 h3, Option.map_map]
  congr 1
  funext r
  simp
theorem many_fail {s : ByteArray} {many k p a : Nat} {ys : List Int} (hk : k < many) (h : readMany s many a = (readMany s (many - k) p).map fun r => (ys ++ r.1, r.2))
    (h1 : (readU s p).fine = false) : readMany s many a = none := by
  rw [h, show many - k = (many - (k + 1)) + 1 by omega, readMany_stop h1]; rfl
theorem many_done {s : ByteArray} {many k p a : Nat} {ys : List Int} (hk : ¬ k < many) (h : readMany s many a = (readMany s (many - k) p).map fun r => (ys ++ r.1, r.2)) : readMany s many a = some (ys, p) := by
  rw [h, show many - k = 0 by omega, readMany]; simp

/-- The answer of the program's ReadListU in memory. -/
def GotRow (B : Nat) (o : Option (List Int × Nat)) (w : World) (e : Ending) (w' : World) : Prop :=
  (∀ l p, o = some (l, p) → e = .returned (.tuple #[.slice (some ⟨B, 0, none⟩) l.length l.length, .int .i64 p, .bool true]) ∧ Room w' B 24 l.length .u64 l) ∧
  (o = none → e = .returned (.tuple #[.slice none 0 0, .int .i64 0, .bool false])) ∧ Below B w w'

set_option maxHeartbeats 400000 in
set_option maxRecDepth 100000 in
theorem readList_many (s : ByteArray) (a many p0 : Nat) (w : World) (hs : s.size ≤ 2000) (ha : a ≤ s.size) (hp0 : p0 ≤ s.size) (hmany : many ≤ 200) (code : Int) (HR : Hid (readU s a = ⟨many, p0, code, true⟩)) :
    Calls Try.prog 30 #[.string s, .int .i64 a] w (GotRow w.heap.size (readMany s many p0) w) := by
  have hmk := fun W => run_make_row' (P := Try.prog) 36 24 (.int .u64 0) 8 Try.underlying36 Try.info24 rfl .u64 .u64 many (by omega) (by omega) W
  go_enter Try.func30, Try.ntmps30
  go_wp2_with fail
  refine (readU_any s a _ hs ha).mono ?_
  rintro e w1 ⟨rfl, rfl⟩
  rw [HR.out]
  unfold Read.told
  go_wp2_with fail
  clear hmk
  go_loopw [8, 31] (fun q i wr => ∃ (k p : Nat) (ys : List Int), k ≤ many ∧ p ≤ s.size ∧ i = .int .i64 k ∧ q = .int .i64 p ∧ Hid (ys.length = k) ∧ Room wr w.heap.size 24 many .u64 ys ∧ Hid (readMany s many p0 = (readMany s (many - k) p).map fun r => (ys ++ r.1, r.2)) ∧ Below w.heap.size w wr) (fun _ i _ => many - (intOf i).toNat)
  case atStart => exact ⟨0, p0, [], Nat.zero_le _, hp0, rfl, rfl, rfl, Room.made w 24 many .u64, by show _ = _; simp, (Below.refl _ _).alloc (Nat.le_refl _) _⟩
  case round =>
    obtain ⟨k, p, ys, hk, hp, rfl, rfl, hlen, hroom, hmore, hbel⟩ := hrel
    by_cases hlt : k < many
    · obtain ⟨c0, hc0⟩ := hroom.at_ k hlt
      have hfr := hroom.frozen k
      generalize hr : readU s p = r
      have HP := put hr; clear hr
      have hb := readU_bounds (s := s) (a := p) hp
      rw [HP.out] at hb
      rcases hb with ⟨h1, h2, h3, q, h4, h5⟩ | ⟨h1, h2, h3⟩
      · obtain ⟨num, place, cd, fine⟩ := r
        obtain rfl : fine = true := h1
        obtain rfl : place = q := h4
        have hpush := hroom.push (by rw [hlen.out]; exact hlt) num
        rw [hlen.out] at hpush
        have HN := put hpush; clear hpush
        have hnext := put (many_next hlt hmore.out (by rw [HP.out]) (by rw [HP.out]) (by rw [HP.out]))
        clear hmore
        go_wp2_with fail
        refine (readU_any s p _ hs hp).mono ?_
        rintro e w2 ⟨rfl, rfl⟩
        rw [HP.out]
        unfold Read.told
        go_wp2
        go_roundw
        case rel => exact ⟨k + 1, q, ys ++ [num], by omega, h5, by go_num, rfl, by show _ = _; rw [List.length_append, hlen.out]; rfl, HN.out, hnext.out, hbel.setCell (by simp) _⟩
        case measure => simp [intOf]; omega
      · obtain ⟨num, place, cd, fine⟩ := r
        obtain rfl : fine = false := h1
        obtain rfl : num = 0 := h2
        obtain rfl : place = 0 := h3
        have hnone := put (many_fail hlt hmore.out (by rw [HP.out]))
        clear hmore
        go_wp2_with fail
        refine (readU_any s p _ hs hp).mono ?_
        rintro e w2 ⟨rfl, rfl⟩
        rw [HP.out]
        unfold Read.told
        go_wp2
        go_ret3
        exact ⟨fun l q h => (by rw [hnone.out] at h; cases h), fun _ => rfl, hbel.setCell (by simp) _⟩
    · have hdone := put (many_done hlt hmore.out)
      have hkm : k = many := by omega
      have HK := put hkm; clear hkm hmore
      go_wp2
      go_ret3
      refine ⟨fun l q h => ?_, fun h => (by rw [hdone.out] at h; cases h), hbel⟩
      rw [hdone.out] at h
      injection h with h
      injection h with h1 h2
      subst h1 h2
      have hl : ys.length = many := by rw [hlen.out, HK.out]
      rw [hl]
      exact ⟨rfl, hroom⟩

set_option maxHeartbeats 400000 in
set_option maxRecDepth 100000 in
theorem readList_none (s : ByteArray) (a : Nat) (w : World) (hs : s.size ≤ 2000) (ha : a ≤ s.size) (num place code : Int) (fine : Bool) (HR : Hid (readU s a = ⟨num, place, code, fine⟩)) (h : fine = false ∨ (fine = true ∧ 200 < num ∧ num ≤ 18446744073709551615)) :
    Calls Try.prog 30 #[.string s, .int .i64 a] w fun e w' => e = .returned (.tuple #[.slice none 0 0, .int .i64 0, .bool false]) ∧ w = w' := by
  rcases h with rfl | ⟨rfl, h1, h2⟩
  all_goals
    go_enter Try.func30, Try.ntmps30
    go_wp2_with fail
    refine (readU_any s a _ hs ha).mono ?_
    rintro e w1 ⟨rfl, rfl⟩
    rw [HR.out]
    unfold Read.told
    go_wp2
    go_ret3
    exact ⟨rfl, rfl⟩

set_option maxHeartbeats 400000 in
set_option maxRecDepth 100000 in
theorem readList_bad (s : ByteArray) (a : Int) (w : World) (hs : s.size ≤ 9223372036854775807) (h : 2000 < s.size ∨ a < 0 ∨ (s.size : Int) < a) :
    Calls Try.prog 30 #[.string s, .int .i64 a] w fun e w' => e = .returned (.tuple #[.slice none 0 0, .int .i64 0, .bool false]) ∧ w = w' := by
  go_enter Try.func30, Try.ntmps30
  go_wp2_with fail
  refine (readU_bad s a _ hs h).mono ?_
  rintro e w1 ⟨rfl, rfl⟩
  go_wp2
  go_ret3
  exact ⟨rfl, rfl⟩

/-- The list that stands at a place, none where the text or the place is not as said. -/
def listAt (s : ByteArray) (a : Int) : Option (List Int × Nat) := if s.size ≤ 2000 ∧ 0 ≤ a ∧ a ≤ s.size then readList s a.toNat else none

theorem readList_is (s : ByteArray) (a : Int) (w : World) (hs : s.size ≤ 9223372036854775807) : Calls Try.prog 30 #[.string s, .int .i64 a] w (GotRow w.heap.size (listAt s a) w) := by
  by_cases h : s.size ≤ 2000 ∧ 0 ≤ a ∧ a ≤ s.size
  · unfold listAt
    rw [if_pos h]
    obtain ⟨h1, h2, h3⟩ := h
    obtain ⟨p, rfl⟩ := Int.eq_ofNat_of_zero_le h2
    have hp : p ≤ s.size := by omega
    rw [Int.toNat_natCast]
    unfold readList
    generalize hr : readU s p = r
    have hb := readU_bounds (s := s) (a := p) hp
    rw [hr] at hb
    obtain ⟨num, place, code, fine⟩ := r
    rcases hb with ⟨k1, k2, k3, q, k4, k5⟩ | ⟨k1, k2, k3⟩
    · obtain rfl : fine = true := k1
      obtain rfl : place = q := k4
      by_cases k6 : num ≤ 200
      · rw [if_pos ⟨rfl, k6⟩]
        obtain ⟨m, rfl⟩ := Int.eq_ofNat_of_zero_le k2
        have k6' : m ≤ 200 := by have : ((m : Nat) : Int) ≤ 200 := k6; omega
        exact readList_many s p m q w h1 hp k5 k6' code hr
      · rw [if_neg (fun k => k6 k.2)]
        refine (readList_none s p w h1 hp _ _ _ _ hr (.inr ⟨rfl, by have : ¬ num ≤ 200 := k6; omega, k3⟩)).mono ?_
        rintro e w' ⟨rfl, rfl⟩
        exact ⟨fun l q h => (by cases h), fun _ => rfl, Below.refl _ _⟩
    · obtain rfl : fine = false := k1
      rw [if_neg (fun k => by simp at k)]
      refine (readList_none s p w h1 hp _ _ _ _ hr (.inl rfl)).mono ?_
      rintro e w' ⟨rfl, rfl⟩
      exact ⟨fun l q h => (by cases h), fun _ => rfl, Below.refl _ _⟩
  · unfold listAt
    rw [if_neg h]
    refine (readList_bad s a w hs (by omega)).mono ?_
    rintro e w' ⟨rfl, rfl⟩
    exact ⟨fun l q h => (by cases h), fun _ => rfl, Below.refl _ _⟩

end Go.Proofs.Ytogkpkcpcakakaa

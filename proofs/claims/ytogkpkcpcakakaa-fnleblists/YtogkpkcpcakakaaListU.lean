/-
  The contract of the program's ListU.
-/
import Derived.Test.YtogkpkcpcakakaaList
import Derived.Test.YtogkpkcpcakakaaLongU
import Derived.Deep.RegionLaw
namespace Go.Proofs.Ytogkpkcpcakakaa
open Go.RowKit Leb

theorem allU_take_le : ∀ (xs : List Int) (k : Nat), (allU (xs.take k)).length ≤ (allU xs).length
  | [], k => by simp
  | x :: r, 0 => by simp [allU]
  | x :: r, k + 1 => by
    have := allU_take_le r k
    simp only [allU, List.take_succ_cons, List.flatMap_cons, List.length_append] at *
    omega

theorem Try.size5 : (Try.prog.info? 5).map (·.size) = some 1 := by kernel_rfl

set_option maxHeartbeats 1000000 in
set_option maxRecDepth 100000 in
theorem listU_any (A : Option Addr) (n c : Nat) (xs : List Int) (w : World) (hr : Reads w w.heap.size .u64 A n xs) (hn : n ≤ 200) (hf : Hid (Fits xs)) (r : List Int) (b : Bool) (hv : Hid ((r, b) = if (listU xs).length ≤ 2000 then (listU xs, true) else ([], false))) :
    Calls Try.prog 28 #[.slice A n c] w fun e w' => e = .returned (.tuple #[.string (strOfNums r), .bool b]) ∧ Below w.heap.size w w' := by
  go_enter Try.func28, Try.ntmps28
  go_wp2_with fail
  refine (longU_any n _ (by omega)).mono ?_
  rintro e w1 ⟨rfl, rfl⟩
  go_wp2_with fail
  go_loop [4, 20] (fun l i => ∃ (k m : Nat), k ≤ n ∧ i = .int .i64 k ∧ l = .int .i64 m ∧ m ≤ 3000 ∧ Hid (m = (putU n ++ allU (xs.take k)).length)) (fun _ i => n - (intOf i).toNat)
  case atStart => exact ⟨0, (putU n).length, Nat.zero_le _, rfl, rfl, by have := putU_length_u64 (n := n) (by omega); omega, by show _ = _; simp [allU]⟩
  case round =>
    obtain ⟨k, m, hk, rfl, rfl, hm3, hm⟩ := hrel
    by_cases hlt : k < n
    · obtain ⟨b, off, x, rfl, hb, hc, hx⟩ := hr.at_ hlt
      have hx1 := hf.out.at_ hx.out
      obtain ⟨y, rfl⟩ := Int.eq_ofNat_of_zero_le hx1.1
      have hy := hx1.2; clear hx1
      have hnext := put (show m + (putU y).length = (putU n ++ allU (xs.take (k + 1))).length by rw [allU_more hx.out, hm.out]; simp [Nat.add_assoc])
      have hbd : m + (putU y).length ≤ 3000 := by
        rw [hnext.out, ← strOfNums_size]
        exact gathered_length hf.out hn (k := k + 1) (by omega) rfl
      have hl10 := putU_length_u64 (n := y) (by omega)
      go_wp2_with fail
      refine (longU_any y _ hy).mono ?_
      rintro e w2 ⟨rfl, rfl⟩
      go_wp2
      go_round
      case rel => exact ⟨k + 1, m + (putU y).length, by omega, by go_num, by go_num, hbd, hnext⟩
      case measure => simp [intOf]; omega
    · have hall := put (show m = (listU xs).length by rw [hm.out, List.take_of_length_le (by rw [hr.1]; omega), listU, hr.1])
      by_cases hbig : m ≤ 2000
      · have hfin := put (show r = listU xs ∧ b = true by
          have h1 := hv.out
          rw [← hall.out, if_pos hbig] at h1
          exact ⟨congrArg Prod.fst h1, congrArg Prod.snd h1⟩)
        have hmk := fun W => run_make_row' (P := Try.prog) 22 5 (.int .u8 0) 1 Try.underlying22 Try.info5 rfl .i64 .i64 m (by omega) (by omega) W
        have hln := putU_length_u64 (n := n) (by omega)
        have hfit : (putU n).length ≤ m := by rw [hall.out, listU, hr.1, List.length_append]; omega
        clear hm
        go_wp2_with fail
        refine (lebBytesU_any n _ (by omega)).mono ?_
        rintro e w2 ⟨rfl, hroom2, hb2⟩
        clear hmk
        have hroom : Room w2 w.heap.size 5 m .u8 [] := (Room.made w 5 m .u8).below hb2 (by simp)
        have hbel : Below w.heap.size w w2 := ((Below.refl _ _).alloc (Nat.le_refl _) _).trans (hb2.mono (by simp))
        obtain ⟨cur, hcur, hcl, hct⟩ := hroom.cells
        have hsrc := hroom2.source
        simp only [World.size_alloc] at hsrc
        have HS := put hsrc
        clear hsrc hroom hroom2 hb2
        go_wp2_with ((with_reducible refine wpList_copy_splice rfl (.tmp 33) (.tmp 37) 22 22 rfl 5 Try.underlying22 Try.size5 (some ⟨w.heap.size, 0, none⟩) (some ⟨w.heap.size + 1, 0, none⟩) m m (putU n).length (putU n).length rfl rfl w.heap.size 0 cur 5 hcur.out ((putU n).map (Value.int .u8)) (by rw [List.length_map]; exact (Nat.min_eq_left hfit).symm) (fun _ => ⟨rfl, _, rfl, HS.out⟩) (by rw [List.length_map, hcl]; omega) (nums_oneCell _ _) w.heap.size w hbel (Nat.le_refl _) ?_); intro w3 hcur3 hb3)
        have hroom3 : Room w3 w.heap.size 5 m .u8 ([] ++ putU n) := Room.splice (xs := []) hcur3.out hcl hct.out (by simpa using hfit)
        clear hcur hct HS hcur3 hbel hcl cur
        go_wp2_with fail
        go_loopw [8, 41] (fun p i wr => ∃ (k : Nat) (ys : List Int), k ≤ n ∧ i = .int .i64 k ∧ p = .int .i64 ys.length ∧ Hid (ys = putU n ++ allU (xs.take k)) ∧ Room wr w.heap.size 5 m .u8 ys ∧ Below w.heap.size w wr) (fun _ i _ => n - (intOf i).toNat)
        case atStart => exact ⟨0, putU n, Nat.zero_le _, rfl, by simp, by show _ = _; simp [allU], hroom3, hb3⟩
        case round =>
          clear hroom3 hb3
          obtain ⟨k, ys, hk, rfl, rfl, hys, hroom, hbel⟩ := hrel
          by_cases hlt : k < n
          · obtain ⟨b, off, x, rfl, hb, hc, hx⟩ := (hr.below hbel).at_ hlt
            have hx1 := hf.out.at_ hx.out
            obtain ⟨y, rfl⟩ := Int.eq_ofNat_of_zero_le hx1.1
            have hy := hx1.2; clear hx1
            have hnext := put (show ys ++ putU y = putU n ++ allU (xs.take (k + 1)) by rw [allU_more hx.out, hys.out, List.append_assoc]; rfl)
            have hpre : ys.length + (putU y).length ≤ m := by
              have h1 : (putU n ++ allU (xs.take (k + 1))).length ≤ (putU n ++ allU xs).length := by
                rw [List.length_append, List.length_append]
                exact Nat.add_le_add_left (allU_take_le xs (k + 1)) _
              rw [← hnext.out, List.length_append] at h1
              rw [hall.out, listU, hr.1]
              exact h1
            have hly := putU_length_pos y
            have hl10 := putU_length_u64 (n := y) (by omega)
            have hlt2 : ys.length ≤ m := by omega
            have hne2 : ¬ m = ys.length := by omega
            have hmin := put (show ((putU y).map (Value.int .u8)).length = Nat.min (putU y).length (m - ys.length) by rw [List.length_map]; exact (Nat.min_eq_left (by omega)).symm)
            have hgl : w.heap.size < wr.heap.size := hroom.lt
            clear hall hfin
            go_wp2_with fail
            clear hc
            go_region_law (first
              | (refine step_copy_splice rfl (.tmp 48) (.tmp 50) 22 22 rfl 5 Try.underlying22 Try.size5 (some ⟨w.heap.size, ys.length, none⟩) (some ⟨wr.heap.size, 0, none⟩) (m - ys.length) (m - ys.length) (putU y).length (putU y).length (by simp [Act.eval]) (by simp [Act.eval]) w.heap.size ys.length cur 5 hcur.out ((putU y).map (Value.int .u8)) hmin.out (fun _ => ⟨rfl, _, rfl, HS.out⟩) (by rw [List.length_map, hcl]; omega) (nums_oneCell _ _) w.heap.size w hbel4 (Nat.le_refl _) ?_; intro w5 hcur5 hb5)
              | (go_simp; go_at_call 39; refine (lebBytesU_any y _ hy).mono ?_; rintro e w4 ⟨rfl, hroom4, hb4⟩; obtain ⟨cur, hcur, hcl, hct⟩ := (Room.below (w := wr.drew) hroom hb4 hgl).cells; have HS := put hroom4.source; have hbel4 := hbel.drew.trans (hb4.mono (Nat.le_of_lt hgl)); clear hroom4))
            have hroom5 := put (Room.splice (xs := ys) (ys := putU y) hcur5.out hcl hct.out hpre)
            clear hcur hct hcl hcur5 HS hmin
            go_wp2
            go_roundw
            case rel => exact ⟨k + 1, ys ++ putU y, by omega, by go_num, by rw [List.length_append]; simp, hnext, hroom5.out, hb5⟩
            case measure => simp [intOf]; omega
          · have hy1 := put (show ys = listU xs by rw [hys.out, List.take_of_length_le (by rw [hr.1]; omega), listU, hr.1])
            have hyl : ys.length = m := by rw [hy1.out]; exact hall.out.symm
            have hconv := run_convert_bytes_arg (P := Try.prog) wr 22 5 Try.underlying22 Try.underlying5 w.heap.size 0 m m ys hyl (fun i hi => by rw [Nat.zero_add]; exact hroom.cell i (by omega)) 9 Try.underlying9
            have HY := put hyl; clear hyl
            go_wp2
            go_ret2
            exact ⟨by rw [hfin.out.1, hfin.out.2, ← hy1.out]; rfl, hbel⟩
      · have hfin := put (show r = [] ∧ b = false by
          have h1 := hv.out
          rw [← hall.out, if_neg hbig] at h1
          exact ⟨congrArg Prod.fst h1, congrArg Prod.snd h1⟩)
        go_wp2
        go_ret2
        exact ⟨by rw [hfin.out.1, hfin.out.2]; rfl, Below.refl _ _⟩

set_option maxHeartbeats 400000 in
set_option maxRecDepth 100000 in
theorem listU_many (A : Option Addr) (n c : Nat) (w : World) (h1 : 200 < n) (h2 : n ≤ 1048576) :
    Calls Try.prog 28 #[.slice A n c] w fun e w' => e = .returned (.tuple #[.string (strOfNums []), .bool false]) ∧ Below w.heap.size w w' := by
  go_enter Try.func28, Try.ntmps28
  go_wp2
  go_ret2
  exact ⟨rfl, Below.refl _ _⟩

/-- What ListU answers. -/
def listAns (xs : List Int) : List Int × Bool := if xs.length ≤ 200 ∧ (listU xs).length ≤ 2000 then (listU xs, true) else ([], false)

theorem listAns_few {xs : List Int} (h : xs.length ≤ 200) : ((listAns xs).1, (listAns xs).2) = if (listU xs).length ≤ 2000 then (listU xs, true) else ([], false) := by
  unfold listAns
  by_cases h2 : (listU xs).length ≤ 2000
  · rw [if_pos ⟨h, h2⟩, if_pos h2]
  · rw [if_neg (fun h3 => h2 h3.2), if_neg h2]
theorem listAns_many {xs : List Int} (h : 200 < xs.length) : listAns xs = ([], false) := by
  unfold listAns
  rw [if_neg (fun h3 => by omega)]

/-- The reference's ListU of any numbers. -/
theorem specListU_is (A : Option Addr) (n c : Nat) (xs : List Int) (w : World) (hr : Reads w w.heap.size .u64 A n xs) (hn : n ≤ 1048576) (hf : Fits xs) :
    Calls Try.prog 29 #[.slice A n c] w fun e w' => e = .returned (.tuple #[.string (strOfNums (listAns xs).1), .bool (listAns xs).2]) ∧ Below w.heap.size w w' := by
  by_cases h : n ≤ 200
  · exact specListU_any A n c xs w hr h hf _ _ (listAns_few (by rw [hr.1]; exact h))
  · rw [listAns_many (by rw [hr.1]; omega)]
    exact specListU_many A n c w (by omega) hn
/-- The program's ListU of any numbers. -/
theorem listU_is (A : Option Addr) (n c : Nat) (xs : List Int) (w : World) (hr : Reads w w.heap.size .u64 A n xs) (hn : n ≤ 1048576) (hf : Fits xs) :
    Calls Try.prog 28 #[.slice A n c] w fun e w' => e = .returned (.tuple #[.string (strOfNums (listAns xs).1), .bool (listAns xs).2]) ∧ Below w.heap.size w w' := by
  by_cases h : n ≤ 200
  · exact listU_any A n c xs w hr h hf _ _ (listAns_few (by rw [hr.1]; exact h))
  · rw [listAns_many (by rw [hr.1]; omega)]
    exact listU_many A n c w (by omega) hn

end Go.Proofs.Ytogkpkcpcakakaa

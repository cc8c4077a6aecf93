/-
  Contracts on lists of numbers: the laws' own toUint64S and eqUint64S, the reference's ListU.
-/
import Derived.Test.YtogkpkcpcakakaaMem
import Derived.Test.YtogkpkcpcakakaaPutU
import Derived.Deep.QuietTactic
import Derived.BigQuiet
namespace Go.Proofs.Ytogkpkcpcakakaa
open Go.RowKit Leb

theorem Try.info24 : (Try.prog.info? 24).map (fun i => (i.zero, i.size, i.bytes)) = some (some (.int .u64 0), 1, 8) := by kernel_rfl

set_option maxHeartbeats 400000 in
set_option maxRecDepth 100000 in
theorem toU_any (A : Option Addr) (n c : Nat) (xs : List Int) (w : World) (hr : Reads w w.heap.size .u64 A n xs) (hn : n ≤ 1048576) :
    Calls Try.prog 34 #[.slice A n c] w fun e w' => e = .returned (.slice (some ⟨w.heap.size, 0, none⟩) n n) ∧ Room w' w.heap.size 24 n .u64 xs ∧ Below w.heap.size w w' := by
  have hmk := fun W => run_make_row' (P := Try.prog) 36 24 (.int .u64 0) 8 Try.underlying36 Try.info24 rfl .i64 .i64 n (by omega) (by omega) W
  go_enter Try.func34, Try.ntmps34
  go_wp2
  go_loopw [4] (fun i wr => ∃ k : Nat, k ≤ n ∧ i = .int .i64 k ∧ Room wr w.heap.size 24 n .u64 (xs.take k) ∧ Below w.heap.size w wr) (fun i _ => n - (intOf i).toNat)
  case atStart => exact ⟨0, Nat.zero_le _, rfl, Room.made w 24 n .u64, (Below.refl _ _).alloc (Nat.le_refl _) _⟩
  case round =>
    obtain ⟨k, hk, rfl, hroom, hbel⟩ := hrel
    clear hmk
    by_cases hlt : k < n
    · obtain ⟨b, off, x, rfl, hb, hc, hx⟩ := (hr.below hbel).at_ hlt
      obtain ⟨c0, hc0⟩ := hroom.at_ k hlt
      have hfr := hroom.frozen k
      have hlen : (xs.take k).length = k := by rw [List.length_take, hr.1]; omega
      have hpush := hroom.push (by rw [hlen]; exact hlt) x
      rw [hlen, ← take_more hx.out] at hpush
      have HP := put hpush; clear hpush hlen
      go_wp2
      go_roundw
      case rel => exact ⟨k + 1, by omega, by go_num, HP.out, hbel.setCell (by simp) _⟩
      case measure => simp [intOf]; omega
    · have hfin := put (show xs.take k = xs from List.take_of_length_le (by rw [hr.1]; omega))
      go_wp2
      go_ret
      exact ⟨rfl, by rw [hfin.out] at hroom; exact hroom, hbel⟩

set_option maxHeartbeats 400000 in
set_option maxRecDepth 100000 in
theorem eqU_same (A A' : Option Addr) (n c c' : Nat) (xs : List Int) (w : World) (hr : Reads w w.heap.size .u64 A n xs) (hr' : Reads w w.heap.size .u64 A' n xs) (hn : n ≤ 1048576) :
    Calls Try.prog 35 #[.slice A n c, .slice A' n c'] w fun e w' => e = .returned (.bool true) ∧ ∃ q, w' = w.drewN q := by
  go_enter Try.func35, Try.ntmps35
  go_wp2
  go_loopw [5] (fun i wr => ∃ k q : Nat, k ≤ n ∧ i = .int .i64 k ∧ wr = w.drewN q) (fun i _ => n - (intOf i).toNat)
  case atStart => exact ⟨0, 0, Nat.zero_le _, rfl, rfl⟩
  case round =>
    obtain ⟨k, q, hk, rfl, rfl⟩ := hrel
    by_cases hlt : k < n
    · obtain ⟨b, off, x, rfl, hb, hc, hx⟩ := hr.at_ hlt
      obtain ⟨b', off', x', rfl, hb', hc', hx'⟩ := hr'.at_ hlt
      obtain rfl : x = x' := by have := hx.out; rw [hx'.out] at this; injection this with this; exact this.symm
      go_wp2
      go_quiet (fail)
      go_wp2
      go_roundw
      case rel => exact ⟨k + 1, _, by omega, by go_num, rfl⟩
      case measure => simp [intOf]; omega
    · go_wp2
      go_ret
      exact ⟨rfl, _, rfl⟩

/-- The bytes of some numbers, one behind the other. -/
def allU (xs : List Int) : List Int := xs.flatMap fun x => putU x.toNat
/-- The bytes of a list: how many there are, and each. -/
def listU (xs : List Int) : List Int := putU xs.length ++ allU xs

/-- Numbers of 64 bits. -/
def Fits (xs : List Int) : Prop := ∀ x ∈ xs, 0 ≤ x ∧ x ≤ 18446744073709551615

theorem Fits.at_ {xs : List Int} (h : Fits xs) {k : Nat} {x : Int} (hx : xs[k]? = some x) : 0 ≤ x ∧ x ≤ 18446744073709551615 := h x (List.mem_of_getElem? hx)
theorem allU_more {xs : List Int} {k : Nat} {x : Int} (hx : xs[k]? = some x) : allU (xs.take (k + 1)) = allU (xs.take k) ++ putU x.toNat := by
  rw [take_more hx]; simp [allU]
theorem allU_length : ∀ (xs : List Int), Fits xs → (allU xs).length ≤ 10 * xs.length
  | [], _ => by simp [allU]
  | x :: r, h => by
    have h1 := allU_length r (fun y hy => h y (List.mem_cons_of_mem _ hy))
    have h2 := h x (List.mem_cons_self)
    have h3 := putU_length_u64 (n := x.toNat) (by omega)
    simp only [allU, List.flatMap_cons, List.length_append, List.length_cons] at *
    omega
theorem Fits.take {xs : List Int} (h : Fits xs) (k : Nat) : Fits (xs.take k) := fun x hx => h x (List.mem_of_mem_take hx)
theorem gathered_length {xs ys : List Int} {n k : Nat} (hf : Fits xs) (hn : n ≤ 200) (hk : k ≤ n) (h : ys = putU n ++ allU (xs.take k)) : (strOfNums ys).size ≤ 3000 := by
  have h1 := putU_length_u64 (n := n) (by omega)
  have h2 := allU_length _ (hf.take k)
  have h3 : (xs.take k).length ≤ k := List.length_take_le _ _
  rw [strOfNums_size, h, List.length_append]
  omega
theorem strOfNums_append (a b : List Int) : strOfNums (a ++ b) = strOfNums a ++ strOfNums b := by
  apply ByteArray.ext
  simp [strOfNums]

set_option maxHeartbeats 400000 in
set_option maxRecDepth 100000 in
theorem specListU_any (A : Option Addr) (n c : Nat) (xs : List Int) (w : World) (hr : Reads w w.heap.size .u64 A n xs) (hn : n ≤ 200) (hf : Hid (Fits xs)) (r : List Int) (b : Bool) (hv : Hid ((r, b) = if (listU xs).length ≤ 2000 then (listU xs, true) else ([], false))) :
    Calls Try.prog 29 #[.slice A n c] w fun e w' => e = .returned (.tuple #[.string (strOfNums r), .bool b]) ∧ Below w.heap.size w w' := by
  go_enter Try.func29, Try.ntmps29
  go_wp2_with fail
  refine (l1PutU_any n _ (by omega)).mono ?_
  rintro e w1 ⟨rfl, hb1⟩
  go_wp2_with fail
  go_loopw [4, 16] (fun s i wr => ∃ (k : Nat) (ys : List Int), k ≤ n ∧ i = .int .i64 k ∧ s = .string (strOfNums ys) ∧ Hid (ys = putU n ++ allU (xs.take k)) ∧ Below w.heap.size w wr) (fun _ i _ => n - (intOf i).toNat)
  case atStart => exact ⟨0, putU n, Nat.zero_le _, rfl, rfl, by show _ = _; simp [allU], hb1⟩
  case round =>
    obtain ⟨k, ys, hk, rfl, rfl, hys, hbel⟩ := hrel
    by_cases hlt : k < n
    · obtain ⟨b, off, x, rfl, hb, hc, hx⟩ := (hr.below hbel).at_ hlt
      have hx1 := hf.out.at_ hx.out
      obtain ⟨m, rfl⟩ := Int.eq_ofNat_of_zero_le hx1.1
      have hm := hx1.2; clear hx1
      have hnext := put (show ys ++ putU m = putU n ++ allU (xs.take (k + 1)) by rw [allU_more hx.out, hys.out, List.append_assoc]; rfl)
      have hs1 := gathered_length hf.out hn hk hys.out
      have hs2 : (strOfNums (putU m)).size ≤ 10 := by rw [strOfNums_size]; exact putU_length_u64 (by omega)
      go_wp2_with fail
      refine (l1PutU_any m _ hm).mono ?_
      rintro e w2 ⟨rfl, hb2⟩
      go_wp2
      go_roundw
      case rel => exact ⟨k + 1, ys ++ putU m, by omega, by go_num, by rw [strOfNums_append], hnext, hbel.trans (hb2.mono hbel.size)⟩
      case measure => simp [intOf]; omega
    · have hall := put (show ys = listU xs by rw [hys.out, List.take_of_length_le (by rw [hr.1]; omega), listU, hr.1])
      have hsz := strOfNums_size ys
      by_cases hbig : ys.length ≤ 2000
      · have hfin := put (show r = ys ∧ b = true by
          have h1 := hv.out
          rw [← hall.out, if_pos hbig] at h1
          exact ⟨congrArg Prod.fst h1, congrArg Prod.snd h1⟩)
        go_wp2
        go_ret2
        exact ⟨by rw [hfin.out.1, hfin.out.2]; rfl, hbel⟩
      · have hfin := put (show r = [] ∧ b = false by
          have h1 := hv.out
          rw [← hall.out, if_neg hbig] at h1
          exact ⟨congrArg Prod.fst h1, congrArg Prod.snd h1⟩)
        go_wp2
        go_ret2
        exact ⟨by rw [hfin.out.1, hfin.out.2]; rfl, hbel⟩

set_option maxHeartbeats 400000 in
set_option maxRecDepth 100000 in
theorem specListU_many (A : Option Addr) (n c : Nat) (w : World) (h1 : 200 < n) (h2 : n ≤ 1048576) :
    Calls Try.prog 29 #[.slice A n c] w fun e w' => e = .returned (.tuple #[.string (strOfNums []), .bool false]) ∧ Below w.heap.size w w' := by
  go_enter Try.func29, Try.ntmps29
  go_wp2
  go_ret2
  exact ⟨rfl, Below.refl _ _⟩

end Go.Proofs.Ytogkpkcpcakakaa

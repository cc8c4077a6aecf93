/-
  Slices of tokens that are read, and the laws' own functions on tokens and on lists of ints.
-/
import Derived.Test.YtaogdaoiijmmhaaToks
import Derived.Deep.QuietTactic
import Derived.BigQuiet
import Derived.Laws.MakeOwn
import Derived.Deep.RegionWith
import Derived.Lib.QuietBelow
import Derived.Laws.Entries
namespace Go.Proofs.Ytaogdaoiijmmhaa
open Go.RowKit Exs

/-- The cells of some tokens. -/
def flat (ts : List Token) : List Int := ts.flatMap fun t => [t.1, t.2]

theorem flat_length (ts : List Token) : (flat ts).length = 2 * ts.length := by
  induction ts with
  | nil => rfl
  | cons t r ih => simp only [flat, List.flatMap_cons, List.length_append, List.length_cons, List.length_nil] at *; omega
theorem flat_at : ∀ {ts : List Token} {j : Nat} {t : Token}, ts[j]? = some t → (flat ts)[2 * j]? = some t.1 ∧ (flat ts)[2 * j + 1]? = some t.2
  | [], _, _, h => by simp at h
  | a :: r, 0, t, h => by simp at h; subst h; exact ⟨rfl, rfl⟩
  | a :: r, j + 1, t, h => by
    have := flat_at (ts := r) (j := j) (t := t) (by simpa using h)
    rw [show 2 * (j + 1) = 2 * j + 1 + 1 by omega]
    simpa [flat] using this
theorem flat_snoc (ts : List Token) (t : Token) : flat (ts ++ [t]) = flat ts ++ [t.1] ++ [t.2] := by simp [flat]

/-- The slice value '.slice A n c' reads as the tokens ts, and lies below block B. -/
def ReadsT (w : World) (B : Nat) (A : Option Addr) (n : Nat) (ts : List Token) : Prop := ts.length = n ∧ Reads w B .i64 A (2 * n) (flat ts)

section
variable {w w' : World} {B B' : Nat} {A : Option Addr} {n : Nat} {ts : List Token}
theorem ReadsT.below (h : ReadsT w B A n ts) (hb : Below B w w') : ReadsT w' B A n ts := ⟨h.1, h.2.below hb⟩
theorem ReadsT.more (h : ReadsT w B A n ts) (hB : B ≤ B') : ReadsT w B' A n ts := ⟨h.1, h.2.more hB⟩
theorem ReadsT.at_ (h : ReadsT w B A n ts) {j : Nat} (hj : j < n) : ∃ b off op x, A = some ⟨b, off, none⟩ ∧ b < B ∧ w.cell? ⟨b, off + j * 2, none⟩ = some (.int .i64 op) ∧ w.cell? ⟨b, off + j * 2 + 1, none⟩ = some (.int .i64 x) ∧ Hid (ts[j]? = some (op, x)) := by
  obtain ⟨b, off, rfl, hb, hc⟩ := h.2.2 (by omega)
  have hl : j < ts.length := by rw [h.1]; exact hj
  have hx := flat_at (List.getElem?_eq_getElem hl)
  refine ⟨b, off, ts[j].1, ts[j].2, rfl, hb, ?_, ?_, List.getElem?_eq_getElem hl⟩
  · rw [Nat.mul_comm]; exact hc _ _ hx.1
  · rw [Nat.mul_comm, Nat.add_assoc]; exact hc _ _ hx.2
end

/-- A cell that is known stays known while memory grows. -/
theorem cell_regrown {w : World} {p : Addr} {v : Value} (h : w.cell? p = some v) (d : Nat) (os : Array Obj) : (Sort.grow (redrawn w d) os).cell? p = some v :=
  ((below_regrown w d os).cell (World.block_lt_of_cell? w _ h)).trans h

theorem takeT_more {ts : List Token} {k : Nat} {t : Token} (h : ts[k]? = some t) : ts.take (k + 1) = ts.take k ++ [t] := by
  rw [List.take_add_one, h]; rfl

set_option maxHeartbeats 400000 in
theorem toTok_any (op n : Int) (w : World) : Calls Try.prog 69 #[.agg #[.int .i64 op, .int .i64 n]] w fun e w' => e = .returned (.agg #[.int .i64 op, .int .i64 n]) ∧ Below w.heap.size w w' := by
  go_enter Try.func69, Try.ntmps69
  go_wp2
  exact bodyPost_ret (v := .agg #[.int .i64 op, .int .i64 n]) (by simp [results, Try.results69, go_sem]) rfl ⟨rfl, (((Below.refl _ _).alloc (Nat.le_refl _) _).alloc (by simp) _).alloc (by simp; omega) _⟩

theorem Try.info3 : (Try.prog.info? 3).map (fun i => (i.zero, i.size, i.bytes)) = some (some (.int .i64 0), 1, 8) := by kernel_rfl

set_option maxHeartbeats 400000 in
set_option maxRecDepth 100000 in
theorem toInts_any (A : Option Addr) (n c : Nat) (xs : List Int) (w : World) (hr : Reads w w.heap.size .i64 A n xs) (hn : n ≤ 1048576) :
    Calls Try.prog 16 #[.slice A n c] w fun e w' => e = .returned (.slice (some ⟨w.heap.size, 0, none⟩) n n) ∧ Room w' w.heap.size 3 n .i64 xs ∧ Below w.heap.size w w' := by
  have hmk := fun W => run_make_row' (P := Try.prog) 22 3 (.int .i64 0) 8 Try.underlying22 Try.info3 rfl .i64 .i64 n (by omega) (by omega) W
  go_enter Try.func16, Try.ntmps16
  go_wp2
  go_loopw [4] (fun i wr => ∃ k : Nat, k ≤ n ∧ i = .int .i64 k ∧ Room wr w.heap.size 3 n .i64 (xs.take k) ∧ Below w.heap.size w wr) (fun i _ => n - (intOf i).toNat)
  case atStart => exact ⟨0, Nat.zero_le _, rfl, Room.made w 3 n .i64, (Below.refl _ _).alloc (Nat.le_refl _) _⟩
  case round =>
    obtain ⟨k, hk, rfl, hroom, hbel⟩ := hrel
    clear hmk
    by_cases hlt : k < n
    · obtain ⟨b, off, x, rfl, hb, hc, hx⟩ := (hr.below hbel).at_ hlt
      obtain ⟨c0, hc0⟩ := hroom.at_ k hlt
      have hfr := hroom.frozen k
      have hlen : (xs.take k).length = k := by rw [List.length_take, hr.1]; omega
      have hpush := hroom.push (by rw [hlen]; exact hlt) x
      rw [hlen, ← take_more hx.out] at hpush
      have HP := put hpush; clear hpush hlen
      go_wp2
      go_roundw
      case rel => exact ⟨k + 1, by omega, by go_num, HP.out, hbel.setCell (by simp) _⟩
      case measure => simp [intOf]; omega
    · have hfin := put (show xs.take k = xs from List.take_of_length_le (by rw [hr.1]; omega))
      go_wp2
      go_ret
      exact ⟨rfl, by rw [hfin.out] at hroom; exact hroom, hbel⟩

set_option maxHeartbeats 400000 in
set_option maxRecDepth 100000 in
theorem eqInts_same (A A' : Option Addr) (n c c' : Nat) (xs : List Int) (w : World) (hr : Reads w w.heap.size .i64 A n xs) (hr' : Reads w w.heap.size .i64 A' n xs) (hn : n ≤ 1048576) :
    Calls Try.prog 17 #[.slice A n c, .slice A' n c'] w fun e w' => e = .returned (.bool true) ∧ ∃ q, w' = w.drewN q := by
  go_enter Try.func17, Try.ntmps17
  go_wp2
  go_loopw [5] (fun i wr => ∃ k q : Nat, k ≤ n ∧ i = .int .i64 k ∧ wr = w.drewN q) (fun i _ => n - (intOf i).toNat)
  case atStart => exact ⟨0, 0, Nat.zero_le _, rfl, rfl⟩
  case round =>
    obtain ⟨k, q, hk, rfl, rfl⟩ := hrel
    by_cases hlt : k < n
    · obtain ⟨b, off, x, rfl, hb, hc, hx⟩ := hr.at_ hlt
      obtain ⟨b', off', x', rfl, hb', hc', hx'⟩ := hr'.at_ hlt
      obtain rfl : x = x' := by have := hx.out; rw [hx'.out] at this; injection this with this; exact this.symm
      go_wp2
      go_quiet (fail)
      go_wp2
      go_roundw
      case rel => exact ⟨k + 1, _, by omega, by go_num, rfl⟩
      case measure => simp [intOf]; omega
    · go_wp2
      go_ret
      exact ⟨rfl, _, rfl⟩

set_option maxHeartbeats 400000 in
theorem szToks_few (A : Option Addr) (n c : Nat) (w : World) (hn : n ≤ 1048576) : Calls Try.prog 62 #[.slice A n c, .int .i64 1048576] w fun e w' => e = .returned (.int .i64 (1048576 - n)) ∧ w = w' := by
  go_enter Try.func62, Try.ntmps62
  go_wp2
  go_ret
  exact ⟨rfl, rfl⟩
set_option maxHeartbeats 400000 in
theorem szToks_many (A : Option Addr) (n c : Nat) (w : World) (hn : 1048576 < n) (hm : n ≤ 9223372036854775807) : Calls Try.prog 62 #[.slice A n c, .int .i64 1048576] w fun e w' => e = .returned (.int .i64 (-1)) ∧ w = w' := by
  go_enter Try.func62, Try.ntmps62
  go_wp2
  go_ret
  exact ⟨rfl, rfl⟩

/-- 'make([]T, n)', T of some cells. -/
theorem run_make_rows {P : Program} (t e : TypeId) (z : Value) (size bytes : Nat) (ht : P.underlying t = some (.slice e)) (hinfo : (P.info? e).map (fun i => (i.zero, i.size, i.bytes)) = some (some z, size, bytes))
    (n : Nat) (hbytes : bytes * n ≤ 281474976710656) (h63 : n ≤ 9223372036854775807) (w : World) :
    (Instr.makeSlice t (.int .i64 (n : Int)) (.int .i64 (n : Int))).run P w = .ok (.slice (some ⟨w.heap.size, 0, none⟩) n n) (w.alloc (.cells (madeCells z.cells (n * size)) e)) := by
  obtain ⟨i, hi, hz, hs, hb⟩ := info_parts hinfo
  subst hs; subst hb
  have hb : (i.bytes : Int) * (n : Int) ≤ 281474976710656 := by
    have h : ((i.bytes * n : Nat) : Int) ≤ 281474976710656 := by omega
    rwa [Int.natCast_mul] at h
  have hr := run_make (P := P) w t e i z ht hi hz .i64 .i64 n n (by omega) (by omega) hb (by omega)
  simp only [Int.toNat_natCast] at hr
  exact hr

theorem Try.info99 : (Try.prog.info? 99).map (fun i => (i.zero, i.size, i.bytes)) = some (some (.agg #[.int .i64 0, .int .i64 0]), 2, 16) := by kernel_rfl

/-- Rows of cells that hold numbers, made of tokens. -/
theorem Room.madeT (w : World) (t : TypeId) (n : Nat) (z : Array Value) (m : Nat) (hm : m = n * 2) : Room (w.alloc (.cells (madeCells z m) t)) w.heap.size t (2 * n) .i64 (flat []) :=
  ⟨_, heap_alloc_new _ _, by rw [size_madeCells]; omega, rfl⟩
theorem Room.pushT {w : World} {g : Nat} {t : TypeId} {n : Nat} {ts : List Token} (h : Room w g t (2 * n) .i64 (flat ts)) (hc : ts.length < n) (op x : Int) :
    Room ((w.setCell ⟨g, ts.length * 2, none⟩ (.int .i64 op)).setCell ⟨g, ts.length * 2 + 1, none⟩ (.int .i64 x)) g t (2 * n) .i64 (flat (ts ++ [(op, x)])) := by
  have hl := flat_length ts
  have h1 := h.push (by omega) op
  have h2 := h1.push (by simp; omega) x
  rw [List.length_append, hl] at h2
  rw [flat_snoc]
  simpa [Nat.mul_comm] using h2
theorem Room.readsT {w : World} {g : Nat} {t : TypeId} {n : Nat} {ts : List Token} (h : Room w g t (2 * n) .i64 (flat ts)) (hn : ts.length = n) : ReadsT w w.heap.size (some ⟨g, 0, none⟩) n ts :=
  ⟨hn, h.reads (by rw [flat_length, hn])⟩

set_option maxHeartbeats 400000 in
set_option maxRecDepth 100000 in
theorem toToks_any (A : Option Addr) (n c : Nat) (ts : List Token) (w : World) (hr : ReadsT w w.heap.size A n ts) (hn : n ≤ 1048576) :
    Calls Try.prog 64 #[.slice A n c] w fun e w' => e = .returned (.slice (some ⟨w.heap.size, 0, none⟩) n n) ∧ Room w' w.heap.size 99 (2 * n) .i64 (flat ts) ∧ Below w.heap.size w w' := by
  have hmk := fun W => run_make_rows (P := Try.prog) 66 99 (.agg #[.int .i64 0, .int .i64 0]) 2 16 Try.underlying66 Try.info99 n (by omega) (by omega) W
  go_enter Try.func64, Try.ntmps64
  go_wp2
  go_loopw [4] (fun i wr => ∃ k : Nat, k ≤ n ∧ i = .int .i64 k ∧ Room wr w.heap.size 99 (2 * n) .i64 (flat (ts.take k)) ∧ Below w.heap.size w wr) (fun i _ => n - (intOf i).toNat)
  case atStart => exact ⟨0, Nat.zero_le _, rfl, Room.madeT w 99 n _ _ rfl, (Below.refl _ _).alloc (Nat.le_refl _) _⟩
  case round =>
    obtain ⟨k, hk, rfl, hroom, hbel⟩ := hrel
    clear hmk
    by_cases hlt : k < n
    · obtain ⟨b, off, op, x, rfl, hb, hc, hc', hx⟩ := (hr.below hbel).at_ hlt
      go_wp2_with fail
      refine (toTok_any op x _).mono ?_
      rintro e w1 ⟨rfl, hb1⟩
      have hroom1 := hroom.below hb1 hroom.lt
      have hbel1 : Below w.heap.size w w1 := hbel.trans (hb1.mono hbel.size)
      obtain ⟨c0, hc0⟩ := hroom1.at_ (k * 2) (by omega)
      obtain ⟨c1, hc1⟩ := hroom1.at_ (k * 2 + 1) (by omega)
      have hf0 := hroom1.frozen (k * 2)
      have hf1 := hroom1.frozen (k * 2 + 1)
      have hlen : (ts.take k).length = k := by rw [List.length_take, hr.1]; omega
      have hpush := hroom1.pushT (by rw [hlen]; exact hlt) op x
      rw [hlen, ← takeT_more hx.out] at hpush
      have HP := put hpush; clear hpush hlen hc hc' hb1
      go_wp2
      go_roundw
      case rel => exact ⟨k + 1, by omega, by go_num, HP.out, (hbel1.setCell (by simp) _).setCell (by simp) _⟩
      case measure => simp [intOf]; omega
    · have hfin := put (show ts.take k = ts from List.take_of_length_le (by rw [hr.1]; omega))
      go_wp2
      go_ret
      exact ⟨rfl, by rw [hfin.out] at hroom; exact hroom, hbel⟩

set_option maxHeartbeats 400000 in
theorem eqTok_same (op x : Int) (w : World) : Calls Try.prog 73 #[.agg #[.int .i64 op, .int .i64 x], .agg #[.int .i64 op, .int .i64 x]] w fun e w' => e = .returned (.bool true) ∧ Below w.heap.size w w' := by
  go_enter Try.func73, Try.ntmps73
  go_wp2
  go_ret
  exact ⟨rfl, ((Below.refl _ _).alloc (Nat.le_refl _) _).alloc (by simp) _⟩

set_option maxHeartbeats 400000 in
set_option maxRecDepth 100000 in
theorem eqToks_same (A A' : Option Addr) (n c c' : Nat) (ts : List Token) (w : World) (hr : ReadsT w w.heap.size A n ts) (hr' : ReadsT w w.heap.size A' n ts) (hn : n ≤ 1048576) :
    Calls Try.prog 66 #[.slice A n c, .slice A' n c'] w fun e w' => e = .returned (.bool true) ∧ Below w.heap.size w w' := by
  go_enter Try.func66, Try.ntmps66
  go_wp2
  go_loopw [5] (fun i wr => ∃ k : Nat, k ≤ n ∧ i = .int .i64 k ∧ Below w.heap.size w wr) (fun i _ => n - (intOf i).toNat)
  case atStart => exact ⟨0, Nat.zero_le _, rfl, Below.refl _ _⟩
  case round =>
    obtain ⟨k, hk, rfl, hbel⟩ := hrel
    by_cases hlt : k < n
    · obtain ⟨b, off, op, x, rfl, hb, hc1, hc2, hx⟩ := (hr.below hbel).at_ hlt
      obtain ⟨b', off', op', x', rfl, hb', hc1', hc2', hx'⟩ := (hr'.below hbel).at_ hlt
      obtain ⟨rfl, rfl⟩ : op = op' ∧ x = x' := by have := hx.out; rw [hx'.out] at this; injection this with this; injection this with a b; exact ⟨a.symm, b.symm⟩
      have g1 := cell_regrown hc1
      have g2 := cell_regrown hc2
      have g3 := cell_regrown hc1'
      have g4 := cell_regrown hc2'
      go_wp2
      refine wp_region_quiet_below (by kernel_rfl) (by kernel_rfl) ?_
      repeat (first | go_big_quiet_step ((go_at_call 73; exact Calls.regrown_of (eqTok_same op x _))) | quiet_step (fail))
      refine wpQuiet_nil ?_
      intro _ hw'
      obtain ⟨⟨dq, osq⟩, hw''⟩ := hw'
      subst hw''
      go_wp2
      go_roundw
      case rel => exact ⟨k + 1, by omega, by go_num, hbel.trans ((below_regrown wr dq osq).mono hbel.size)⟩
      case measure => simp [intOf]; omega
    · go_wp2
      go_ret
      exact ⟨rfl, hbel⟩

end Go.Proofs.Ytaogdaoiijmmhaa

/-
  Texts joined: TokMem InM Prg PrgTo.
-/
import Derived.Test.YtpmpjiigmjnniaaGreatJToks
import Derived.Deep.QuietTactic
import Derived.BigQuiet
import Derived.Laws.MakeOwn
import Derived.Deep.RegionWith
import Derived.Lib.QuietBelow
import Derived.Laws.Entries
import Derived.Test.YtpmpjiigmjnniaaGreatJKit
/-
  Slices of tokens that are read, and the laws' own functions on tokens and on lists of ints.
-/
namespace Go.Proofs.YtpmpjiigmjnniaaGreat
open Go.RowKit Exs

/-- The cells of some tokens. -/
def flat (ts : List Token) : List Int := ts.flatMap fun t => [t.1, t.2]

theorem flat_length (ts : List Token) : (flat ts).length = 2 * ts.length := by
  induction ts with
  | nil => rfl
  | cons t r ih => simp only [flat, List.flatMap_cons, List.length_append, List.length_cons, List.length_nil] at *; omega
theorem flat_at : ∀ {ts : List Token} {j : Nat} {t : Token}, ts[j]? = some t → (flat ts)[2 * j]? = some t.1 ∧ (flat ts)[2 * j + 1]? = some t.2
  | [], _, _, h => by simp at h
  | a :: r, 0, t, h => by simp at h; subst h; exact ⟨rfl, rfl⟩
  | a :: r, j + 1, t, h => by
    have := flat_at (ts := r) (j := j) (t := t) (by simpa using h)
    rw [show 2 * (j + 1) = 2 * j + 1 + 1 by omega]
    simpa [flat] using this
theorem flat_snoc (ts : List Token) (t : Token) : flat (ts ++ [t]) = flat ts ++ [t.1] ++ [t.2] := by simp [flat]

/-- The slice value '.slice A n c' reads as the tokens ts, and lies below block B. -/
def ReadsT (w : World) (B : Nat) (A : Option Addr) (n : Nat) (ts : List Token) : Prop := ts.length = n ∧ Reads w B .i64 A (2 * n) (flat ts)

section
variable {w w' : World} {B B' : Nat} {A : Option Addr} {n : Nat} {ts : List Token}
theorem ReadsT.below (h : ReadsT w B A n ts) (hb : Below B w w') : ReadsT w' B A n ts := ⟨h.1, h.2.below hb⟩
theorem ReadsT.more (h : ReadsT w B A n ts) (hB : B ≤ B') : ReadsT w B' A n ts := ⟨h.1, h.2.more hB⟩
theorem ReadsT.at_ (h : ReadsT w B A n ts) {j : Nat} (hj : j < n) : ∃ b off op x, A = some ⟨b, off, none⟩ ∧ b < B ∧ w.cell? ⟨b, off + j * 2, none⟩ = some (.int .i64 op) ∧ w.cell? ⟨b, off + j * 2 + 1, none⟩ = some (.int .i64 x) ∧ Hid (ts[j]? = some (op, x)) := by
  obtain ⟨b, off, rfl, hb, hc⟩ := h.2.2 (by omega)
  have hl : j < ts.length := by rw [h.1]; exact hj
  have hx := flat_at (List.getElem?_eq_getElem hl)
  refine ⟨b, off, ts[j].1, ts[j].2, rfl, hb, ?_, ?_, List.getElem?_eq_getElem hl⟩
  · rw [Nat.mul_comm]; exact hc _ _ hx.1
  · rw [Nat.mul_comm, Nat.add_assoc]; exact hc _ _ hx.2
end

/-- A cell that is known stays known while memory grows. -/
theorem cell_regrown {w : World} {p : Addr} {v : Value} (h : w.cell? p = some v) (d : Nat) (os : Array Obj) : (Sort.grow (redrawn w d) os).cell? p = some v :=
  ((below_regrown w d os).cell (World.block_lt_of_cell? w _ h)).trans h

theorem takeT_more {ts : List Token} {k : Nat} {t : Token} (h : ts[k]? = some t) : ts.take (k + 1) = ts.take k ++ [t] := by
  rw [List.take_add_one, h]; rfl

set_option maxHeartbeats 400000 in
theorem toTok_any (op n : Int) (w : World) : Calls Tryz.prog 104 #[.agg #[.int .i64 op, .int .i64 n]] w fun e w' => e = .returned (.agg #[.int .i64 op, .int .i64 n]) ∧ Below w.heap.size w w' := by
  go_enter Tryz.func104, Tryz.ntmps104
  go_wp2
  exact bodyPost_ret (v := .agg #[.int .i64 op, .int .i64 n]) (by simp [results, Tryz.results104, go_sem]) rfl ⟨rfl, (((Below.refl _ _).alloc (Nat.le_refl _) _).alloc (by simp) _).alloc (by simp; omega) _⟩

theorem Tryz.info3 : (Tryz.prog.info? 3).map (fun i => (i.zero, i.size, i.bytes)) = some (some (.int .i64 0), 1, 8) := by kernel_rfl

set_option maxHeartbeats 400000 in
set_option maxRecDepth 100000 in
theorem toInts_any (A : Option Addr) (n c : Nat) (xs : List Int) (w : World) (hr : Reads w w.heap.size .i64 A n xs) (hn : n ≤ 1048576) :
    Calls Tryz.prog 67 #[.slice A n c] w fun e w' => e = .returned (.slice (some ⟨w.heap.size, 0, none⟩) n n) ∧ Room w' w.heap.size 3 n .i64 xs ∧ Below w.heap.size w w' := by
  have hmk := fun W => run_make_row' (P := Tryz.prog) 26 3 (.int .i64 0) 8 Tryz.underlying26 Tryz.info3 rfl .i64 .i64 n (by omega) (by omega) W
  go_enter Tryz.func67, Tryz.ntmps67
  go_wp2
  go_loopw [4] (fun i wr => ∃ k : Nat, k ≤ n ∧ i = .int .i64 k ∧ Room wr w.heap.size 3 n .i64 (xs.take k) ∧ Below w.heap.size w wr) (fun i _ => n - (intOf i).toNat)
  case atStart => exact ⟨0, Nat.zero_le _, rfl, Room.made w 3 n .i64, (Below.refl _ _).alloc (Nat.le_refl _) _⟩
  case round =>
    obtain ⟨k, hk, rfl, hroom, hbel⟩ := hrel
    clear hmk
    by_cases hlt : k < n
    · obtain ⟨b, off, x, rfl, hb, hc, hx⟩ := (hr.below hbel).at_ hlt
      obtain ⟨c0, hc0⟩ := hroom.at_ k hlt
      have hfr := hroom.frozen k
      have hlen : (xs.take k).length = k := by rw [List.length_take, hr.1]; omega
      have hpush := hroom.push (by rw [hlen]; exact hlt) x
      rw [hlen, ← take_more hx.out] at hpush
      have HP := put hpush; clear hpush hlen
      go_wp2
      go_roundw
      case rel => exact ⟨k + 1, by omega, by go_num, HP.out, hbel.setCell (by simp) _⟩
      case measure => simp [intOf]; omega
    · have hfin := put (show xs.take k = xs from List.take_of_length_le (by rw [hr.1]; omega))
      go_wp2
      go_ret
      exact ⟨rfl, by rw [hfin.out] at hroom; exact hroom, hbel⟩

set_option maxHeartbeats 400000 in
set_option maxRecDepth 100000 in
theorem eqInts_same (A A' : Option Addr) (n c c' : Nat) (xs : List Int) (w : World) (hr : Reads w w.heap.size .i64 A n xs) (hr' : Reads w w.heap.size .i64 A' n xs) (hn : n ≤ 1048576) :
    Calls Tryz.prog 26 #[.slice A n c, .slice A' n c'] w fun e w' => e = .returned (.bool true) ∧ ∃ q, w' = w.drewN q := by
  go_enter Tryz.func26, Tryz.ntmps26
  go_wp2
  go_loopw [5] (fun i wr => ∃ k q : Nat, k ≤ n ∧ i = .int .i64 k ∧ wr = w.drewN q) (fun i _ => n - (intOf i).toNat)
  case atStart => exact ⟨0, 0, Nat.zero_le _, rfl, rfl⟩
  case round =>
    obtain ⟨k, q, hk, rfl, rfl⟩ := hrel
    by_cases hlt : k < n
    · obtain ⟨b, off, x, rfl, hb, hc, hx⟩ := hr.at_ hlt
      obtain ⟨b', off', x', rfl, hb', hc', hx'⟩ := hr'.at_ hlt
      obtain rfl : x = x' := by have := hx.out; rw [hx'.out] at this; injection this with this; exact this.symm
      go_wp2
      go_quiet (fail)
      go_wp2
      go_roundw
      case rel => exact ⟨k + 1, _, by omega, by go_num, rfl⟩
      case measure => simp [intOf]; omega
    · go_wp2
      go_ret
      exact ⟨rfl, _, rfl⟩

set_option maxHeartbeats 400000 in
theorem szToks_few (A : Option Addr) (n c : Nat) (w : World) (hn : n ≤ 1048576) : Calls Tryz.prog 94 #[.slice A n c, .int .i64 1048576] w fun e w' => e = .returned (.int .i64 (1048576 - n)) ∧ w = w' := by
  go_enter Tryz.func94, Tryz.ntmps94
  go_wp2
  go_ret
  exact ⟨rfl, rfl⟩
set_option maxHeartbeats 400000 in
theorem szToks_many (A : Option Addr) (n c : Nat) (w : World) (hn : 1048576 < n) (hm : n ≤ 9223372036854775807) : Calls Tryz.prog 94 #[.slice A n c, .int .i64 1048576] w fun e w' => e = .returned (.int .i64 (-1)) ∧ w = w' := by
  go_enter Tryz.func94, Tryz.ntmps94
  go_wp2
  go_ret
  exact ⟨rfl, rfl⟩

/-- 'make([]T, n)', T of some cells. -/
theorem run_make_rows {P : Program} (t e : TypeId) (z : Value) (size bytes : Nat) (ht : P.underlying t = some (.slice e)) (hinfo : (P.info? e).map (fun i => (i.zero, i.size, i.bytes)) = some (some z, size, bytes))
    (n : Nat) (hbytes : bytes * n ≤ 281474976710656) (h63 : n ≤ 9223372036854775807) (w : World) :
    (Instr.makeSlice t (.int .i64 (n : Int)) (.int .i64 (n : Int))).run P w = .ok (.slice (some ⟨w.heap.size, 0, none⟩) n n) (w.alloc (.cells (madeCells z.cells (n * size)) e)) := by
  obtain ⟨i, hi, hz, hs, hb⟩ := info_parts hinfo
  subst hs; subst hb
  have hb : (i.bytes : Int) * (n : Int) ≤ 281474976710656 := by
    have h : ((i.bytes * n : Nat) : Int) ≤ 281474976710656 := by omega
    rwa [Int.natCast_mul] at h
  have hr := run_make (P := P) w t e i z ht hi hz .i64 .i64 n n (by omega) (by omega) hb (by omega)
  simp only [Int.toNat_natCast] at hr
  exact hr

theorem Tryz.info137 : (Tryz.prog.info? 137).map (fun i => (i.zero, i.size, i.bytes)) = some (some (.agg #[.int .i64 0, .int .i64 0]), 2, 16) := by kernel_rfl

/-- Rows of cells that hold numbers, made of tokens. -/
theorem Room.madeT (w : World) (t : TypeId) (n : Nat) (z : Array Value) (m : Nat) (hm : m = n * 2) : Room (w.alloc (.cells (madeCells z m) t)) w.heap.size t (2 * n) .i64 (flat []) :=
  ⟨_, heap_alloc_new _ _, by rw [size_madeCells]; omega, rfl⟩
theorem Room.pushT {w : World} {g : Nat} {t : TypeId} {n : Nat} {ts : List Token} (h : Room w g t (2 * n) .i64 (flat ts)) (hc : ts.length < n) (op x : Int) :
    Room ((w.setCell ⟨g, ts.length * 2, none⟩ (.int .i64 op)).setCell ⟨g, ts.length * 2 + 1, none⟩ (.int .i64 x)) g t (2 * n) .i64 (flat (ts ++ [(op, x)])) := by
  have hl := flat_length ts
  have h1 := h.push (by omega) op
  have h2 := h1.push (by simp; omega) x
  rw [List.length_append, hl] at h2
  rw [flat_snoc]
  simpa [Nat.mul_comm] using h2
theorem Room.readsT {w : World} {g : Nat} {t : TypeId} {n : Nat} {ts : List Token} (h : Room w g t (2 * n) .i64 (flat ts)) (hn : ts.length = n) : ReadsT w w.heap.size (some ⟨g, 0, none⟩) n ts :=
  ⟨hn, h.reads (by rw [flat_length, hn])⟩

set_option maxHeartbeats 400000 in
set_option maxRecDepth 100000 in
theorem toToks_any (A : Option Addr) (n c : Nat) (ts : List Token) (w : World) (hr : ReadsT w w.heap.size A n ts) (hn : n ≤ 1048576) :
    Calls Tryz.prog 97 #[.slice A n c] w fun e w' => e = .returned (.slice (some ⟨w.heap.size, 0, none⟩) n n) ∧ Room w' w.heap.size 137 (2 * n) .i64 (flat ts) ∧ Below w.heap.size w w' := by
  have hmk := fun W => run_make_rows (P := Tryz.prog) 78 137 (.agg #[.int .i64 0, .int .i64 0]) 2 16 Tryz.underlying78 Tryz.info137 n (by omega) (by omega) W
  go_enter Tryz.func97, Tryz.ntmps97
  go_wp2
  go_loopw [4] (fun i wr => ∃ k : Nat, k ≤ n ∧ i = .int .i64 k ∧ Room wr w.heap.size 137 (2 * n) .i64 (flat (ts.take k)) ∧ Below w.heap.size w wr) (fun i _ => n - (intOf i).toNat)
  case atStart => exact ⟨0, Nat.zero_le _, rfl, Room.madeT w 137 n _ _ rfl, (Below.refl _ _).alloc (Nat.le_refl _) _⟩
  case round =>
    obtain ⟨k, hk, rfl, hroom, hbel⟩ := hrel
    clear hmk
    by_cases hlt : k < n
    · obtain ⟨b, off, op, x, rfl, hb, hc, hc', hx⟩ := (hr.below hbel).at_ hlt
      go_wp2_with fail
      refine (toTok_any op x _).mono ?_
      rintro e w1 ⟨rfl, hb1⟩
      have hroom1 := hroom.below hb1 hroom.lt
      have hbel1 : Below w.heap.size w w1 := hbel.trans (hb1.mono hbel.size)
      obtain ⟨c0, hc0⟩ := hroom1.at_ (k * 2) (by omega)
      obtain ⟨c1, hc1⟩ := hroom1.at_ (k * 2 + 1) (by omega)
      have hf0 := hroom1.frozen (k * 2)
      have hf1 := hroom1.frozen (k * 2 + 1)
      have hlen : (ts.take k).length = k := by rw [List.length_take, hr.1]; omega
      have hpush := hroom1.pushT (by rw [hlen]; exact hlt) op x
      rw [hlen, ← takeT_more hx.out] at hpush
      have HP := put hpush; clear hpush hlen hc hc' hb1
      go_wp2
      go_roundw
      case rel => exact ⟨k + 1, by omega, by go_num, HP.out, (hbel1.setCell (by simp) _).setCell (by simp) _⟩
      case measure => simp [intOf]; omega
    · have hfin := put (show ts.take k = ts from List.take_of_length_le (by rw [hr.1]; omega))
      go_wp2
      go_ret
      exact ⟨rfl, by rw [hfin.out] at hroom; exact hroom, hbel⟩

set_option maxHeartbeats 400000 in
theorem eqTok_same (op x : Int) (w : World) : Calls Tryz.prog 105 #[.agg #[.int .i64 op, .int .i64 x], .agg #[.int .i64 op, .int .i64 x]] w fun e w' => e = .returned (.bool true) ∧ Below w.heap.size w w' := by
  go_enter Tryz.func105, Tryz.ntmps105
  go_wp2
  go_ret
  exact ⟨rfl, ((Below.refl _ _).alloc (Nat.le_refl _) _).alloc (by simp) _⟩

set_option maxHeartbeats 400000 in
set_option maxRecDepth 100000 in
theorem eqToks_same (A A' : Option Addr) (n c c' : Nat) (ts : List Token) (w : World) (hr : ReadsT w w.heap.size A n ts) (hr' : ReadsT w w.heap.size A' n ts) (hn : n ≤ 1048576) :
    Calls Tryz.prog 99 #[.slice A n c, .slice A' n c'] w fun e w' => e = .returned (.bool true) ∧ Below w.heap.size w w' := by
  go_enter Tryz.func99, Tryz.ntmps99
  go_wp2
  go_loopw [5] (fun i wr => ∃ k : Nat, k ≤ n ∧ i = .int .i64 k ∧ Below w.heap.size w wr) (fun i _ => n - (intOf i).toNat)
  case atStart => exact ⟨0, Nat.zero_le _, rfl, Below.refl _ _⟩
  case round =>
    obtain ⟨k, hk, rfl, hbel⟩ := hrel
    by_cases hlt : k < n
    · obtain ⟨b, off, op, x, rfl, hb, hc1, hc2, hx⟩ := (hr.below hbel).at_ hlt
      obtain ⟨b', off', op', x', rfl, hb', hc1', hc2', hx'⟩ := (hr'.below hbel).at_ hlt
      obtain ⟨rfl, rfl⟩ : op = op' ∧ x = x' := by have := hx.out; rw [hx'.out] at this; injection this with this; injection this with a b; exact ⟨a.symm, b.symm⟩
      have g1 := cell_regrown hc1
      have g2 := cell_regrown hc2
      have g3 := cell_regrown hc1'
      have g4 := cell_regrown hc2'
      go_wp2
      refine wp_region_quiet_below (by kernel_rfl) (by kernel_rfl) ?_
      repeat (first | go_big_quiet_step ((go_at_call 105; exact Calls.regrown_of (eqTok_same op x _))) | quiet_step (fail))
      refine wpQuiet_nil ?_
      intro _ hw'
      obtain ⟨⟨dq, osq⟩, hw''⟩ := hw'
      subst hw''
      go_wp2
      go_roundw
      case rel => exact ⟨k + 1, by omega, by go_num, hbel.trans ((below_regrown wr dq osq).mono hbel.size)⟩
      case measure => simp [intOf]; omega
    · go_wp2
      go_ret
      exact ⟨rfl, hbel⟩

end Go.Proofs.YtpmpjiigmjnniaaGreat

/-
  Slices of tokens that are read, and the laws' own functions on tokens and on lists of ints.
-/
namespace Go.Proofs.YtpmpjiigmjnniaaGreat
open Go.RowKit Exs

section
variable {w w' : World} {B B' : Nat} {A : Option Addr} {n : Nat} {ts : List Token}
end

theorem Tryz.info83 : (Tryz.prog.info? 83).map (fun i => (i.zero, i.size, i.bytes)) = some (some (.agg #[.int .i64 0, .int .i64 0]), 2, 16) := by kernel_rfl

end Go.Proofs.YtpmpjiigmjnniaaGreat

/-
  Programs in memory: statements, functions, slices of them that are read. Over any program.
-/
namespace Go.Proofs.YtpmpjiigmjnniaaGreat
open Go.RowKit Exs

structure St where
  kind : Int
  n : Int
  ex : List Token
  th : List Int
  el : List Int

structure Fc where
  params : Int
  vars : Int
  body : List Int
  stmts : List St

/-- The slice value '.slice A n c' reads as the statements ss, and lies, with all that it leads to, below block B. -/
def ReadsS (w : World) (B : Nat) (A : Option Addr) (n : Nat) (ss : List St) : Prop :=
  ss.length = n ∧ (0 < n → ∃ b off, A = some ⟨b, off, none⟩ ∧ b < B ∧ ∀ (j : Nat) (s : St), ss[j]? = some s →
    ∃ A1 n1 c1 A2 n2 c2 A3 n3 c3, w.cell? ⟨b, off + j * 5, none⟩ = some (.int .i64 s.kind) ∧ w.cell? ⟨b, off + j * 5 + 1, none⟩ = some (.int .i64 s.n) ∧ w.cell? ⟨b, off + j * 5 + 2, none⟩ = some (.slice A1 n1 c1) ∧
      w.cell? ⟨b, off + j * 5 + 3, none⟩ = some (.slice A2 n2 c2) ∧ w.cell? ⟨b, off + j * 5 + 4, none⟩ = some (.slice A3 n3 c3) ∧ ReadsT w B A1 n1 s.ex ∧ Reads w B .i64 A2 n2 s.th ∧ Reads w B .i64 A3 n3 s.el)

def ReadsF (w : World) (B : Nat) (A : Option Addr) (n : Nat) (fs : List Fc) : Prop :=
  fs.length = n ∧ (0 < n → ∃ b off, A = some ⟨b, off, none⟩ ∧ b < B ∧ ∀ (j : Nat) (f : Fc), fs[j]? = some f →
    ∃ A1 n1 c1 A2 n2 c2, w.cell? ⟨b, off + j * 4, none⟩ = some (.int .i64 f.params) ∧ w.cell? ⟨b, off + j * 4 + 1, none⟩ = some (.int .i64 f.vars) ∧ w.cell? ⟨b, off + j * 4 + 2, none⟩ = some (.slice A1 n1 c1) ∧
      w.cell? ⟨b, off + j * 4 + 3, none⟩ = some (.slice A2 n2 c2) ∧ Reads w B .i64 A1 n1 f.body ∧ ReadsS w B A2 n2 f.stmts)

section
variable {w w' : World} {B B' : Nat} {A : Option Addr} {n : Nat} {ss : List St} {fs : List Fc}
theorem ReadsS.below (h : ReadsS w B A n ss) (hb : Below B w w') : ReadsS w' B A n ss :=
  ⟨h.1, fun hn => by
    obtain ⟨b, off, rfl, hB, hc⟩ := h.2 hn
    refine ⟨b, off, rfl, hB, fun j s hs => ?_⟩
    obtain ⟨A1, n1, c1, A2, n2, c2, A3, n3, c3, h0, h1, h2, h3, h4, r1, r2, r3⟩ := hc j s hs
    exact ⟨A1, n1, c1, A2, n2, c2, A3, n3, c3, (hb.cell (p := ⟨b, _, none⟩) hB).trans h0, (hb.cell (p := ⟨b, _, none⟩) hB).trans h1, (hb.cell (p := ⟨b, _, none⟩) hB).trans h2, (hb.cell (p := ⟨b, _, none⟩) hB).trans h3, (hb.cell (p := ⟨b, _, none⟩) hB).trans h4, r1.below hb, r2.below hb, r3.below hb⟩⟩
theorem ReadsS.more (h : ReadsS w B A n ss) (hB : B ≤ B') : ReadsS w B' A n ss :=
  ⟨h.1, fun hn => by
    obtain ⟨b, off, rfl, hb, hc⟩ := h.2 hn
    refine ⟨b, off, rfl, by omega, fun j s hs => ?_⟩
    obtain ⟨A1, n1, c1, A2, n2, c2, A3, n3, c3, h0, h1, h2, h3, h4, r1, r2, r3⟩ := hc j s hs
    exact ⟨A1, n1, c1, A2, n2, c2, A3, n3, c3, h0, h1, h2, h3, h4, r1.more hB, r2.more hB, r3.more hB⟩⟩
theorem ReadsS.at_ (h : ReadsS w B A n ss) {j : Nat} (hj : j < n) : ∃ b off s A1 n1 c1 A2 n2 c2 A3 n3 c3, A = some ⟨b, off, none⟩ ∧ b < B ∧ w.cell? ⟨b, off + j * 5, none⟩ = some (.int .i64 s.kind) ∧ w.cell? ⟨b, off + j * 5 + 1, none⟩ = some (.int .i64 s.n) ∧ w.cell? ⟨b, off + j * 5 + 2, none⟩ = some (.slice A1 n1 c1) ∧
      w.cell? ⟨b, off + j * 5 + 3, none⟩ = some (.slice A2 n2 c2) ∧ w.cell? ⟨b, off + j * 5 + 4, none⟩ = some (.slice A3 n3 c3) ∧ ReadsT w B A1 n1 s.ex ∧ Reads w B .i64 A2 n2 s.th ∧ Reads w B .i64 A3 n3 s.el ∧ Hid (ss[j]? = some s) := by
  obtain ⟨b, off, rfl, hb, hc⟩ := h.2 (by omega)
  have hl : j < ss.length := by rw [h.1]; exact hj
  obtain ⟨A1, n1, c1, A2, n2, c2, A3, n3, c3, h0, h1, h2, h3, h4, r1, r2, r3⟩ := hc j _ (List.getElem?_eq_getElem hl)
  exact ⟨b, off, ss[j], A1, n1, c1, A2, n2, c2, A3, n3, c3, rfl, hb, h0, h1, h2, h3, h4, r1, r2, r3, List.getElem?_eq_getElem hl⟩
theorem ReadsF.below (h : ReadsF w B A n fs) (hb : Below B w w') : ReadsF w' B A n fs :=
  ⟨h.1, fun hn => by
    obtain ⟨b, off, rfl, hB, hc⟩ := h.2 hn
    refine ⟨b, off, rfl, hB, fun j s hs => ?_⟩
    obtain ⟨A1, n1, c1, A2, n2, c2, h0, h1, h2, h3, r1, r2⟩ := hc j s hs
    exact ⟨A1, n1, c1, A2, n2, c2, (hb.cell (p := ⟨b, _, none⟩) hB).trans h0, (hb.cell (p := ⟨b, _, none⟩) hB).trans h1, (hb.cell (p := ⟨b, _, none⟩) hB).trans h2, (hb.cell (p := ⟨b, _, none⟩) hB).trans h3, r1.below hb, r2.below hb⟩⟩
theorem ReadsF.more (h : ReadsF w B A n fs) (hB : B ≤ B') : ReadsF w B' A n fs :=
  ⟨h.1, fun hn => by
    obtain ⟨b, off, rfl, hb, hc⟩ := h.2 hn
    refine ⟨b, off, rfl, by omega, fun j s hs => ?_⟩
    obtain ⟨A1, n1, c1, A2, n2, c2, h0, h1, h2, h3, r1, r2⟩ := hc j s hs
    exact ⟨A1, n1, c1, A2, n2, c2, h0, h1, h2, h3, r1.more hB, r2.more hB⟩⟩
theorem ReadsF.at_ (h : ReadsF w B A n fs) {j : Nat} (hj : j < n) : ∃ b off f A1 n1 c1 A2 n2 c2, A = some ⟨b, off, none⟩ ∧ b < B ∧ w.cell? ⟨b, off + j * 4, none⟩ = some (.int .i64 f.params) ∧ w.cell? ⟨b, off + j * 4 + 1, none⟩ = some (.int .i64 f.vars) ∧ w.cell? ⟨b, off + j * 4 + 2, none⟩ = some (.slice A1 n1 c1) ∧
      w.cell? ⟨b, off + j * 4 + 3, none⟩ = some (.slice A2 n2 c2) ∧ Reads w B .i64 A1 n1 f.body ∧ ReadsS w B A2 n2 f.stmts ∧ Hid (fs[j]? = some f) := by
  obtain ⟨b, off, rfl, hb, hc⟩ := h.2 (by omega)
  have hl : j < fs.length := by rw [h.1]; exact hj
  obtain ⟨A1, n1, c1, A2, n2, c2, h0, h1, h2, h3, r1, r2⟩ := hc j _ (List.getElem?_eq_getElem hl)
  exact ⟨b, off, fs[j], A1, n1, c1, A2, n2, c2, rfl, hb, h0, h1, h2, h3, r1, r2, List.getElem?_eq_getElem hl⟩
end

/-- A statement, a function, as values. -/
def stV (s : St) (A1 : Option Addr) (n1 c1 : Nat) (A2 : Option Addr) (n2 c2 : Nat) (A3 : Option Addr) (n3 c3 : Nat) : Value := .agg #[.int .i64 s.kind, .int .i64 s.n, .slice A1 n1 c1, .slice A2 n2 c2, .slice A3 n3 c3]
def fcV (f : Fc) (A1 : Option Addr) (n1 c1 : Nat) (A2 : Option Addr) (n2 c2 : Nat) : Value := .agg #[.int .i64 f.params, .int .i64 f.vars, .slice A1 n1 c1, .slice A2 n2 c2]
structure IsSt (w : World) (B : Nat) (s : St) (A1 : Option Addr) (n1 : Nat) (A2 : Option Addr) (n2 : Nat) (A3 : Option Addr) (n3 : Nat) : Prop where
  ex : ReadsT w B A1 n1 s.ex
  th : Reads w B .i64 A2 n2 s.th
  el : Reads w B .i64 A3 n3 s.el
structure IsFc (w : World) (B : Nat) (f : Fc) (A1 : Option Addr) (n1 : Nat) (A2 : Option Addr) (n2 : Nat) : Prop where
  body : Reads w B .i64 A1 n1 f.body
  stmts : ReadsS w B A2 n2 f.stmts
theorem IsSt.below {w w' : World} {B : Nat} {s : St} {A1 : Option Addr} {n1 : Nat} {A2 : Option Addr} {n2 : Nat} {A3 : Option Addr} {n3 : Nat} (h : IsSt w B s A1 n1 A2 n2 A3 n3) (hb : Below B w w') : IsSt w' B s A1 n1 A2 n2 A3 n3 := ⟨h.ex.below hb, h.th.below hb, h.el.below hb⟩
theorem IsSt.more {w : World} {B B' : Nat} {s : St} {A1 : Option Addr} {n1 : Nat} {A2 : Option Addr} {n2 : Nat} {A3 : Option Addr} {n3 : Nat} (h : IsSt w B s A1 n1 A2 n2 A3 n3) (hB : B ≤ B') : IsSt w B' s A1 n1 A2 n2 A3 n3 := ⟨h.ex.more hB, h.th.more hB, h.el.more hB⟩
theorem IsFc.below {w w' : World} {B : Nat} {f : Fc} {A1 : Option Addr} {n1 : Nat} {A2 : Option Addr} {n2 : Nat} (h : IsFc w B f A1 n1 A2 n2) (hb : Below B w w') : IsFc w' B f A1 n1 A2 n2 := ⟨h.body.below hb, h.stmts.below hb⟩
theorem IsFc.more {w : World} {B B' : Nat} {f : Fc} {A1 : Option Addr} {n1 : Nat} {A2 : Option Addr} {n2 : Nat} (h : IsFc w B f A1 n1 A2 n2) (hB : B ≤ B') : IsFc w B' f A1 n1 A2 n2 := ⟨h.body.more hB, h.stmts.more hB⟩
/-- At a later world, below its own end. -/
theorem IsFc.now {w w' : World} {f : Fc} {A1 : Option Addr} {n1 : Nat} {A2 : Option Addr} {n2 : Nat} (h : IsFc w w.heap.size f A1 n1 A2 n2) (hb : Below w.heap.size w w') : IsFc w' w'.heap.size f A1 n1 A2 n2 := (h.below hb).more hb.size
theorem IsSt.now {w w' : World} {s : St} {A1 : Option Addr} {n1 : Nat} {A2 : Option Addr} {n2 : Nat} {A3 : Option Addr} {n3 : Nat} (h : IsSt w w.heap.size s A1 n1 A2 n2 A3 n3) (hb : Below w.heap.size w w') : IsSt w' w'.heap.size s A1 n1 A2 n2 A3 n3 := (h.below hb).more hb.size
theorem ReadsF.now {w w' : World} {A : Option Addr} {n : Nat} {fs : List Fc} (h : ReadsF w w.heap.size A n fs) (hb : Below w.heap.size w w') : ReadsF w' w'.heap.size A n fs := (h.below hb).more hb.size
theorem ReadsS.now {w w' : World} {A : Option Addr} {n : Nat} {ss : List St} (h : ReadsS w w.heap.size A n ss) (hb : Below w.heap.size w w') : ReadsS w' w'.heap.size A n ss := (h.below hb).more hb.size
theorem Reads.now {w w' : World} {k : IntKind} {A : Option Addr} {n : Nat} {xs : List Int} (h : Reads w w.heap.size k A n xs) (hb : Below w.heap.size w w') : Reads w' w'.heap.size k A n xs := (h.below hb).more hb.size
theorem ReadsT.now {w w' : World} {A : Option Addr} {n : Nat} {ts : List Token} (h : ReadsT w w.heap.size A n ts) (hb : Below w.heap.size w w') : ReadsT w' w'.heap.size A n ts := (h.below hb).more hb.size

/-- Sizes within what the laws let through. -/
def SmallS (s : St) : Prop := s.ex.length ≤ 1048576 ∧ s.th.length ≤ 1048576 ∧ s.el.length ≤ 1048576
def SmallF (f : Fc) : Prop := f.body.length ≤ 1048576 ∧ f.stmts.length ≤ 1048576 ∧ ∀ s ∈ f.stmts, SmallS s
def SmallP (fs : List Fc) : Prop := fs.length ≤ 1048576 ∧ ∀ f ∈ fs, SmallF f

/-- How many values the laws count. -/
def manyS (s : St) : Nat := s.ex.length + s.th.length + s.el.length
def manySs : List St → Nat
  | [] => 0
  | s :: r => manyS s + manySs r
def manyF (f : Fc) : Nat := f.body.length + (f.stmts.length + manySs f.stmts)
def manyFs : List Fc → Nat
  | [] => 0
  | f :: r => manyF f + manyFs r
theorem manySs_append (a b : List St) : manySs (a ++ b) = manySs a + manySs b := by induction a with | nil => simp [manySs] | cons s r ih => simp [manySs, ih]; omega
theorem manyFs_append (a b : List Fc) : manyFs (a ++ b) = manyFs a + manyFs b := by induction a with | nil => simp [manyFs] | cons s r ih => simp [manyFs, ih]; omega
theorem manySs_mem {ss : List St} {s : St} (h : s ∈ ss) : manyS s ≤ manySs ss := by
  induction ss with
  | nil => cases h
  | cons a r ih => rcases List.mem_cons.1 h with rfl | h; · simp [manySs]
                   · have := ih h; simp [manySs]; omega
theorem manyFs_mem {fs : List Fc} {f : Fc} (h : f ∈ fs) : manyF f ≤ manyFs fs := by
  induction fs with
  | nil => cases h
  | cons a r ih => rcases List.mem_cons.1 h with rfl | h; · simp [manyFs]
                   · have := ih h; simp [manyFs]; omega
theorem smallF_of {f : Fc} (h : manyF f ≤ 1048576) : SmallF f := by
  unfold manyF at h
  refine ⟨by omega, by omega, fun s hs => ?_⟩
  have := manySs_mem hs
  unfold manyS at this
  exact ⟨by omega, by omega, by omega⟩
theorem smallP_of {fs : List Fc} (h : fs.length + manyFs fs ≤ 1048576) : SmallP fs :=
  ⟨by omega, fun f hf => smallF_of (by have := manyFs_mem hf; omega)⟩

theorem takeA_more {α : Type} {ts : List α} {k : Nat} {t : α} (h : ts[k]? = some t) : ts.take (k + 1) = ts.take k ++ [t] := by
  rw [List.take_add_one, h]; rfl
theorem mem_of_at {α : Type} {ts : List α} {k : Nat} {t : α} (h : ts[k]? = some t) : t ∈ ts := List.mem_of_getElem? h

end Go.Proofs.YtpmpjiigmjnniaaGreat

/-
  The laws' copying of programs: what is copied lies in blocks of its own.
-/
namespace Go.Proofs.YtpmpjiigmjnniaaGreat
open Go.RowKit Exs

/-- Blocks from L on are as they were. -/
def SameFrom (L : Nat) (w w' : World) : Prop := ∀ k, L ≤ k → k < w.heap.size → w'.heap[k]? = w.heap[k]?
theorem SameFrom.of_below {L : Nat} {w w' : World} (h : Below w.heap.size w w') : SameFrom L w w' := fun k _ hk => h.block k hk
theorem SameFrom.setCell (w : World) (g i : Nat) (v : Value) : SameFrom (g + 1) w (w.setCell ⟨g, i, none⟩ v) := fun k hk _ => Below.heap_setCell _ _ _ _ (show k ≠ g by omega)
theorem SameFrom.trans {L : Nat} {a b c : World} (h : SameFrom L a b) (k : SameFrom L b c) (hs : a.heap.size ≤ b.heap.size) : SameFrom L a c := fun i hi hs' => (k i hi (by omega)).trans (h i hi hs')
theorem SameFrom.mono {L L' : Nat} {w w' : World} (h : SameFrom L w w') (hL : L ≤ L') : SameFrom L' w w' := fun k hk hs => h k (by omega) hs
theorem Room.same {w w' : World} {g : Nat} {t : TypeId} {n : Nat} {k : IntKind} {xs : List Int} (h : Room w g t n k xs) (hs : SameFrom g w w') : Room w' g t n k xs := by
  have hl := h.lt
  obtain ⟨cs, h1, h2, h3⟩ := h
  exact ⟨cs, (hs g (Nat.le_refl _) hl).trans h1, h2, h3⟩

def MInts (w : World) (L : Nat) (A : Option Addr) (n : Nat) (xs : List Int) : Prop := ∃ g, A = some ⟨g, 0, none⟩ ∧ L ≤ g ∧ Room w g 3 n .i64 xs ∧ xs.length = n
def MToks (w : World) (L : Nat) (A : Option Addr) (n : Nat) (ts : List Token) : Prop := ∃ g, A = some ⟨g, 0, none⟩ ∧ L ≤ g ∧ Room w g 137 (2 * n) .i64 (flat ts) ∧ ts.length = n
theorem MInts.same {w w' : World} {L : Nat} {A : Option Addr} {n : Nat} {xs : List Int} (h : MInts w L A n xs) (hs : SameFrom L w w') : MInts w' L A n xs := by
  obtain ⟨g, e, hg, r, hl⟩ := h; exact ⟨g, e, hg, r.same (hs.mono hg), hl⟩
theorem MToks.same {w w' : World} {L : Nat} {A : Option Addr} {n : Nat} {xs : List Token} (h : MToks w L A n xs) (hs : SameFrom L w w') : MToks w' L A n xs := by
  obtain ⟨g, e, hg, r, hl⟩ := h; exact ⟨g, e, hg, r.same (hs.mono hg), hl⟩
theorem MInts.from {w : World} {L L' : Nat} {A : Option Addr} {n : Nat} {xs : List Int} (h : MInts w L A n xs) (hL : L' ≤ L) : MInts w L' A n xs := by
  obtain ⟨g, e, hg, r, hl⟩ := h; exact ⟨g, e, by omega, r, hl⟩
theorem MToks.from {w : World} {L L' : Nat} {A : Option Addr} {n : Nat} {xs : List Token} (h : MToks w L A n xs) (hL : L' ≤ L) : MToks w L' A n xs := by
  obtain ⟨g, e, hg, r, hl⟩ := h; exact ⟨g, e, by omega, r, hl⟩
theorem MInts.reads {w : World} {L : Nat} {A : Option Addr} {n : Nat} {xs : List Int} (h : MInts w L A n xs) : Reads w w.heap.size .i64 A n xs := by
  obtain ⟨g, rfl, _, r, hl⟩ := h; exact r.reads hl
theorem MToks.reads {w : World} {L : Nat} {A : Option Addr} {n : Nat} {xs : List Token} (h : MToks w L A n xs) : ReadsT w w.heap.size A n xs := by
  obtain ⟨g, rfl, _, r, hl⟩ := h; exact r.readsT hl

structure MSt (w : World) (L : Nat) (s : St) (A1 : Option Addr) (n1 : Nat) (A2 : Option Addr) (n2 : Nat) (A3 : Option Addr) (n3 : Nat) : Prop where
  ex : MToks w L A1 n1 s.ex
  th : MInts w L A2 n2 s.th
  el : MInts w L A3 n3 s.el
theorem MSt.same {w w' : World} {L : Nat} {s : St} {A1 : Option Addr} {n1 : Nat} {A2 : Option Addr} {n2 : Nat} {A3 : Option Addr} {n3 : Nat} (h : MSt w L s A1 n1 A2 n2 A3 n3) (hs : SameFrom L w w') : MSt w' L s A1 n1 A2 n2 A3 n3 := ⟨h.ex.same hs, h.th.same hs, h.el.same hs⟩
theorem MSt.from {w : World} {L L' : Nat} {s : St} {A1 : Option Addr} {n1 : Nat} {A2 : Option Addr} {n2 : Nat} {A3 : Option Addr} {n3 : Nat} (h : MSt w L s A1 n1 A2 n2 A3 n3) (hL : L' ≤ L) : MSt w L' s A1 n1 A2 n2 A3 n3 := ⟨h.ex.from hL, h.th.from hL, h.el.from hL⟩

/-- Block g is a row of n statements of which the first ones are ss; what they lead to lies in later blocks. -/
def RoomS (w : World) (g n : Nat) (ss : List St) : Prop :=
  ∃ cs : Array Value, w.heap[g]? = some (.cells cs 80 (0, 0)) ∧ cs.size = n * 5 ∧ ∀ (j : Nat) (s : St), ss[j]? = some s → ∃ A1 n1 c1 A2 n2 c2 A3 n3 c3,
    cs[j * 5]? = some (.int .i64 s.kind) ∧ cs[j * 5 + 1]? = some (.int .i64 s.n) ∧ cs[j * 5 + 2]? = some (.slice A1 n1 c1) ∧ cs[j * 5 + 3]? = some (.slice A2 n2 c2) ∧ cs[j * 5 + 4]? = some (.slice A3 n3 c3) ∧ MSt w (g + 1) s A1 n1 A2 n2 A3 n3
theorem RoomS.lt {w : World} {g n : Nat} {ss : List St} (h : RoomS w g n ss) : g < w.heap.size := by
  obtain ⟨cs, h1, _⟩ := h; exact (Array.getElem?_eq_some_iff.1 h1).1
theorem RoomS.same {w w' : World} {g n : Nat} {ss : List St} (h : RoomS w g n ss) (hs : SameFrom g w w') : RoomS w' g n ss := by
  have hl := h.lt
  obtain ⟨cs, h1, h2, h3⟩ := h
  refine ⟨cs, (hs g (Nat.le_refl _) hl).trans h1, h2, fun j s hj => ?_⟩
  obtain ⟨A1, n1, c1, A2, n2, c2, A3, n3, c3, g0, g1, g2, g3, g4, m⟩ := h3 j s hj
  exact ⟨A1, n1, c1, A2, n2, c2, A3, n3, c3, g0, g1, g2, g3, g4, m.same (hs.mono (by omega))⟩
theorem RoomS.at_ {w : World} {g n : Nat} {ss : List St} (h : RoomS w g n ss) (j : Nat) (hj : j < n * 5) : ∃ v, w.cell? ⟨g, j, none⟩ = some v := by
  obtain ⟨cs, h1, h2, _⟩ := h
  exact ⟨cs[j], by rw [cell_of_row w g j cs 80 (0, 0) h1]; exact Array.getElem?_eq_getElem (by omega)⟩
theorem RoomS.frozen {w : World} {g n : Nat} {ss : List St} (h : RoomS w g n ss) (j : Nat) : w.frozen? ⟨g, j, none⟩ = false := by
  obtain ⟨cs, h1, _⟩ := h
  simp [World.frozen?, h1]
theorem heap_set {w : World} {g i : Nat} {v : Value} {cs : Array Value} {t : TypeId} (h : w.heap[g]? = some (.cells cs t (0, 0))) : (w.setCell ⟨g, i, none⟩ v).heap[g]? = some (.cells (cs.setIfInBounds i v) t (0, 0)) := by
  simp [World.setCell, Array.getElem?_modify, h]
theorem size_set (w : World) (p : Addr) (v : Value) : (w.setCell p v).heap.size = w.heap.size := by simp [World.setCell]
theorem RoomS.push {w : World} {g n : Nat} {ss : List St} (h : RoomS w g n ss) (hc : ss.length < n) (s : St) (A1 : Option Addr) (n1 c1 : Nat) (A2 : Option Addr) (n2 c2 : Nat) (A3 : Option Addr) (n3 c3 : Nat) (hm : MSt w (g + 1) s A1 n1 A2 n2 A3 n3) :
    RoomS (((((w.setCell ⟨g, ss.length * 5, none⟩ (.int .i64 s.kind)).setCell ⟨g, ss.length * 5 + 1, none⟩ (.int .i64 s.n)).setCell ⟨g, ss.length * 5 + 2, none⟩ (.slice A1 n1 c1)).setCell ⟨g, ss.length * 5 + 3, none⟩ (.slice A2 n2 c2)).setCell ⟨g, ss.length * 5 + 4, none⟩ (.slice A3 n3 c3)) g n (ss ++ [s]) := by
  have hsame : SameFrom (g + 1) w (((((w.setCell ⟨g, ss.length * 5, none⟩ (.int .i64 s.kind)).setCell ⟨g, ss.length * 5 + 1, none⟩ (.int .i64 s.n)).setCell ⟨g, ss.length * 5 + 2, none⟩ (.slice A1 n1 c1)).setCell ⟨g, ss.length * 5 + 3, none⟩ (.slice A2 n2 c2)).setCell ⟨g, ss.length * 5 + 4, none⟩ (.slice A3 n3 c3)) := by
    intro k hk _
    rw [Below.heap_setCell _ _ _ _ (show k ≠ g by omega), Below.heap_setCell _ _ _ _ (show k ≠ g by omega), Below.heap_setCell _ _ _ _ (show k ≠ g by omega), Below.heap_setCell _ _ _ _ (show k ≠ g by omega), Below.heap_setCell _ _ _ _ (show k ≠ g by omega)]
  obtain ⟨cs, h1, h2, h3⟩ := h
  refine ⟨_, heap_set (heap_set (heap_set (heap_set (heap_set h1)))), by simpa using h2, fun j s' hj => ?_⟩
  by_cases hl : j < ss.length
  · rw [List.getElem?_append_left hl] at hj
    obtain ⟨B1, m1, d1, B2, m2, d2, B3, m3, d3, g0, g1, g2, g3, g4, m⟩ := h3 j s' hj
    refine ⟨B1, m1, d1, B2, m2, d2, B3, m3, d3, ?_, ?_, ?_, ?_, ?_, m.same hsame⟩ <;> (simp only [Array.getElem?_setIfInBounds]; (repeat rw [if_neg (by omega)]); assumption)
  · have hj2 : j = ss.length := by
      have := (List.getElem?_eq_some_iff.1 hj).1
      simp at this; omega
    subst hj2
    rw [List.getElem?_append_right (Nat.le_refl _)] at hj
    simp at hj
    subst hj
    refine ⟨A1, n1, c1, A2, n2, c2, A3, n3, c3, ?_, ?_, ?_, ?_, ?_, hm.same hsame⟩ <;> (simp only [Array.getElem?_setIfInBounds, Array.size_setIfInBounds]; (repeat rw [if_neg (by omega)]); rw [if_pos trivial, if_pos (by omega)])
theorem RoomS.reads {w : World} {g n : Nat} {ss : List St} (h : RoomS w g n ss) (hn : ss.length = n) : ReadsS w w.heap.size (some ⟨g, 0, none⟩) n ss := by
  have hl := h.lt
  obtain ⟨cs, h1, h2, h3⟩ := h
  refine ⟨hn, fun _ => ⟨g, 0, rfl, hl, fun j s hj => ?_⟩⟩
  obtain ⟨A1, n1, c1, A2, n2, c2, A3, n3, c3, g0, g1, g2, g3, g4, m⟩ := h3 j s hj
  have hc := fun i => cell_of_row w g i cs 80 (0, 0) h1
  refine ⟨A1, n1, c1, A2, n2, c2, A3, n3, c3, ?_, ?_, ?_, ?_, ?_, m.ex.reads, m.th.reads, m.el.reads⟩ <;> (rw [Nat.zero_add, hc]; assumption)

def MStmts (w : World) (L : Nat) (A : Option Addr) (n : Nat) (ss : List St) : Prop := ∃ g, A = some ⟨g, 0, none⟩ ∧ L ≤ g ∧ RoomS w g n ss ∧ ss.length = n
theorem MStmts.same {w w' : World} {L : Nat} {A : Option Addr} {n : Nat} {xs : List St} (h : MStmts w L A n xs) (hs : SameFrom L w w') : MStmts w' L A n xs := by
  obtain ⟨g, e, hg, r, hl⟩ := h; exact ⟨g, e, hg, r.same (hs.mono hg), hl⟩
theorem MStmts.from {w : World} {L L' : Nat} {A : Option Addr} {n : Nat} {xs : List St} (h : MStmts w L A n xs) (hL : L' ≤ L) : MStmts w L' A n xs := by
  obtain ⟨g, e, hg, r, hl⟩ := h; exact ⟨g, e, by omega, r, hl⟩
theorem MStmts.reads {w : World} {L : Nat} {A : Option Addr} {n : Nat} {xs : List St} (h : MStmts w L A n xs) : ReadsS w w.heap.size A n xs := by
  obtain ⟨g, rfl, _, r, hl⟩ := h; exact r.reads hl

structure MFc (w : World) (L : Nat) (f : Fc) (A1 : Option Addr) (n1 : Nat) (A2 : Option Addr) (n2 : Nat) : Prop where
  body : MInts w L A1 n1 f.body
  stmts : MStmts w L A2 n2 f.stmts
theorem MFc.same {w w' : World} {L : Nat} {f : Fc} {A1 : Option Addr} {n1 : Nat} {A2 : Option Addr} {n2 : Nat} (h : MFc w L f A1 n1 A2 n2) (hs : SameFrom L w w') : MFc w' L f A1 n1 A2 n2 := ⟨h.body.same hs, h.stmts.same hs⟩
theorem MFc.from {w : World} {L L' : Nat} {f : Fc} {A1 : Option Addr} {n1 : Nat} {A2 : Option Addr} {n2 : Nat} (h : MFc w L f A1 n1 A2 n2) (hL : L' ≤ L) : MFc w L' f A1 n1 A2 n2 := ⟨h.body.from hL, h.stmts.from hL⟩
theorem MFc.is {w : World} {L : Nat} {f : Fc} {A1 : Option Addr} {n1 : Nat} {A2 : Option Addr} {n2 : Nat} (h : MFc w L f A1 n1 A2 n2) : IsFc w w.heap.size f A1 n1 A2 n2 := ⟨h.body.reads, h.stmts.reads⟩

def RoomF (w : World) (g n : Nat) (fs : List Fc) : Prop :=
  ∃ cs : Array Value, w.heap[g]? = some (.cells cs 59 (0, 0)) ∧ cs.size = n * 4 ∧ ∀ (j : Nat) (f : Fc), fs[j]? = some f → ∃ A1 n1 c1 A2 n2 c2,
    cs[j * 4]? = some (.int .i64 f.params) ∧ cs[j * 4 + 1]? = some (.int .i64 f.vars) ∧ cs[j * 4 + 2]? = some (.slice A1 n1 c1) ∧ cs[j * 4 + 3]? = some (.slice A2 n2 c2) ∧ MFc w (g + 1) f A1 n1 A2 n2
theorem RoomF.lt {w : World} {g n : Nat} {ss : List Fc} (h : RoomF w g n ss) : g < w.heap.size := by
  obtain ⟨cs, h1, _⟩ := h; exact (Array.getElem?_eq_some_iff.1 h1).1
theorem RoomF.same {w w' : World} {g n : Nat} {ss : List Fc} (h : RoomF w g n ss) (hs : SameFrom g w w') : RoomF w' g n ss := by
  have hl := h.lt
  obtain ⟨cs, h1, h2, h3⟩ := h
  refine ⟨cs, (hs g (Nat.le_refl _) hl).trans h1, h2, fun j s hj => ?_⟩
  obtain ⟨A1, n1, c1, A2, n2, c2, g0, g1, g2, g3, m⟩ := h3 j s hj
  exact ⟨A1, n1, c1, A2, n2, c2, g0, g1, g2, g3, m.same (hs.mono (by omega))⟩
theorem RoomF.at_ {w : World} {g n : Nat} {ss : List Fc} (h : RoomF w g n ss) (j : Nat) (hj : j < n * 4) : ∃ v, w.cell? ⟨g, j, none⟩ = some v := by
  obtain ⟨cs, h1, h2, _⟩ := h
  exact ⟨cs[j], by rw [cell_of_row w g j cs 59 (0, 0) h1]; exact Array.getElem?_eq_getElem (by omega)⟩
theorem RoomF.frozen {w : World} {g n : Nat} {ss : List Fc} (h : RoomF w g n ss) (j : Nat) : w.frozen? ⟨g, j, none⟩ = false := by
  obtain ⟨cs, h1, _⟩ := h
  simp [World.frozen?, h1]
theorem RoomF.push {w : World} {g n : Nat} {ss : List Fc} (h : RoomF w g n ss) (hc : ss.length < n) (s : Fc) (A1 : Option Addr) (n1 c1 : Nat) (A2 : Option Addr) (n2 c2 : Nat) (hm : MFc w (g + 1) s A1 n1 A2 n2) :
    RoomF ((((w.setCell ⟨g, ss.length * 4, none⟩ (.int .i64 s.params)).setCell ⟨g, ss.length * 4 + 1, none⟩ (.int .i64 s.vars)).setCell ⟨g, ss.length * 4 + 2, none⟩ (.slice A1 n1 c1)).setCell ⟨g, ss.length * 4 + 3, none⟩ (.slice A2 n2 c2)) g n (ss ++ [s]) := by
  have hsame : SameFrom (g + 1) w ((((w.setCell ⟨g, ss.length * 4, none⟩ (.int .i64 s.params)).setCell ⟨g, ss.length * 4 + 1, none⟩ (.int .i64 s.vars)).setCell ⟨g, ss.length * 4 + 2, none⟩ (.slice A1 n1 c1)).setCell ⟨g, ss.length * 4 + 3, none⟩ (.slice A2 n2 c2)) := by
    intro k hk _
    rw [Below.heap_setCell _ _ _ _ (show k ≠ g by omega), Below.heap_setCell _ _ _ _ (show k ≠ g by omega), Below.heap_setCell _ _ _ _ (show k ≠ g by omega), Below.heap_setCell _ _ _ _ (show k ≠ g by omega)]
  obtain ⟨cs, h1, h2, h3⟩ := h
  refine ⟨_, heap_set (heap_set (heap_set (heap_set h1))), by simpa using h2, fun j s' hj => ?_⟩
  by_cases hl : j < ss.length
  · rw [List.getElem?_append_left hl] at hj
    obtain ⟨B1, m1, d1, B2, m2, d2, g0, g1, g2, g3, m⟩ := h3 j s' hj
    refine ⟨B1, m1, d1, B2, m2, d2, ?_, ?_, ?_, ?_, m.same hsame⟩ <;> (simp only [Array.getElem?_setIfInBounds]; (repeat rw [if_neg (by omega)]); assumption)
  · have hj2 : j = ss.length := by
      have := (List.getElem?_eq_some_iff.1 hj).1
      simp at this; omega
    subst hj2
    rw [List.getElem?_append_right (Nat.le_refl _)] at hj
    simp at hj
    subst hj
    refine ⟨A1, n1, c1, A2, n2, c2, ?_, ?_, ?_, ?_, hm.same hsame⟩ <;> (simp only [Array.getElem?_setIfInBounds, Array.size_setIfInBounds]; (repeat rw [if_neg (by omega)]); rw [if_pos trivial, if_pos (by omega)])
theorem RoomF.reads {w : World} {g n : Nat} {ss : List Fc} (h : RoomF w g n ss) (hn : ss.length = n) : ReadsF w w.heap.size (some ⟨g, 0, none⟩) n ss := by
  have hl := h.lt
  obtain ⟨cs, h1, h2, h3⟩ := h
  refine ⟨hn, fun _ => ⟨g, 0, rfl, hl, fun j s hj => ?_⟩⟩
  obtain ⟨A1, n1, c1, A2, n2, c2, g0, g1, g2, g3, m⟩ := h3 j s hj
  have hc := fun i => cell_of_row w g i cs 59 (0, 0) h1
  refine ⟨A1, n1, c1, A2, n2, c2, ?_, ?_, ?_, ?_, m.body.reads, m.stmts.reads⟩ <;> (rw [Nat.zero_add, hc]; assumption)
def MFuncs (w : World) (L : Nat) (A : Option Addr) (n : Nat) (fs : List Fc) : Prop := ∃ g, A = some ⟨g, 0, none⟩ ∧ L ≤ g ∧ RoomF w g n fs ∧ fs.length = n
theorem MFuncs.same {w w' : World} {L : Nat} {A : Option Addr} {n : Nat} {xs : List Fc} (h : MFuncs w L A n xs) (hs : SameFrom L w w') : MFuncs w' L A n xs := by
  obtain ⟨g, e, hg, r, hl⟩ := h; exact ⟨g, e, hg, r.same (hs.mono hg), hl⟩
theorem MFuncs.reads {w : World} {L : Nat} {A : Option Addr} {n : Nat} {xs : List Fc} (h : MFuncs w L A n xs) : ReadsF w w.heap.size A n xs := by
  obtain ⟨g, rfl, _, r, hl⟩ := h; exact r.reads hl

end Go.Proofs.YtpmpjiigmjnniaaGreat

/-
  How long a block of statements is, whatever its depth.
-/
import Derived.Test.YtpmpjiigmjnniaaGreatJLowQ
namespace Go.Proofs.YtpmpjiigmjnniaaGreat
open Go.RowKit Exs

theorem long_nil : ∀ b : Lo, b.many = 0 → b = .nil
  | .nil, _ => rfl
  | .plain _ r, h => by simp [Lo.many] at h
  | .ifs _ _ _ r, h => by simp [Lo.many] at h
  | .whl _ _ r, h => by simp [Lo.many] at h

theorem method_plain (v : Value) (w : World) : (method 271 130 v "loop.example/g00745/impl.long").run Tryz.prog w = .ok (129, v) w := by kernel_rfl
theorem method_if (v : Value) (w : World) : (method 271 132 v "loop.example/g00745/impl.long").run Tryz.prog w = .ok (130, v) w := by kernel_rfl
theorem method_whl (v : Value) (w : World) : (method 271 134 v "loop.example/g00745/impl.long").run Tryz.prog w = .ok (131, v) w := by kernel_rfl

set_option maxHeartbeats 2000000 in
set_option maxRecDepth 100000 in
theorem long_step (d : Nat) (HS : Hid (∀ d', d' < d → LongC d')) : LongC d := by
  intro lo S A n c w hd hn hsz hlong hS hlo
  have hn6 : n ≤ 1000000 := by rw [hn]; exact Nat.le_trans lo.many_size hsz
  have HSZ := put hsz
  have HN := put hn
  have HLO := put hlong
  have HSS := put hS
  have hm1 := method_plain
  have hm2 := method_if
  have hm3 := method_whl
  clear hn hlong hS hsz
  go_enter Tryz.func87, Tryz.ntmps87
  go_wp2
  go_loopw [3, 8] (fun s i wr => ∃ (k : Nat) (b : Lo) (L : Nat), k ≤ n ∧ i = .int .i64 k ∧ k + b.many = n ∧ s = .int .i64 L ∧ L + b.long = lo.long ∧ b.size ≤ lo.size ∧ b.deep ≤ d ∧ HoldsLo wr S A k b ∧ Below w.heap.size w wr) (fun _ i _ => n - (intOf i).toNat)
  case atStart => exact ⟨0, lo, 0, Nat.zero_le _, rfl, by have := HN.out; omega, rfl, by omega, Nat.le_refl _, hd, hlo, Below.refl _ _⟩
  case round =>
    obtain ⟨k, b, L, hk, rfl, hkb, rfl, hL, hbs, hbd, hh, hbel⟩ := hrel
    cases b with
    | nil =>
      have hkn : k = n := by simpa [Lo.many] using hkb
      have hLL : L = lo.long := by simpa [Lo.long] using hL
      subst hkn
      go_wp2
      go_ret
      exact ⟨ret_int (by omega), hbel⟩
    | plain c r =>
      obtain ⟨⟨g, o, v, rfl, hg, hc, hi⟩, hr⟩ := hh
      simp only [Lo.many, Lo.long, Lo.deep, Lo.size] at hkb hL hbd hbs
      have hlt : k < n := by omega
      have HR := put hr
      have HL := put hL
      have HK := put hkb
      have hw1 : IntKind.i64.wrap ((L : Int) + (c.length : Int)) = ((L + c.length : Nat) : Int) := IntWalk.i64_in _ ⟨by omega, by have := HLO.out; omega⟩
      have HC := put (plainLong_any v c S wr hi)
      clear hr hL hkb hi hlo
      go_wp2_with (go_at_call 129; refine HC.out.mono ?_; rintro e w1 ⟨rfl, rfl⟩)
      go_roundw
      case rel => exact ⟨k + 1, r, L + c.length, by omega, by go_num, by have := HK.out; omega, by go_num, by have := HL.out; omega, by omega, hbd, HR.out, hbel⟩
      case measure => simp [intOf]; omega
    | ifs e0 t l r =>
      obtain ⟨⟨g, o, v, At, nt, ct, Al, nl, cl, rfl, hg, hc, hi, ht, hel, hht, hhl⟩, hr⟩ := hh
      simp only [Lo.many, Lo.long, Lo.deep, Lo.size] at hkb hL hbd hbs
      have hlt : k < n := by omega
      have hS1 : ∀ b, S b → b < wr.heap.size := fun b hb => Nat.lt_of_lt_of_le (HSS.out b hb) hbel.size
      have HT : Hid (∀ W, Below wr.heap.size wr W → Calls Tryz.prog 87 #[.slice At nt ct] W fun e w' => e = .returned (.int .i64 (t.long : Nat)) ∧ Below W.heap.size W w') :=
        put fun W hW => HS.out (d - 1) (by omega) t S At nt ct W (by omega) ht (by have := HSZ.out; omega) (by have := HLO.out; omega) (fun b hb => Nat.lt_of_lt_of_le (hS1 b hb) hW.size) (holds_below hS1 hht hW)
      have HE : Hid (∀ W, Below wr.heap.size wr W → Calls Tryz.prog 87 #[.slice Al nl cl] W fun e w' => e = .returned (.int .i64 (l.long : Nat)) ∧ Below W.heap.size W w') :=
        put fun W hW => HS.out (d - 1) (by omega) l S Al nl cl W (by omega) hel (by have := HSZ.out; omega) (by have := HLO.out; omega) (fun b hb => Nat.lt_of_lt_of_le (hS1 b hb) hW.size) (holds_below hS1 hhl hW)
      have HC := put (ifLong_any v e0 S At nt ct t.long Al nl cl l.long wr hi (by have := HLO.out; omega) HT HE)
      have HR := put (fun W (hW : Below wr.heap.size wr W) => holds_below hS1 hr hW)
      have HL := put hL
      have HK := put hkb
      generalize hM : e0.length + 1 + t.long + 1 + l.long = M at HC HL
      have hw1 : IntKind.i64.wrap ((L : Int) + (M : Int)) = ((L + M : Nat) : Int) := IntWalk.i64_in _ ⟨by omega, by have := HLO.out; have := HL.out; omega⟩
      clear hr hL hkb hi hlo HT HE ht hel hht hhl hS1 hM
      go_wp2_with (go_at_call 130; refine HC.out.mono ?_; rintro e w1 ⟨rfl, hb1⟩)
      go_roundw
      case rel => exact ⟨k + 1, r, L + M, by omega, by go_num, by have := HK.out; omega, by go_num, by have := HL.out; omega, by omega, by omega, HR.out _ hb1, hbel.trans (hb1.mono hbel.size)⟩
      case measure => simp [intOf]; omega
    | whl e0 t r =>
      obtain ⟨⟨g, o, v, At, nt, ct, rfl, hg, hc, hi, ht, hht⟩, hr⟩ := hh
      simp only [Lo.many, Lo.long, Lo.deep, Lo.size] at hkb hL hbd hbs
      have hlt : k < n := by omega
      have hS1 : ∀ b, S b → b < wr.heap.size := fun b hb => Nat.lt_of_lt_of_le (HSS.out b hb) hbel.size
      have HT : Hid (∀ W, Below wr.heap.size wr W → Calls Tryz.prog 87 #[.slice At nt ct] W fun e w' => e = .returned (.int .i64 (t.long : Nat)) ∧ Below W.heap.size W w') :=
        put fun W hW => HS.out (d - 1) (by omega) t S At nt ct W (by omega) ht (by have := HSZ.out; omega) (by have := HLO.out; omega) (fun b hb => Nat.lt_of_lt_of_le (hS1 b hb) hW.size) (holds_below hS1 hht hW)
      have HC := put (whlLong_any v e0 S At nt ct t.long wr hi (by have := HLO.out; omega) HT)
      have HR := put (fun W (hW : Below wr.heap.size wr W) => holds_below hS1 hr hW)
      have HL := put hL
      have HK := put hkb
      generalize hM : e0.length + 1 + t.long + 1 = M at HC HL
      have hw1 : IntKind.i64.wrap ((L : Int) + (M : Int)) = ((L + M : Nat) : Int) := IntWalk.i64_in _ ⟨by omega, by have := HLO.out; have := HL.out; omega⟩
      clear hr hL hkb hi hlo HT ht hht hS1 hM
      go_wp2_with (go_at_call 131; refine HC.out.mono ?_; rintro e w1 ⟨rfl, hb1⟩)
      go_roundw
      case rel => exact ⟨k + 1, r, L + M, by omega, by go_num, by have := HK.out; omega, by go_num, by have := HL.out; omega, by omega, by omega, HR.out _ hb1, hbel.trans (hb1.mono hbel.size)⟩
      case measure => simp [intOf]; omega

/-- 'long' of a block, whatever its depth. -/
theorem long_any : ∀ d, LongC d := fun d => Nat.strongRecOn d fun d ih => long_step d (put ih)

end Go.Proofs.YtpmpjiigmjnniaaGreat

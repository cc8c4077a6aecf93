/-
  How long a block of statements is: the program's 'long'.
-/
import Derived.Test.YtpmpjiigmjnniaaGreatJLowS
import Derived.Deep.RegionWith
namespace Go.Proofs.YtpmpjiigmjnniaaGreat
open Go.RowKit Exs

/-- How many statements a block has, those within counted. -/
def Lo.size : Lo → Nat
  | .nil => 0
  | .plain _ r => 1 + r.size
  | .ifs _ t l r => 1 + t.size + l.size + r.size
  | .whl _ t r => 1 + t.size + r.size
theorem Lo.many_size : ∀ b : Lo, b.many ≤ b.size
  | .nil => Nat.le_refl _
  | .plain _ r => by simp only [many, size]; have := many_size r; omega
  | .ifs _ _ _ r => by simp only [many, size]; have := many_size r; omega
  | .whl _ _ r => by simp only [many, size]; have := many_size r; omega
/-- What 'long' of a block answers, for blocks that are not deeper. -/
def LongC (d : Nat) : Prop := ∀ (lo : Lo) (S : Nat → Prop) (A : Option Addr) (n c : Nat) (w : World), lo.deep ≤ d → n = lo.many → lo.size ≤ 1000000 → lo.long ≤ 1000000 → (∀ b, S b → b < w.heap.size) → HoldsLo w S A 0 lo →
  Calls Tryz.prog 87 #[.slice A n c] w fun e w' => e = .returned (.int .i64 (lo.long : Nat)) ∧ Below w.heap.size w w'
theorem holds_below {w w' : World} {S : Nat → Prop} {A : Option Addr} {i : Nat} {lo : Lo} (hS : ∀ b, S b → b < w.heap.size) (h : HoldsLo w S A i lo) (hb : Below w.heap.size w w') : HoldsLo w' S A i lo := h.kept (fun b hs => hb.block b (hS b hs)) lo A i

theorem plainLong_any (v : Value) (c : List Token) (S : Nat → Prop) (w : World) (h : InsAt w S v c) : Calls Tryz.prog 129 #[v] w fun e w' => e = .returned (.int .i64 c.length) ∧ w' = w := by
  obtain ⟨A, cap, rfl, _⟩ := h.1.reads
  go_enter Tryz.func129, Tryz.ntmps129
  go_wp2
  go_ret
  exact ⟨rfl, rfl⟩

set_option maxHeartbeats 1000000 in
set_option maxRecDepth 100000 in
theorem whlLong_any (v : Value) (e0 : List Token) (S : Nat → Prop) (At : Option Addr) (nt ct T : Nat) (w : World) (h : InsAt w S v e0) (hl : e0.length + 1 + T + 1 ≤ 1000000)
    (HT : Hid (∀ W, Below w.heap.size w W → Calls Tryz.prog 87 #[.slice At nt ct] W fun e w' => e = .returned (.int .i64 T) ∧ Below W.heap.size W w')) :
    Calls Tryz.prog 131 #[.agg #[v, .slice At nt ct]] w fun e w' => e = .returned (.int .i64 ((e0.length + 1 + T + 1 : Nat) : Int)) ∧ Below w.heap.size w w' := by
  obtain ⟨A, cap, rfl, _⟩ := h.1.reads
  clear h
  generalize e0.length = E at hl ⊢
  have hb0 : Below w.heap.size w (w.alloc (.cells #[.slice A E cap, .slice At nt ct] 134)) := (Below.refl _ _).alloc (Nat.le_refl _) _
  have hk0 := Keep.new w #[.slice A E cap, .slice At nt ct] 134
  have hw1 : IntKind.i64.wrap ((E : Int) + 1) = (E : Int) + 1 := IntWalk.i64_in _ ⟨by omega, by omega⟩
  have hw2 : IntKind.i64.wrap ((E : Int) + 1 + (T : Int)) = (E : Int) + 1 + (T : Int) := IntWalk.i64_in _ ⟨by omega, by omega⟩
  have hw3 : IntKind.i64.wrap ((E : Int) + 1 + (T : Int) + 1) = (E : Int) + 1 + (T : Int) + 1 := IntWalk.i64_in _ ⟨by omega, by omega⟩
  go_enter Tryz.func131, Tryz.ntmps131
  go_wp2
  go_region_law (go_simp; go_at_call 87; refine (HT.out _ hb0.drew).mono ?_; rintro e w1 ⟨rfl, hb1⟩; have b1 : Below w.heap.size w w1 := hb0.drew.trans (hb1.mono hb0.size); have k1 := Keep.below (w := (w.alloc (.cells #[.slice A E cap, .slice At nt ct] 134)).drew) hk0 hb1; have y0 := k1.cell 0; have y1 := k1.cell 1; simp at y0 y1)
  all_goals (
    go_wp2
    go_ret
    exact ⟨ret_int (by omega), b1⟩)

set_option maxHeartbeats 2000000 in
set_option maxRecDepth 100000 in
theorem ifLong_any (v : Value) (e0 : List Token) (S : Nat → Prop) (At : Option Addr) (nt ct T : Nat) (Al : Option Addr) (nl cl L : Nat) (w : World) (h : InsAt w S v e0) (hl : e0.length + 1 + T + 1 + L ≤ 1000000)
    (HT : Hid (∀ W, Below w.heap.size w W → Calls Tryz.prog 87 #[.slice At nt ct] W fun e w' => e = .returned (.int .i64 T) ∧ Below W.heap.size W w'))
    (HE : Hid (∀ W, Below w.heap.size w W → Calls Tryz.prog 87 #[.slice Al nl cl] W fun e w' => e = .returned (.int .i64 L) ∧ Below W.heap.size W w')) :
    Calls Tryz.prog 130 #[.agg #[v, .slice At nt ct, .slice Al nl cl]] w fun e w' => e = .returned (.int .i64 ((e0.length + 1 + T + 1 + L : Nat) : Int)) ∧ Below w.heap.size w w' := by
  obtain ⟨A, cap, rfl, _⟩ := h.1.reads
  clear h
  generalize e0.length = E at hl ⊢
  have hb0 : Below w.heap.size w (w.alloc (.cells #[.slice A E cap, .slice At nt ct, .slice Al nl cl] 132)) := (Below.refl _ _).alloc (Nat.le_refl _) _
  have hk0 := Keep.new w #[.slice A E cap, .slice At nt ct, .slice Al nl cl] 132
  have hw1 : IntKind.i64.wrap ((E : Int) + 1) = (E : Int) + 1 := IntWalk.i64_in _ ⟨by omega, by omega⟩
  have hw2 : IntKind.i64.wrap ((E : Int) + 1 + (T : Int)) = (E : Int) + 1 + (T : Int) := IntWalk.i64_in _ ⟨by omega, by omega⟩
  have hw3 : IntKind.i64.wrap ((E : Int) + 1 + (T : Int) + 1) = (E : Int) + 1 + (T : Int) + 1 := IntWalk.i64_in _ ⟨by omega, by omega⟩
  have hw4 : IntKind.i64.wrap ((E : Int) + 1 + (T : Int) + 1 + (L : Int)) = (E : Int) + 1 + (T : Int) + 1 + (L : Int) := IntWalk.i64_in _ ⟨by omega, by omega⟩
  go_enter Tryz.func130, Tryz.ntmps130
  go_wp2
  go_region_law (first
    | (go_simp; go_at_call 87; refine (HE.out _ b1).mono ?_; rintro e w2 ⟨rfl, hb2⟩; have b2 : Below w.heap.size w w2 := b1.trans (hb2.mono b1.size); have k2 := Keep.below k1 hb2; have z0 := k2.cell 0; have z1 := k2.cell 1; have z2 := k2.cell 2; simp at z0 z1 z2)
    | (go_simp; go_at_call 87; refine (HT.out _ hb0.drew).mono ?_; rintro e w1 ⟨rfl, hb1⟩; have b1 : Below w.heap.size w w1 := hb0.drew.trans (hb1.mono hb0.size); have k1 := Keep.below (w := (w.alloc (.cells #[.slice A E cap, .slice At nt ct, .slice Al nl cl] 132)).drew) hk0 hb1; have y0 := k1.cell 0; have y1 := k1.cell 1; have y2 := k1.cell 2; simp at y0 y1 y2))
  all_goals (
    go_wp2
    go_ret
    exact ⟨ret_int (by omega), b2⟩)

end Go.Proofs.YtpmpjiigmjnniaaGreat

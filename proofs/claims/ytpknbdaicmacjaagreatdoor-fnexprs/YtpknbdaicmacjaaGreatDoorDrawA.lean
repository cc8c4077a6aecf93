/-
  Contracts of the reference's drawn expressions.
-/
import Derived.Test.YtpknbdaicmacjaaGreatDoorDrawX
namespace Go.Proofs.YtpknbdaicmacjaaGreatDoor
open Go.RowKit Exs

/-- A slice that reads as these tokens, also behind a cursor that goes on. -/
def Stay (w : World) (g : Nat) (A : Option Addr) (m : Nat) (ts : List Token) : Prop := ∀ w'', w.grownBy w'' (some g) → ReadsT w'' w''.heap.size A m ts

/-- What the cursor gives: a slice that reads as some tokens. -/
def GivesR (M : Nat) (g : Nat) (A : Option Addr) (n c T : Nat) (w : World) (e : Ending) (w' : World) : Prop :=
  ∃ (A' : Option Addr) (m c' : Nat) (ts : List Token), e = .returned (.slice A' m c') ∧ Stay w' g A' m ts ∧ m ≤ M ∧ Cur w' g A n c T ∧ w.grownBy w' (some g)

theorem flat_tail (t : Token) (r : List Token) : flat (t :: r) = t.1 :: t.2 :: flat r := rfl

/-- A slice of tokens without its first. -/
theorem Toks.tail {w : World} {B : Nat} {v : Value} {ts : List Token} (h : Toks w B v ts) (h1 : 1 ≤ ts.length) :
    ∃ b cap, v = .slice (some ⟨b, 0, none⟩) ts.length cap ∧ ts.length ≤ cap ∧ b < w.heap.size ∧ ReadsT w w.heap.size (some ⟨b, 2, none⟩) (ts.length - 1) ts.tail := by
  have h' := h
  rcases h.2 with ⟨_, h0⟩ | ⟨b, cap, cur, rfl, hB, hg, hc, hm, _⟩
  · omega
  have hlt := (Array.getElem?_eq_some_iff.1 hg).1
  refine ⟨b, cap, rfl, hc, hlt, by simp, by rw [flat_length]; simp, fun hn => ⟨b, 2, rfl, hlt, fun j x hx => ?_⟩⟩
  match ts, h1 with
  | t :: r, _ =>
    have hj : j < (flat r).length := (List.getElem?_eq_some_iff.1 hx).1
    rw [flat_length] at hj
    rw [World.ownsRow.cellAt h' (2 + j) (by simp; omega), flat_tail, show 2 + j = j + 2 by omega]
    simpa using hx

theorem Toks.stay {w : World} {B g : Nat} {v : Value} {ts : List Token} (h : Toks w B v ts) (hg : g < B) : ∃ A c, v = .slice A ts.length c ∧ Stay w g A ts.length ts := by
  obtain ⟨A, c, rfl, hr⟩ := h.reads
  refine ⟨A, c, rfl, fun w'' hw => ?_⟩
  obtain ⟨A', c', e, hr'⟩ := (h.grown hw hg).reads
  injection e with e1 _ _
  subst e1
  exact hr'
theorem Toks.tailStay {w : World} {B g : Nat} {v : Value} {ts : List Token} (h : Toks w B v ts) (h1 : 1 ≤ ts.length) (hg : g < B) :
    ∃ b cap, v = .slice (some ⟨b, 0, none⟩) ts.length cap ∧ ts.length ≤ cap ∧ Stay w g (some ⟨b, 2, none⟩) (ts.length - 1) ts.tail := by
  obtain ⟨b, cap, rfl, hcap, hlt, hr⟩ := h.tail h1
  refine ⟨b, cap, rfl, hcap, fun w'' hw => ?_⟩
  obtain ⟨b', cap', e, _, _, hr'⟩ := (h.grown hw hg).tail h1
  injection e with e1 _ _
  injection e1 with e1
  injection e1 with e1 _ _
  subst e1
  exact hr'

theorem flat_set (t : Token) (r : List Token) (y : Int) : ((flat (t :: r)).map (Value.int .i64)).set 1 (.int .i64 y) = (flat ((t.1, y) :: r)).map (Value.int .i64) := rfl
theorem flat_set0 (t : Token) (r : List Token) (y : Int) : ((flat (t :: r)).map (Value.int .i64)).set 0 (.int .i64 y) = (flat ((y, t.2) :: r)).map (Value.int .i64) := rfl

/-- A first token that is written into. -/
theorem Toks.put1 {w : World} {B : Nat} {v : Value} {ts : List Token} (h : Toks w B v ts) (h1 : 1 ≤ ts.length) :
    ∃ b cap, v = .slice (some ⟨b, 0, none⟩) ts.length cap ∧ B ≤ b ∧ (∃ u, w.cell? ⟨b, 0, none⟩ = some u) ∧ (∃ u, w.cell? ⟨b, 1, none⟩ = some u) ∧ w.frozen? ⟨b, 0, none⟩ = false ∧ w.frozen? ⟨b, 1, none⟩ = false ∧
      (∀ y : Int, ∃ us : List Token, us.length = ts.length ∧ Toks (w.setCell ⟨b, 1, none⟩ (.int .i64 y)) B v us ∧ Below B w (w.setCell ⟨b, 1, none⟩ (.int .i64 y))) ∧
      (∀ y : Int, ∃ us : List Token, us.length = ts.length ∧ Toks (w.setCell ⟨b, 0, none⟩ (.int .i64 y)) B v us ∧ Below B w (w.setCell ⟨b, 0, none⟩ (.int .i64 y))) := by
  have h' := h
  rcases h.2 with ⟨_, h0⟩ | ⟨b, cap, cur, rfl, hB, hg, hc, hm, _⟩
  · omega
  have hlt := (Array.getElem?_eq_some_iff.1 hg).1
  match ts, h1 with
  | t :: r, _ =>
    refine ⟨b, cap, rfl, hB, ⟨_, World.ownsRow.cellAt h' 0 (by simp)⟩, ⟨_, World.ownsRow.cellAt h' 1 (by simp; omega)⟩, World.ownsRow.frozenAt h' 0, World.ownsRow.frozenAt h' 1, fun y => ?_, fun y => ?_⟩
    · have q := World.ownsRow.stored h' 1 (.int .i64 y)
      rw [flat_set] at q
      exact ⟨(t.1, y) :: r, rfl, q.1, (Below.refl _ _).setCell hB _⟩
    · have q := World.ownsRow.stored h' 0 (.int .i64 y)
      rw [flat_set0] at q
      exact ⟨(y, t.2) :: r, rfl, q.1, (Below.refl _ _).setCell hB _⟩

set_option maxHeartbeats 2000000 in
set_option maxRecDepth 100000 in
theorem anyExpr_any (g : Nat) (A : Option Addr) (n c T : Nat) (w : World) (hc : Cur w g A n c T) (hT : T ≤ 10000) :
    Calls Tryz.prog 21 #[.pointer (some ⟨g, 0, none⟩)] w (GivesR 80 g A n c (T + 1000) w) := by
  have KL := put hc.lt
  go_enter Tryz.func21, Tryz.ntmps21
  go_wp2_with fail
  refine (pick_any g A n c T 4 _ hc (by omega) (by omega) (by omega)).mono ?_
  rintro e w1 ⟨x, hx0, hx1, rfl, hc1, hg1⟩
  obtain ⟨d, rfl⟩ := Int.eq_ofNat_of_zero_le hx0
  have HF := put (far_le (d := d) (by omega))
  have HM := put (most_le (d := d) (by omega))
  have hne : w1.heap.size ≠ g := by have := hc1.lt; omega
  go_wp2_with fail
  refine (one_any g A n c _ 2 _ (hc1.alloc _) (by omega) (by omega) (by omega)).mono ?_
  rintro e w2 ⟨b, rfl, hc2, hg2⟩
  have hg2' := grownBy_trans (grownBy_alloc' hg1 _) hg2
  have hp : Room w2 w1.heap.size 3 3 .i64 [1, 0, 2] := (Room.lit (by rfl) (by rfl)).grown hg2 hne
  clear hg1 hc1 hg2 hc
  go_wp2_with fail
  refine (expr_any d _ g A n c _ b w1.heap.size _ rfl (by omega) hc2 (by omega) hp hne).mono ?_
  rintro e w3 ⟨v3, ts, rfl, ht3, hl3, hm3, hc3, hg3⟩
  have hg3' := grownBy_trans hg2' hg3
  have ht3' := ht3.base hg2'.size
  have HL := put (show ts.length ≤ 40 by have := HM.out; omega)
  clear hg3 hp hc2 ht3 hg2' hm3
  go_wp2_with fail
  refine (pick_any g A n c _ 20 _ hc3 (by have := HF.out; omega) (by omega) (by omega)).mono ?_
  rintro e w4 ⟨y, hy0, hy1, rfl, hc4, hg4⟩
  have hg4' := grownBy_trans hg3' hg4
  have ht4 := ht3'.grown hg4 KL.out
  have HC := put (hc4.more (T' := T + 900) (by have := HF.out; omega))
  clear hc3 hg3' ht3' hg4 hc4
  have hcase : y = 0 ∨ y = 1 ∨ y = 2 ∨ y = 3 ∨ (y ≠ 0 ∧ y ≠ 1 ∧ y ≠ 2 ∧ y ≠ 3) := by omega
  rcases hcase with rfl | rfl | rfl | rfl | ⟨h0, h1, h2, h3⟩
  · obtain ⟨bb, cap, rfl, hcap, hr⟩ := ht4.tailStay hl3 KL.out
    go_wp2
    · go_ret
      exact ⟨_, _, _, ts.tail, rfl, (fun _ _ => ⟨by simp, by rw [flat_length]; simp, fun hn => absurd hn (by omega)⟩), by have := HL.out; omega, HC.out.more (by omega), hg4'⟩
    · go_ret
      exact ⟨_, _, _, ts.tail, rfl, hr, by have := HL.out; omega, HC.out.more (by omega), hg4'⟩
  · have hs4 := hg4'.size
    go_wp2_with fail
    refine (among_any g A n c _ _ (HC.out.alloc _) (by omega) w4.heap.size 5 [-1, 3, 99, 100, 2147483648] (-1) 2147483648 (by refine Room.lit ?_ ?_ <;> rfl) rfl HC.out.lt (by decide) (by decide) (by show ∀ x ∈ _, _; decide)).mono ?_
    rintro e w5 ⟨z, hz0, hz1, rfl, hc5, hg5⟩
    have hg5' := grownBy_trans (grownBy_alloc' hg4' _) hg5
    have ht5 := (ht4.alloc _).grown hg5 KL.out
    obtain ⟨bb, cap, rfl, hB, ⟨u0, hu0⟩, ⟨u1, hu1⟩, hf0, hf1, hput, _⟩ := ht5.put1 hl3
    obtain ⟨us, hus, ht6, hb6⟩ := hput z
    clear hput
    go_wp2
    go_ret
    obtain ⟨A', c', e', hr⟩ := ht6.stay KL.out
    rw [hus] at e'
    injection e' with e1 e2 e3
    subst e1 e3
    refine ⟨_, _, _, us, rfl, by rw [hus] at hr; exact hr, by have := HL.out; omega, ?_, ?_⟩
    · exact (hc5.below hb6 KL.out).more (by omega)
    · exact grownBy_below hg5' hb6
  · go_wp2_with fail
    refine (pick_any g A n c _ 13 _ HC.out (by omega) (by omega) (by omega)).mono ?_
    rintro e w5 ⟨z, hz0, hz1, rfl, hc5, hg5⟩
    have hg5' := grownBy_trans hg4' hg5
    have ht5 := ht4.grown hg5 KL.out
    obtain ⟨bb, cap, rfl, hB, ⟨u0, hu0⟩, ⟨u1, hu1⟩, hf0, hf1, _, hput⟩ := ht5.put1 hl3
    obtain ⟨us, hus, ht6, hb6⟩ := hput z
    clear hput
    go_wp2
    go_ret
    obtain ⟨A', c', e', hr⟩ := ht6.stay KL.out
    rw [hus] at e'
    injection e' with e1 e2 e3
    subst e1 e3
    refine ⟨_, _, _, us, rfl, by rw [hus] at hr; exact hr, by have := HL.out; omega, ?_, ?_⟩
    · exact (hc5.below hb6 KL.out).more (by omega)
    · exact grownBy_below hg5' hb6
  · have hs4 := hg4'.size
    have HL2 := put (show ts.length ≤ 1000 by have := HL.out; omega)
    go_wp2_with (at_builtin; refine wpList_append_toks rfl _ _ rfl w.heap.size _ ts rfl hs4 ht4 w.heap.size _ ts rfl ht4 hl3 HL2.out HL2.out ?_)
    intro v5 w5 ht5 hb5
    obtain ⟨A', c', rfl, hr⟩ := ht5.stay KL.out
    go_wp2
    go_ret
    exact ⟨_, _, _, _, rfl, hr, by have := HL.out; simp; omega, (HC.out.below hb5 KL.out).more (by omega), grownBy_below hg4' hb5⟩
  · obtain ⟨A', c', rfl, hr⟩ := ht4.stay KL.out
    go_wp2
    go_ret
    exact ⟨_, _, _, ts, rfl, hr, by have := HL.out; omega, HC.out.more (by omega), hg4'⟩

end Go.Proofs.YtpknbdaicmacjaaGreatDoor

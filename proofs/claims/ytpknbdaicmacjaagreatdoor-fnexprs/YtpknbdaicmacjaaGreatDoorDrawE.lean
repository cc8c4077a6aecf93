/-
  Contracts of the reference's cursor where it draws expressions: whatever it gives, it gives some tokens in a row of its own.
-/
import Derived.Test.YtpknbdaicmacjaaGreatDoorDraw
import Derived.Test.YtpknbdaicmacjaaGreatDoorTokRow
namespace Go.Proofs.YtpknbdaicmacjaaGreatDoor
open Go.RowKit Exs

theorem flat_append (ts us : List Token) : flat (ts ++ us) = flat ts ++ flat us := by simp [flat]

/-- What the cursor gives: some tokens. -/
def GivesT (M : Nat) (g : Nat) (A : Option Addr) (n c T : Nat) (w : World) (e : Ending) (w' : World) : Prop :=
  ∃ (v : Value) (ts : List Token), e = .returned v ∧ Toks w' w.heap.size v ts ∧ 1 ≤ ts.length ∧ ts.length ≤ M ∧ Cur w' g A n c T ∧ w.grownBy w' (some g)

theorem Toks.grown {w w' : World} {B g : Nat} {v : Value} {ts : List Token} (h : Toks w B v ts) (hg : w.grownBy w' (some g)) (hgB : g < B) : Toks w' B v ts :=
  World.ownsRow.kept h hg (by
    rcases hv : v.ownBlock with _ | b
    · exact .inl rfl
    · right
      intro he
      injection he with he
      have := (World.ownsRow.lt h b hv).1
      omega)
theorem Toks.base {w : World} {B B' : Nat} {v : Value} {ts : List Token} (h : Toks w B v ts) (hB : B' ≤ B) : Toks w B' v ts := by
  refine ⟨h.1, ?_⟩
  rcases h.2 with h0 | ⟨g, cap, cur, hv, hb, r⟩
  · exact .inl h0
  · exact .inr ⟨g, cap, cur, hv, by omega, r⟩
/-- A slice of one token, as it is written down. -/
theorem Toks.lit (w : World) (B : Nat) (hB : B ≤ w.heap.size) (op x : Int) : Toks (w.alloc (.cells #[.int .i64 op, .int .i64 x] 40)) B (.slice (some ⟨w.heap.size, 0, none⟩) 1 1) [(op, x)] :=
  World.ownsRow_lit w #[.int .i64 op, .int .i64 x] 1 hB (by unfold maxLen; omega) rfl

theorem grownBy_below {a w w' : World} {g : Nat} (h : a.grownBy w (some g)) (hb : Below a.heap.size w w') : a.grownBy w' (some g) :=
  ⟨hb.os.trans h.os, hb.tape.trans h.tape, hb.output.trans h.output, Nat.le_trans h.size hb.size, fun i hi hne => (hb.block i hi).trans (h.block i hi hne)⟩
theorem Room.grown {w w' : World} {p : Nat} {t : TypeId} {n g : Nat} {k : IntKind} {xs : List Int} (h : Room w p t n k xs) (hg : w.grownBy w' (some g)) (hne : p ≠ g) : Room w' p t n k xs := by
  have hlt := h.lt
  obtain ⟨cs, h1, h2, h3⟩ := h
  exact ⟨cs, (hg.block p hlt (fun e => hne (by injection e))).trans h1, h2, h3⟩

/-- 'append(out, more...)': rows of tokens. -/
theorem wpList_append_toks {w : World} {ops : Array Oper} {rest : List Oper} {o : Oper} {a : Act} {Q : Exit → Act → World → Prop} (hgd : o.guard = none) (s x : Operand)
    (ho : o.op = .call { callee := .builtin .append, args := #[s, x], argTypes := #[24, 24] }) (B : Nat) (v : Value) (ts : List Token) (hs : a.eval s = v) (hB : B ≤ w.heap.size) (hown : Toks w B v ts)
    (B' : Nat) (u : Value) (us : List Token) (hx : a.eval x = u) (hu : Toks w B' u us) (hu1 : 1 ≤ us.length) (hl : ts.length ≤ 1000) (hl' : us.length ≤ 1000)
    (h : ∀ v' w', Toks w' B v' (ts ++ us) → Below B w w' → wpList Tryz.prog ops Q rest (a.put o.dst v') w') : wpList Tryz.prog ops Q (o :: rest) a w := by
  obtain ⟨i0, hi, hz0, hz1, hz2⟩ := info_parts Tryz.info40
  rcases hu.2 with ⟨_, h0⟩ | ⟨g, cap, cur, rfl, _, hg, hc, hm, _⟩
  · omega
  refine wpList_append_own w hgd s x 24 ho B 40 i0 (.agg #[.int .i64 0, .int .i64 0]) 2 16 Tryz.underlying24 hi hz0 hz1 hz2 rfl (by decide) v ts.length _ hs hown ⟨g, 0, none⟩ us.length cap ((flat us).map (Value.int .i64)) hx hu.1 ?_ ?_ ?_ ?_ hB ?_
  · intro j y hj
    exact World.ownsRow.cells (g := g) hu rfl j y hj
  · intro y hy
    obtain ⟨z, _, rfl⟩ := List.mem_map.1 hy
    rfl
  · unfold maxLen; omega
  · omega
  · intro v' w' h1 h2 _
    refine h v' w' ?_ ((Below.refl B w).grown h2 hB fun j hj => (World.ownsRow.lt hown j hj).1)
    unfold Toks
    rw [flat_append, List.map_append, List.length_append]
    exact h1

set_option maxHeartbeats 400000 in
set_option maxRecDepth 100000 in
theorem num_any (g : Nat) (A : Option Addr) (n c T : Nat) (w : World) (hc : Cur w g A n c T) (hT : T ≤ 900000) :
    Calls Tryz.prog 55 #[.pointer (some ⟨g, 0, none⟩)] w (Gives .i64 (-9223372036854775808) 9223372036854775807 g A n c (T + 2) w) := by
  go_enter Tryz.func55, Tryz.ntmps55
  go_wp2_with fail
  refine (among_any g A n c T _ (hc.alloc _) hT w.heap.size 12 [0, 1, 2, 3, -1, 5, 7, 10, 2147483647, -2147483648, 0, 1] (-9223372036854775808) 9223372036854775807 (by refine Room.lit ?_ ?_ <;> rfl) rfl hc.lt (by decide) (by decide) (by show ∀ x ∈ _, _; decide)).mono ?_
  rintro e w1 ⟨x, hx0, hx1, rfl, hc1, hg1⟩
  go_wp2
  go_ret
  exact ⟨x, hx0, hx1, rfl, hc1, grownBy_trans (World.grownBy_alloc _ _ _) hg1⟩

/-- What a leaf leaves, given what was before it. -/
theorem leaf_given {w w1 : World} {g : Nat} {A : Option Addr} {n c T T' M : Nat} (hc : Cur w1 g A n c T') (hg : w.grownBy w1 (some g)) (hT : T' ≤ T) (hM : 1 ≤ M) (op x : Int) :
    GivesT M g A n c T w (.returned (.slice (some ⟨w1.heap.size, 0, none⟩) 1 1)) (w1.alloc (.cells #[.int .i64 op, .int .i64 x] 40)) :=
  ⟨_, [(op, x)], rfl, Toks.lit w1 _ hg.size op x, by simp, by simpa using hM, (hc.more hT).alloc _, grownBy_alloc' hg _⟩

/-- How far the cursor moves at most. -/
def far : Nat → Nat
  | 0 => 10
  | d + 1 => 2 * far d + 50
/-- How many tokens at most. -/
def most : Nat → Nat
  | 0 => 1
  | d + 1 => 2 * most d + 3

set_option maxHeartbeats 2000000 in
set_option maxRecDepth 100000 in
theorem exprLeaf_any (g : Nat) (A : Option Addr) (n c T : Nat) (b : Bool) (p : Nat) (w : World) (hc : Cur w g A n c T) (hT : T ≤ 100000) :
    Calls Tryz.prog 42 #[.pointer (some ⟨g, 0, none⟩), .int .i64 0, .int .i64 3, .slice (some ⟨p, 0, none⟩) 3 3, .bool b] w (GivesT 1 g A n c (T + 10) w) := by
  have hgr0 := World.grownBy.refl w (some g)
  go_enter Tryz.func42, Tryz.ntmps42
  go_wp2_with fail
  refine (pick_any g A n c T 6 _ hc (by omega) (by omega) (by omega)).mono ?_
  rintro e w1 ⟨x, hx0, hx1, rfl, hc1, hg1⟩
  have hcase : x = 0 ∨ x = 1 ∨ x = 2 ∨ (x ≠ 0 ∧ x ≠ 1 ∧ x ≠ 2) := by omega
  rcases hcase with rfl | rfl | rfl | ⟨h0, h1, h2⟩
  · go_wp2_with fail
    refine (pick_any g A n c _ 3 _ hc1 (by omega) (by omega) (by omega)).mono ?_
    rintro e w2 ⟨y, hy0, hy1, rfl, hc2, hg2⟩
    go_wp2
    go_ret
    exact leaf_given hc2 (grownBy_trans hg1 hg2) (by omega) (by omega) 2 y
  · go_wp2_with fail
    refine (pick_any g A n c _ 3 _ hc1 (by omega) (by omega) (by omega)).mono ?_
    rintro e w2 ⟨y, hy0, hy1, rfl, hc2, hg2⟩
    go_wp2
    go_ret
    exact leaf_given hc2 (grownBy_trans hg1 hg2) (by omega) (by omega) 2 y
  · cases b with
    | false =>
      go_wp2_with fail
      refine (among_any g A n c _ _ (hc1.alloc _) (by omega) w1.heap.size 2 [9, 10] 9 10 (by refine Room.lit ?_ ?_ <;> rfl) rfl hc1.lt (by decide) (by decide) (by show ∀ x ∈ _, _; decide)).mono ?_
      rintro e w2 ⟨y, hy0, hy1, rfl, hc2, hg2⟩
      go_wp2
      go_ret
      exact leaf_given hc2 (grownBy_trans (grownBy_alloc' hg1 _) hg2) (by omega) (by omega) y 0
    | true =>
      go_wp2_with fail
      refine (num_any g A n c _ _ hc1 (by omega)).mono ?_
      rintro e w2 ⟨y, hy0, hy1, rfl, hc2, hg2⟩
      go_wp2
      go_ret
      exact leaf_given hc2 (grownBy_trans hg1 hg2) (by omega) (by omega) 1 y
  · go_wp2_with fail
    refine (num_any g A n c _ _ hc1 (by omega)).mono ?_
    rintro e w2 ⟨y, hy0, hy1, rfl, hc2, hg2⟩
    go_wp2
    go_ret
    exact leaf_given hc2 (grownBy_trans hg1 hg2) (by omega) (by omega) 1 y

end Go.Proofs.YtpknbdaicmacjaaGreatDoor

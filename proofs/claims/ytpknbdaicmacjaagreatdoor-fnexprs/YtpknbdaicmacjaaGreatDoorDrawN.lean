/-
  Contract of the reference's drawn token and params.
-/
import Derived.Test.YtpknbdaicmacjaaGreatDoorDrawB
import Derived.Test.YtpknbdaicmacjaaGreatDoorSRWord
import Derived.Deep.RegionWith
namespace Go.Proofs.YtpknbdaicmacjaaGreatDoor
open Go.RowKit Exs

/-- A drawn token and params. -/
def DrawnN (w : World) (e : Ending) (w' : World) : Prop :=
  ∃ (op x : Int) (p m : Nat) (ps : List Int), e = .returned (.tuple #[.agg #[.int .i64 op, .int .i64 x], .slice (some ⟨p, 0, none⟩) m 3]) ∧ Reads w' w'.heap.size .i64 (some ⟨p, 0, none⟩) m ps ∧ m ≤ 3 ∧ Below w.heap.size w w'

theorem Room.lit' {w : World} {t : TypeId} {k : IntKind} {cs : Array Value} {xs : List Int} {n b : Nat} (h : cs.toList = xs.map (Value.int k)) (hn : cs.size = n) (hb : b = w.heap.size) : Room (w.alloc (.cells cs t)) b t n k xs := by
  subst hb; exact Room.lit h hn
theorem Room.alloc' {w : World} {p : Nat} {t : TypeId} {n : Nat} {k : IntKind} {xs : List Int} (h : Room w p t n k xs) (o : Obj) : Room (w.alloc o) p t n k xs :=
  h.below ((Below.refl w.heap.size w).alloc (Nat.le_refl _) o) h.lt
theorem below_of_grownBy {w w' : World} {g : Nat} (h : w.grownBy w' (some g)) (hg : g ≤ w.heap.size) : Below g w w' :=
  ⟨h.os, h.tape, h.output, h.size, fun k hk => h.block k (by omega) (fun e => by injection e with e; omega)⟩

theorem Room.set {w : World} {p r : Nat} {t : TypeId} {n : Nat} {k : IntKind} {xs : List Int} (h : Room w p t n k xs) (o : Nat) (v : Value) (hp : p ≠ r) : Room (w.setCell ⟨r, o, none⟩ v) p t n k xs := by
  obtain ⟨cs, h1, h2, h3⟩ := h
  exact ⟨cs, (Below.heap_setCell w ⟨r, o, none⟩ v p hp).trans h1, h2, h3⟩
theorem Room.readsN {w : World} {p k : Nat} {xs : List Int} (h : Room w p 3 3 .i64 xs) (hx : xs.length = 3) (hk : k ≤ 3) : Reads w w.heap.size .i64 (some ⟨p, 0, none⟩) k (xs.take k) := by
  refine ⟨by simp; omega, fun _ => ⟨p, 0, rfl, h.lt, fun j x hj => ?_⟩⟩
  have hjk : j < k := by have := (List.getElem?_eq_some_iff.1 hj).1; simp at this; omega
  have := h.cell j (by omega)
  rw [Nat.zero_add, this]
  rw [List.getElem?_take, if_pos hjk] at hj
  rw [List.getD_eq_getElem?_getD, hj]
  rfl
theorem Below.grownG {B g : Nat} {a W w' : World} (h : Below B a W) (hg : W.grownBy w' (some g)) (hB : B ≤ g) (hg2 : g < W.heap.size) : Below B a w' :=
  h.trans ⟨hg.os, hg.tape, hg.output, hg.size, fun k hk => hg.block k (by omega) (fun e => by injection e with e; omega)⟩

theorem Cur.drew {w : World} {g : Nat} {A : Option Addr} {n c T : Nat} (h : Cur w g A n c T) : Cur w.drew g A n c T := h
theorem Room.drew {w : World} {p : Nat} {t : TypeId} {n : Nat} {k : IntKind} {xs : List Int} (h : Room w p t n k xs) : Room w.drew p t n k xs := h

theorem Below.set2 {B r : Nat} {a W : World} (h : Below B a W) (hr : B ≤ r) (x y : Value) : Below B a ((W.setCell ⟨r, 0, none⟩ x).setCell ⟨r, 1, none⟩ y) := (Go.RowKit.Below.setCell (h.setCell hr x) hr y)

/-- The block of the token that is handed back, as it was made. -/
def Own (W : World) (r : Nat) : Prop := W.heap[r]? = some (.cells #[.int .i64 0, .int .i64 0] 40 (0, 0))
theorem Own.alloc {W : World} {r : Nat} (h : Own W r) (o : Obj) : Own (W.alloc o) r := (Below.heap_alloc W o r (Array.getElem?_eq_some_iff.1 h).1).trans h
theorem Own.drew {W : World} {r : Nat} (h : Own W r) : Own W.drew r := h
theorem Own.cell0 {W : World} {r : Nat} (h : Own W r) : W.cell? ⟨r, 0, none⟩ = some (.int .i64 0) := by rw [cell_of_row W r 0 _ 40 (0, 0) h]; rfl
theorem Own.cell1 {W : World} {r : Nat} (h : Own W r) : W.cell? ⟨r, 1, none⟩ = some (.int .i64 0) := by rw [cell_of_row W r 1 _ 40 (0, 0) h]; rfl
theorem Own.frozen {W : World} {r : Nat} (h : Own W r) (j : Nat) : W.frozen? ⟨r, j, none⟩ = false := by unfold Own at h; simp [World.frozen?, h]
theorem own_set {W : World} {r : Nat} (h : Own W r) (a b : Value) : ((W.setCell ⟨r, 0, none⟩ a).setCell ⟨r, 1, none⟩ b).cell? ⟨r, 0, none⟩ = some a ∧ ((W.setCell ⟨r, 0, none⟩ a).setCell ⟨r, 1, none⟩ b).cell? ⟨r, 1, none⟩ = some b := by
  have q := two_set (w1 := W) (g := r) h.cell0 h.cell1 a b
  refine ⟨?_, q.2⟩
  rw [World.cell?_setCell_other _ _ _ _ (by simp)]
  exact q.1
theorem own_set_alloc {W : World} {r : Nat} (h : Own W r) (a b : Value) (o : Obj) : (((W.setCell ⟨r, 0, none⟩ a).setCell ⟨r, 1, none⟩ b).alloc o).cell? ⟨r, 0, none⟩ = some a ∧ (((W.setCell ⟨r, 0, none⟩ a).setCell ⟨r, 1, none⟩ b).alloc o).cell? ⟨r, 1, none⟩ = some b := by
  have q := own_set h a b
  have e := fun j => World.cell?_of_block (a := ⟨r, j, none⟩) (Below.heap_alloc ((W.setCell ⟨r, 0, none⟩ a).setCell ⟨r, 1, none⟩ b) o r (World.block_lt_of_cell? _ _ q.1))
  exact ⟨(e 0).trans q.1, (e 1).trans q.2⟩

/-- What a call of the region gives. -/
def Told (hi : Int) (T r : Nat) (A : Option Addr) (n c : Nat) (W : World) (e : Ending) (w' : World) : Prop :=
  ∃ x : Int, 0 ≤ x ∧ x ≤ hi ∧ e = .returned (.int .i64 x) ∧ Cur w' (r + 1) A n c T ∧ W.grownBy w' (some (r + 1)) ∧ r + 1 < w'.heap.size ∧ Own w' r
theorem told_of {hi : Int} {T r : Nat} {A : Option Addr} {n c : Nat} {W w' : World} {e : Ending} (hl : r + 1 < W.heap.size) (hO : Own W r) (h : Gives .i64 0 hi (r + 1) A n c T W e w') : Told hi T r A n c W e w' := by
  obtain ⟨x, h0, h1, h2, h3, h4⟩ := h
  exact ⟨x, h0, h1, h2, h3, h4, h3.lt, (h4.block r (by omega) (by simp)).trans hO⟩
/-- What the calls of the region ask, in whatever world. -/
theorem pick_first {W : World} {r : Nat} {A : Option Addr} {n c : Nat} (hc : Cur W (r + 1) A n c 0) (hO : Own W r) :
    Calls Tryz.prog 36 #[.pointer (some ⟨r + 1, 0, none⟩), .int .i64 13] W (Told 12 2 r A n c W) := (pick_any (r + 1) A n c 0 13 W hc (by decide) (by decide) (by decide)).mono fun _ _ h => told_of hc.lt hO h
theorem pick_last {W : World} {r : Nat} {A : Option Addr} {n c : Nat} (hc : Cur W (r + 1) A n c 4) (hO : Own W r) :
    Calls Tryz.prog 36 #[.pointer (some ⟨r + 1, 0, none⟩), .int .i64 4] W (Told 3 6 r A n c W) := (pick_any (r + 1) A n c 4 4 W hc (by decide) (by decide) (by decide)).mono fun _ _ h => told_of hc.lt hO h
theorem among_mid {W : World} {r : Nat} {A : Option Addr} {n c b : Nat} (hc : Cur W (r + 1) A n c 2) (hO : Own W r) (hr : Room W b 3 7 .i64 [0, 0, 0, 1, 2, 3, 6]) (hb : r + 1 < b) :
    Calls Tryz.prog 35 #[.pointer (some ⟨r + 1, 0, none⟩), .slice (some ⟨b, 0, none⟩) 7 7] W (Told 6 4 r A n c W) :=
  (among_any (r + 1) A n c 2 W hc (by decide) b 7 [0, 0, 0, 1, 2, 3, 6] 0 6 hr rfl hb (by decide) (by decide) (by show ∀ x ∈ _, _; decide)).mono fun _ _ h => told_of hc.lt hO h

set_option maxHeartbeats 2000000 in
set_option maxRecDepth 100000 in
theorem drawNeedsOf_any (A : Option Addr) (n c : Nat) (bs : List Int) (w : World) (hr : Reads w w.heap.size .u8 A n bs) (hbs : Hid (∀ x ∈ bs, 0 ≤ x ∧ x ≤ 255)) (hn : n ≤ 1048576) :
    Calls Tryz.prog 16 #[.slice A n c] w (DrawnN w) := by
  have hr1 : Reads (w.alloc (Obj.cells #[Value.int IntKind.i64 0, Value.int IntKind.i64 0] 40)) (w.alloc (Obj.cells #[Value.int IntKind.i64 0, Value.int IntKind.i64 0] 40)).heap.size .u8 A n bs := (hr.below ((Below.refl _ _).alloc (Nat.le_refl _) _)).more (by simp)
  have hc0 : Cur ((w.alloc (Obj.cells #[Value.int IntKind.i64 0, Value.int IntKind.i64 0] 40)).alloc (Obj.cells #[Value.slice A n c, Value.int IntKind.i64 0, Value.int IntKind.u64 0] 48)) (w.heap.size + 1) A n c 0 := by
    have := Cur.new (c := c) hr1 hbs hn 0
    rwa [show (w.alloc (Obj.cells #[Value.int IntKind.i64 0, Value.int IntKind.i64 0] 40)).heap.size = w.heap.size + 1 by simp] at this
  have ho0 : Own ((w.alloc (Obj.cells #[Value.int IntKind.i64 0, Value.int IntKind.i64 0] 40)).alloc (Obj.cells #[Value.slice A n c, Value.int IntKind.i64 0, Value.int IntKind.u64 0] 48)) w.heap.size :=
    Own.alloc (show Own (w.alloc (Obj.cells #[Value.int IntKind.i64 0, Value.int IntKind.i64 0] 40)) w.heap.size from heap_alloc_new _ _) _
  clear hr1 hr
  go_enter Tryz.func16, Tryz.ntmps16
  go_wp2
  go_region_with (first
    | (go_at_call 36; (with_reducible refine (pick_first (A := A) (n := n) (c := c) ?hc ?hO).mono ?_); (case hc => (repeat (first | (with_reducible assumption) | (with_reducible refine Cur.drew ?_) | (with_reducible refine Cur.alloc ?_ _)))); (case hO => (repeat (first | (with_reducible assumption) | (with_reducible refine Own.drew ?_) | (with_reducible refine Own.alloc ?_ _)))); rintro e w1 ⟨x1, hx0, hx1, rfl, hc1, hg1, hs1, ho1⟩)
    | (go_at_call 35; (with_reducible refine (among_mid (A := A) (n := n) (c := c) ?hc ?hO ?hr ?hb).mono ?_); (case hc => (repeat (first | (with_reducible assumption) | (with_reducible refine Cur.drew ?_) | (with_reducible refine Cur.alloc ?_ _)))); (case hO => (repeat (first | (with_reducible assumption) | (with_reducible refine Own.drew ?_) | (with_reducible refine Own.alloc ?_ _)))); (case hr => (repeat (first | (with_reducible refine Room.drew ?_) | (exact Room.lit' rfl rfl (by simp)) | (with_reducible refine Room.alloc' ?_ _) | (refine Room.grown ?_ (by with_reducible assumption) (by omega))))); (case hb => (first | omega | (simp; omega))); rintro e w2 ⟨x2, hy0, hy1, rfl, hc2, hg2, hs2, ho2⟩)
    | (go_at_call 36; (with_reducible refine (pick_last (A := A) (n := n) (c := c) ?hc ?hO).mono ?_); (case hc => (repeat (first | (with_reducible assumption) | (with_reducible refine Cur.drew ?_) | (with_reducible refine Cur.alloc ?_ _)))); (case hO => (repeat (first | (with_reducible assumption) | (with_reducible refine Own.drew ?_) | (with_reducible refine Own.alloc ?_ _)))); rintro e w3 ⟨x3, hz0, hz1, rfl, hc3, hg3, hs3, ho3⟩; obtain ⟨k3, rfl⟩ := Int.eq_ofNat_of_zero_le hz0; have hk3 : k3 ≤ 3 := (by omega); have q0 := ho3.cell0; have q1 := ho3.cell1; have q2 := ho3.frozen 0; have q3 := ho3.frozen 1; have q4 := fun o => (ho3.alloc o).cell0; have q5 := fun o => (ho3.alloc o).cell1; have q6 := fun o => (ho3.alloc o).frozen 0; have q7 := fun o => (ho3.alloc o).frozen 1))
  all_goals
    go_wp2
    have f := own_set ho3 (.int .i64 x1) (.int .i64 x2)
    have fa := fun o => own_set (ho3.alloc o) (.int .i64 x1) (.int .i64 x2)
    have fb := fun o => own_set_alloc ho3 (.int .i64 x1) (.int .i64 x2) o
    clear q0 q1 q2 q3 q4 q5 q6 q7 hc0 hc1 hc2 hc3 ho0 ho1 ho2 ho3
    refine bodyPost_ret (v := .tuple #[.agg #[.int .i64 x1, .int .i64 x2], .slice (some ⟨_, 0, none⟩) k3 3]) (by simp [results, Tryz.results16, go_sem, f.1, f.2, fun o => (fa o).1, fun o => (fa o).2, fun o => (fb o).1, fun o => (fb o).2]; rfl) rfl ⟨x1, x2, _, k3, _, rfl, Room.readsN (xs := [1, 0, 2]) ?hR rfl hk3, hk3, ?hB⟩
    case hR => (repeat (first | (with_reducible refine Room.drew ?_) | (refine Room.set ?_ _ _ (by omega)) | (exact Room.lit' rfl rfl (by simp)) | (with_reducible refine Room.alloc' ?_ _) | (refine Room.grown ?_ (by with_reducible assumption) (by omega))))
    case hB => (repeat (first | (exact Below.refl _ _) | (with_reducible refine Below.drew ?_) | (refine Below.set2 ?_ (Nat.le_refl _) _ _) | (refine Below.alloc ?_ (by first | omega | (simp; done) | (simp; omega)) _) | (refine Below.grownG ?_ (by with_reducible assumption) (by omega) (by first | omega | (simp; done) | (simp; omega)))))

end Go.Proofs.YtpknbdaicmacjaaGreatDoor

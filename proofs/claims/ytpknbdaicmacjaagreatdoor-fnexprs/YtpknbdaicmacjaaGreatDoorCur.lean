/-
  Contracts of the reference's cursor, from which the laws draw their inputs: whatever it gives, it gives something within bounds, and turns nothing but itself.
-/
import Derived.Test.YtpknbdaicmacjaaGreatDoorMem
import Derived.Test.YtpknbdaicmacjaaGreatDoorRows
import Derived.Deep.QuietTactic
import Derived.BigQuiet
namespace Go.Proofs.YtpknbdaicmacjaaGreatDoor
open Go.RowKit

/-- Block g is a cursor over the bytes of a slice that lies ahead of it; it stands at most at place T. -/
def Cur (w : World) (g : Nat) (A : Option Addr) (n c T : Nat) : Prop :=
  ∃ (t z : Int) (bs : List Int), w.heap[g]? = some (.cells #[.slice A n c, .int .i64 t, .int .u64 z] 48 (0, 0)) ∧ 0 ≤ t ∧ t ≤ T ∧ 0 ≤ z ∧ z ≤ 18446744073709551615 ∧
    Reads w g .u8 A n bs ∧ (∀ x ∈ bs, 0 ≤ x ∧ x ≤ 255) ∧ n ≤ 1048576

/-- What a cursor's function gives: an int within bounds. -/
def Gives (k : IntKind) (lo hi : Int) (g : Nat) (A : Option Addr) (n c T : Nat) (w : World) (e : Ending) (w' : World) : Prop :=
  ∃ x : Int, lo ≤ x ∧ x ≤ hi ∧ e = .returned (.int k x) ∧ Cur w' g A n c T ∧ w.grownBy w' (some g)

theorem wrap_u64_range (y : Int) : 0 ≤ IntKind.u64.wrap y ∧ IntKind.u64.wrap y ≤ 18446744073709551615 := by rw [IntKind.wrap_u64]; omega
theorem and255 (y : Int) (h0 : 0 ≤ y) (h1 : y ≤ 18446744073709551615) : 0 ≤ wrap64 (bits .and .u64 y 255) ∧ wrap64 (bits .and .u64 y 255) ≤ 255 := by
  have e := u64_and y 255 h0 (by omega) (by decide) (by decide)
  rw [show (255 : Int).toNat = 255 from rfl, nat_mask8] at e
  rw [e, IntWalk.wrap64_in _ (by omega)]
  omega

theorem grownBy_drewN {a w : World} {row : Option Nat} (h : a.grownBy w row) (n : Nat) : a.grownBy (w.drewN n) row := ⟨h.os, h.tape, h.output, h.size, h.block⟩
theorem grownBy_put {a w : World} {g : Nat} (h : a.grownBy w (some g)) (j : Nat) (u : Value) : a.grownBy (w.setCell ⟨g, j, none⟩ u) (some g) :=
  ⟨h.os, h.tape, h.output, by simpa [World.setCell] using h.size, fun i hi hne => (Below.heap_setCell w ⟨g, j, none⟩ u i (fun e => hne (by rw [e]))).trans (h.block i hi hne)⟩

/-- Behind writes to its own block, and new blocks, a cursor reads the same slice. -/
theorem Reads.grown {w w' : World} {g : Nat} {k : IntKind} {A : Option Addr} {n : Nat} {xs : List Int} (h : Reads w g k A n xs) (hg : w.grownBy w' (some g)) (hlt : g ≤ w.heap.size) : Reads w' g k A n xs :=
  ⟨h.1, fun hn => by
    obtain ⟨b, off, rfl, hB, hc⟩ := h.2 hn
    exact ⟨b, off, rfl, hB, fun j x hx => (World.cell?_of_block (a := ⟨b, off + j, none⟩) (hg.block b (by omega) (fun e => by injection e with e; omega))).trans (hc j x hx)⟩⟩

/-- A step of the cursor. -/
theorem Cur.step {w : World} {g : Nat} {A : Option Addr} {n c T : Nat} {t z : Int} {bs : List Int} (hg : w.heap[g]? = some (.cells #[.slice A n c, .int .i64 t, .int .u64 z] 48 (0, 0)))
    (hr : Reads w g .u8 A n bs) (hbs : ∀ x ∈ bs, 0 ≤ x ∧ x ≤ 255) (hn : n ≤ 1048576) (p q : Nat) (t' z' : Int) (h1 : 0 ≤ t') (h2 : t' ≤ T) (h3 : 0 ≤ z' ∧ z' ≤ 18446744073709551615) :
    Cur ((((w.drewN p).setCell ⟨g, 1, none⟩ (.int .i64 t')).setCell ⟨g, 2, none⟩ (.int .u64 z')).drewN q) g A n c T ∧
      w.grownBy ((((w.drewN p).setCell ⟨g, 1, none⟩ (.int .i64 t')).setCell ⟨g, 2, none⟩ (.int .u64 z')).drewN q) (some g) := by
  have hgr : w.grownBy ((((w.drewN p).setCell ⟨g, 1, none⟩ (.int .i64 t')).setCell ⟨g, 2, none⟩ (.int .u64 z')).drewN q) (some g) :=
    grownBy_drewN (grownBy_put (grownBy_put (grownBy_drewN (World.grownBy.refl _ _) p) 1 _) 2 _) q
  have hlt : g < w.heap.size := (Array.getElem?_eq_some_iff.1 hg).1
  refine ⟨⟨t', z', bs, ?_, h1, h2, h3.1, h3.2, hr.grown hgr (Nat.le_of_lt hlt), hbs, hn⟩, hgr⟩
  have hg' : (w.drewN p).heap[g]? = some (.cells #[.slice A n c, .int .i64 t, .int .u64 z] 48 (0, 0)) := hg
  have e1 : ((w.drewN p).setCell ⟨g, 1, none⟩ (.int .i64 t')).heap[g]? = some (.cells #[.slice A n c, .int .i64 t', .int .u64 z] 48 (0, 0)) := by
    simp only [World.setCell, Array.getElem?_modify, hg']
    rfl
  show (((w.drewN p).setCell ⟨g, 1, none⟩ (.int .i64 t')).setCell ⟨g, 2, none⟩ (.int .u64 z')).heap[g]? = _
  generalize (w.drewN p).setCell ⟨g, 1, none⟩ (.int .i64 t') = w1 at e1
  simp only [World.setCell, Array.getElem?_modify, e1]
  rfl

set_option maxHeartbeats 400000 in
set_option maxRecDepth 100000 in
theorem next_any (g : Nat) (A : Option Addr) (n c T : Nat) (w : World) (hc : Cur w g A n c T) (hT : T ≤ 1000000) :
    Calls Tryz.prog 53 #[.pointer (some ⟨g, 0, none⟩)] w (Gives .i64 0 255 g A n c (T + 1) w) := by
  obtain ⟨t, z, bs, hg, ht0, htT, hz0, hz1, hr, hbs, hn⟩ := hc
  have c0 : w.cell? ⟨g, 0, none⟩ = some (.slice A n c) := by rw [cell_of_row w g 0 _ 48 (0, 0) hg]; rfl
  have c1 : w.cell? ⟨g, 1, none⟩ = some (.int .i64 t) := by rw [cell_of_row w g 1 _ 48 (0, 0) hg]; rfl
  have c2 : w.cell? ⟨g, 2, none⟩ = some (.int .u64 z) := by rw [cell_of_row w g 2 _ 48 (0, 0) hg]; rfl
  have f1 : w.frozen? ⟨g, 1, none⟩ = false := by simp [World.frozen?, hg]
  have f2 : w.frozen? ⟨g, 2, none⟩ = false := by simp [World.frozen?, hg]
  have HG := put hg; clear hg
  by_cases hlt : t < n
  · obtain ⟨j, rfl⟩ := Int.eq_ofNat_of_zero_le ht0
    obtain ⟨b, off, x, rfl, hb, hx, hxx⟩ := hr.at_ (j := j) (by omega)
    have hx1 := hbs x (List.mem_of_getElem? hxx.out)
    go_enter Tryz.func53, Tryz.ntmps53
    go_wp2
    go_quiet (fail)
    go_wp2
    go_quiet (fail)
    go_wp2
    go_quiet (fail)
    go_wp2
    go_ret
    have hst := Cur.step HG.out hr hbs hn (T := T + 1)
    exact ⟨x, hx1.1, hx1.2, rfl, hst _ _ _ _ (by omega) (by omega) (wrap_u64_range _)⟩
  · go_enter Tryz.func53, Tryz.ntmps53
    go_wp2
    go_quiet (fail)
    go_wp2
    go_quiet (fail)
    go_wp2
    go_ret
    have hst := Cur.step HG.out hr hbs hn (T := T + 1)
    have hv := and255 (IntKind.u64.wrap (IntKind.u64.wrap (IntKind.u64.wrap (z * 6364136223846793005)) + 1442695040888963407) / 1099511627776) (by have := wrap_u64_range (IntKind.u64.wrap (IntKind.u64.wrap (z * 6364136223846793005)) + 1442695040888963407); omega) (by have := wrap_u64_range (IntKind.u64.wrap (IntKind.u64.wrap (z * 6364136223846793005)) + 1442695040888963407); omega)
    exact ⟨_, hv.1, hv.2, rfl, hst _ _ _ _ (by omega) (by omega) (wrap_u64_range _)⟩

theorem Cur.more {w : World} {g : Nat} {A : Option Addr} {n c T T' : Nat} (h : Cur w g A n c T) (hT : T ≤ T') : Cur w g A n c T' := by
  obtain ⟨t, z, bs, h1, h2, h3, h4⟩ := h
  exact ⟨t, z, bs, h1, h2, by omega, h4⟩
theorem Cur.lt {w : World} {g : Nat} {A : Option Addr} {n c T : Nat} (h : Cur w g A n c T) : g < w.heap.size := by
  obtain ⟨t, z, bs, h1, _⟩ := h
  exact (Array.getElem?_eq_some_iff.1 h1).1
theorem Cur.below {w w' : World} {g C : Nat} {A : Option Addr} {n c T : Nat} (h : Cur w g A n c T) (hb : Below C w w') (hC : g < C) : Cur w' g A n c T := by
  obtain ⟨t, z, bs, h1, h2, h3, h4, h5, h6, h7⟩ := h
  exact ⟨t, z, bs, (hb.block g hC).trans h1, h2, h3, h4, h5, h6.below (hb.mono (Nat.le_of_lt hC)), h7⟩
theorem Cur.alloc {w : World} {g : Nat} {A : Option Addr} {n c T : Nat} (h : Cur w g A n c T) (o : Obj) : Cur (w.alloc o) g A n c T :=
  h.below ((Below.refl w.heap.size w).alloc (Nat.le_refl _) o) h.lt
theorem grownBy_alloc' {a w : World} {row : Option Nat} (h : a.grownBy w row) (o : Obj) : a.grownBy (w.alloc o) row :=
  ⟨h.os, h.tape, h.output, Nat.le_trans h.size (by simp), fun i hi hne => (Below.heap_alloc w o i (Nat.lt_of_lt_of_le hi h.size)).trans (h.block i hi hne)⟩
theorem grownBy_trans {a b c : World} {row : Option Nat} (h : a.grownBy b row) (k : b.grownBy c row) : a.grownBy c row :=
  ⟨k.os.trans h.os, k.tape.trans h.tape, k.output.trans h.output, Nat.le_trans h.size k.size, fun i hi hne => (k.block i (Nat.lt_of_lt_of_le hi h.size) hne).trans (h.block i hi hne)⟩

set_option maxHeartbeats 400000 in
set_option maxRecDepth 100000 in
theorem pick_any (g : Nat) (A : Option Addr) (n c T : Nat) (m : Int) (w : World) (hc : Cur w g A n c T) (hT : T ≤ 900000) (h1 : 1 ≤ m) (h2 : m ≤ 65536) :
    Calls Tryz.prog 36 #[.pointer (some ⟨g, 0, none⟩), .int .i64 m] w (Gives .i64 0 (m - 1) g A n c (T + 2) w) := by
  by_cases hm : m ≤ 1
  · go_enter Tryz.func36, Tryz.ntmps36
    go_wp2
    go_ret
    exact ⟨0, by omega, by omega, rfl, hc.more (by omega), World.grownBy.refl _ _⟩
  · by_cases hm2 : m ≤ 200
    · go_enter Tryz.func36, Tryz.ntmps36
      go_wp2_with fail
      refine (next_any g A n c T _ hc (by omega)).mono ?_
      rintro e w1 ⟨x, hx0, hx1, rfl, hc1, hg1⟩
      have hmod := Int.emod_nonneg x (show m ≠ 0 by omega)
      have hlt := Int.emod_lt_of_pos x (show 0 < m by omega)
      go_wp2
      go_ret
      exact ⟨x % m, hmod, by omega, rfl, hc1.more (by omega), hg1⟩
    · go_enter Tryz.func36, Tryz.ntmps36
      go_wp2_with fail
      refine (next_any g A n c T _ hc (by omega)).mono ?_
      rintro e w1 ⟨x, hx0, hx1, rfl, hc1, hg1⟩
      go_wp2_with fail
      refine (next_any g A n c (T + 1) _ hc1 (by omega)).mono ?_
      rintro e w2 ⟨y, hy0, hy1, rfl, hc2, hg2⟩
      have hmod := Int.emod_nonneg (x * 256 + y) (show m ≠ 0 by omega)
      have hlt := Int.emod_lt_of_pos (x * 256 + y) (show 0 < m by omega)
      go_wp2
      go_ret
      exact ⟨(x * 256 + y) % m, hmod, by omega, rfl, hc2, grownBy_trans hg1 hg2⟩

/-- What 'one' gives. -/
def GivesBool (g : Nat) (A : Option Addr) (n c T : Nat) (w : World) (e : Ending) (w' : World) : Prop :=
  ∃ b : Bool, e = .returned (.bool b) ∧ Cur w' g A n c T ∧ w.grownBy w' (some g)

set_option maxHeartbeats 400000 in
set_option maxRecDepth 100000 in
theorem one_any (g : Nat) (A : Option Addr) (n c T : Nat) (m : Int) (w : World) (hc : Cur w g A n c T) (hT : T ≤ 900000) (h1 : 1 ≤ m) (h2 : m ≤ 65536) :
    Calls Tryz.prog 29 #[.pointer (some ⟨g, 0, none⟩), .int .i64 m] w (GivesBool g A n c (T + 2) w) := by
  go_enter Tryz.func29, Tryz.ntmps29
  go_wp2_with fail
  refine (pick_any g A n c T m _ hc hT h1 h2).mono ?_
  rintro e w1 ⟨x, hx0, hx1, rfl, hc1, hg1⟩
  go_wp2
  go_ret
  exact ⟨_, rfl, hc1, hg1⟩

set_option maxHeartbeats 400000 in
set_option maxRecDepth 100000 in
theorem among_any (g : Nat) (A : Option Addr) (n c T : Nat) (w : World) (hc : Cur w g A n c T) (hT : T ≤ 900000) (b m : Nat) (xs : List Int) (lo hi : Int) (hr : Room w b 3 m .i64 xs) (hx : xs.length = m) (hb : g < b) (h1 : 1 ≤ m) (h2 : m ≤ 65536) (hin : Hid (∀ x ∈ xs, lo ≤ x ∧ x ≤ hi)) :
    Calls Tryz.prog 35 #[.pointer (some ⟨g, 0, none⟩), .slice (some ⟨b, 0, none⟩) m m] w (Gives .i64 lo hi g A n c (T + 2) w) := by
  have HX := put hx; clear hx
  go_enter Tryz.func35, Tryz.ntmps35
  go_wp2_with fail
  refine (pick_any g A n c T m _ hc hT (by omega) (by omega)).mono ?_
  rintro e w1 ⟨x, hx0, hx1, rfl, hc1, hg1⟩
  obtain ⟨j, rfl⟩ := Int.eq_ofNat_of_zero_le hx0
  have hj : j < m := by omega
  have hcell := hr.cell j (by rw [HX.out]; exact hj)
  have hcell1 : w1.cell? ⟨b, j, none⟩ = some (.int .i64 (xs.getD j 0)) := (World.cell?_of_block (a := ⟨b, j, none⟩) (hg1.block b hr.lt (fun e => by injection e with e; omega))).trans hcell
  have hv : lo ≤ xs.getD j 0 ∧ xs.getD j 0 ≤ hi := by
    have hj' : j < xs.length := by rw [HX.out]; exact hj
    rw [List.getD, List.getElem?_eq_getElem hj']
    exact hin.out _ (List.getElem_mem hj')
  generalize xs.getD j 0 = y at *
  clear hcell
  go_wp2
  go_ret
  exact ⟨y, hv.1, hv.2, rfl, hc1, hg1⟩

end Go.Proofs.YtpknbdaicmacjaaGreatDoor

/-
  Contracts of the reference's drawn numbers.
-/
import Derived.Test.YtogkpkcpcakakaaCur
namespace Go.Proofs.Ytogkpkcpcakakaa
open Go.RowKit

theorem Room.lit {w : World} {t : TypeId} {k : IntKind} {cs : Array Value} {xs : List Int} {n : Nat} (h : cs.toList = xs.map (Value.int k)) (hn : cs.size = n) : Room (w.alloc (.cells cs t)) w.heap.size t n k xs :=
  ⟨cs, heap_alloc_new _ _, hn, by rw [h, List.take_of_length_le (by simp)]⟩

set_option maxHeartbeats 400000 in
set_option maxRecDepth 100000 in
theorem sint_any (g : Nat) (A : Option Addr) (n c T : Nat) (w : World) (hc : Cur w g A n c T) (hT : T ≤ 900000) :
    Calls Try.prog 46 #[.pointer (some ⟨g, 0, none⟩)] w (Gives .i64 (-9223372036854775808) 9223372036854775807 g A n c (T + 2) w) := by
  go_enter Try.func46, Try.ntmps46
  go_wp2_with fail
  refine (among_any g A n c T _ (hc.alloc _) hT w.heap.size 18 [0, 1, -1, 63, 64, -64, -65, 127, 128, 8191, 8192, -8192, -8193, 4611686018427387903, 4611686018427387904, -4611686018427387904, 9223372036854775807, -9223372036854775808] (-9223372036854775808) 9223372036854775807 (by refine Room.lit ?_ ?_ <;> rfl) rfl hc.lt (by decide) (by decide) (by show ∀ x ∈ _, _; decide)).mono ?_
  rintro e w1 ⟨x, hx0, hx1, rfl, hc1, hg1⟩
  go_wp2
  go_ret
  exact ⟨x, hx0, hx1, rfl, hc1, grownBy_trans (World.grownBy_alloc _ _ _) hg1⟩

def nineU : List Int := [0, 1, 127, 128, 16383, 16384, 9223372036854775807, 9223372036854775808, 18446744073709551615]
theorem nineU_range (j : Nat) (h : j < 9) : 0 ≤ nineU.getD j 0 ∧ nineU.getD j 0 ≤ 18446744073709551615 := by
  have : ∀ i : Fin 9, 0 ≤ nineU.getD i.val 0 ∧ nineU.getD i.val 0 ≤ 18446744073709551615 := by decide
  exact this ⟨j, h⟩

set_option maxHeartbeats 400000 in
set_option maxRecDepth 100000 in
theorem u64_any (g : Nat) (A : Option Addr) (n c T : Nat) (w : World) (hc : Cur w g A n c T) (hT : T ≤ 800000) :
    Calls Try.prog 38 #[.pointer (some ⟨g, 0, none⟩)] w (Gives .u64 0 18446744073709551615 g A n c (T + 20) w) := by
  go_enter Try.func38, Try.ntmps38
  go_wp2_with fail
  refine (next_any g A n c T _ hc (by omega)).mono ?_
  rintro e w1 ⟨x, hx0, hx1, rfl, hc1, hg1⟩
  go_wp2_with fail
  refine (pick_any g A n c _ 8 _ hc1 (by omega) (by omega) (by omega)).mono ?_
  rintro e w2 ⟨y, hy0, hy1, rfl, hc2, hg2⟩
  have hg12 := grownBy_trans hg1 hg2
  clear hg1 hg2 hc1 hc
  go_wp2_with fail
  go_loopw [3, 4] (fun u i wr => ∃ (v k : Int), 0 ≤ v ∧ v ≤ 18446744073709551615 ∧ u = .int .u64 v ∧ i = .int .i64 k ∧ 0 ≤ k ∧ k ≤ 7 ∧ Cur wr g A n c (T + 10 - k.toNat) ∧ w.grownBy wr (some g)) (fun _ i _ => (intOf i).toNat)
  case atStart => exact ⟨x, y, hx0, by omega, rfl, rfl, hy0, by omega, hc2.more (by omega), hg12⟩
  case round =>
    clear hc2 hg12
    obtain ⟨v, k, hv0, hv1, rfl, rfl, hk0, hk1, hcr, hgr⟩ := hrel
    by_cases hk : 0 < k
    · go_wp2_with fail
      refine (next_any g A n c _ _ hcr (by omega)).mono ?_
      rintro e w3 ⟨x3, h30, h31, rfl, hc3, hg3⟩
      go_wp2
      have hwr := wrap_u64_range
      go_roundw
      case rel => exact ⟨_, k - 1, (hwr _).1, (hwr _).2, rfl, rfl, by omega, by omega, hc3.more (by omega), grownBy_trans hgr hg3⟩
      case measure => simp [intOf]; omega
    · go_wp2_with fail
      refine (one_any g A n c _ 4 _ hcr (by omega) (by omega) (by omega)).mono ?_
      rintro e w3 ⟨b, rfl, hc3, hg3⟩
      have hg13 := grownBy_trans hgr hg3
      clear hcr hgr hg3
      cases b
      · go_wp2
        go_ret
        exact ⟨v, hv0, hv1, rfl, hc3.more (by omega), hg13⟩
      · go_wp2_with fail
        refine (pick_any g A n c _ 9 _ (hc3.alloc _) (by omega) (by omega) (by omega)).mono ?_
        rintro e w4 ⟨x4, h40, h41, rfl, hc4, hg4⟩
        obtain ⟨j, rfl⟩ := Int.eq_ofNat_of_zero_le h40
        have hj : j < 9 := by omega
        have hroom : Room (w3.alloc (.cells #[.int .u64 0, .int .u64 1, .int .u64 127, .int .u64 128, .int .u64 16383, .int .u64 16384, .int .u64 9223372036854775807, .int .u64 9223372036854775808, .int .u64 18446744073709551615] 24)) w3.heap.size 24 9 .u64 nineU := by refine Room.lit ?_ ?_ <;> rfl
        have hcell := hroom.cell j hj
        have hcell4 : w4.cell? ⟨w3.heap.size, j, none⟩ = some (.int .u64 (nineU.getD j 0)) := (World.cell?_of_block (a := ⟨w3.heap.size, j, none⟩) (hg4.block w3.heap.size (by simp) (fun e => by injection e with e; have := hc3.lt; omega))).trans hcell
        have hv := nineU_range j hj
        generalize nineU.getD j 0 = y at *
        clear hcell hroom
        go_wp2
        go_ret
        exact ⟨y, hv.1, hv.2, rfl, hc4.more (by omega), grownBy_trans hg13 (grownBy_trans (World.grownBy_alloc _ _ _) hg4)⟩

/-- What a drawn number is, made from bytes that came in: within bounds, and nothing that was there has turned. -/
def Drawn (k : IntKind) (lo hi : Int) (w : World) (e : Ending) (w' : World) : Prop := ∃ x : Int, lo ≤ x ∧ x ≤ hi ∧ e = .returned (.int k x) ∧ Below w.heap.size w w'

/-- A new cursor. -/
theorem Cur.new {w : World} {A : Option Addr} {n c : Nat} {bs : List Int} (hr : Reads w w.heap.size .u8 A n bs) (hbs : ∀ x ∈ bs, 0 ≤ x ∧ x ≤ 255) (hn : n ≤ 1048576) (T : Nat) :
    Cur (w.alloc (.cells #[.slice A n c, .int .i64 0, .int .u64 0] 52)) w.heap.size A n c T :=
  ⟨0, 0, bs, heap_alloc_new _ _, by omega, by omega, by omega, by omega, hr.below ((Below.refl _ _).alloc (Nat.le_refl _) _), hbs, hn⟩
theorem below_of_cur {w w' : World} {o : Obj} (hg : (w.alloc o).grownBy w' (some w.heap.size)) : Below w.heap.size w w' :=
  ((Below.refl w.heap.size w).alloc (Nat.le_refl _) o).grown hg (by simp) (fun k hk => by injection hk with hk; omega)

set_option maxHeartbeats 400000 in
set_option maxRecDepth 100000 in
theorem drawPutU_any (A : Option Addr) (n c : Nat) (bs : List Int) (w : World) (hr : Reads w w.heap.size .u8 A n bs) (hbs : Hid (∀ x ∈ bs, 0 ≤ x ∧ x ≤ 255)) (hn : n ≤ 1048576) :
    Calls Try.prog 14 #[.slice A n c] w (Drawn .u64 0 18446744073709551615 w) := by
  have hcur := put (Cur.new (c := c) hr hbs hn 0)
  go_enter Try.func14, Try.ntmps14
  go_wp2_with fail
  refine (u64_any w.heap.size A n c 0 _ hcur.out (by omega)).mono ?_
  rintro e w1 ⟨x, hx0, hx1, rfl, hc1, hg1⟩
  go_wp2
  go_ret
  exact ⟨x, hx0, hx1, rfl, below_of_cur hg1⟩

set_option maxHeartbeats 400000 in
set_option maxRecDepth 100000 in
theorem drawPutS_any (A : Option Addr) (n c : Nat) (bs : List Int) (w : World) (hr : Reads w w.heap.size .u8 A n bs) (hbs : Hid (∀ x ∈ bs, 0 ≤ x ∧ x ≤ 255)) (hn : n ≤ 1048576) :
    Calls Try.prog 20 #[.slice A n c] w (Drawn .i64 (-9223372036854775808) 9223372036854775807 w) := by
  have hcur := put (Cur.new (c := c) hr hbs hn 0)
  go_enter Try.func20, Try.ntmps20
  go_wp2_with fail
  refine (one_any w.heap.size A n c 0 2 _ hcur.out (by omega) (by omega) (by omega)).mono ?_
  rintro e w1 ⟨b, rfl, hc1, hg1⟩
  cases b
  · go_wp2_with fail
    refine (sint_any w.heap.size A n c _ _ hc1 (by omega)).mono ?_
    rintro e w2 ⟨x, hx0, hx1, rfl, hc2, hg2⟩
    go_wp2
    go_ret
    exact ⟨x, hx0, hx1, rfl, below_of_cur (grownBy_trans hg1 hg2)⟩
  · go_wp2_with fail
    refine (u64_any w.heap.size A n c _ _ hc1 (by omega)).mono ?_
    rintro e w2 ⟨x, hx0, hx1, rfl, hc2, hg2⟩
    have hw : -9223372036854775808 ≤ wrap64 x ∧ wrap64 x ≤ 9223372036854775807 := by unfold wrap64; omega
    go_wp2
    go_ret
    exact ⟨wrap64 x, hw.1, hw.2, rfl, below_of_cur (grownBy_trans hg1 hg2)⟩

end Go.Proofs.Ytogkpkcpcakakaa

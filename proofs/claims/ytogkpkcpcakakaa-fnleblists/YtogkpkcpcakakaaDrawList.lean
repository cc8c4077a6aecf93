/-
  Contracts of the reference's drawn lists and of the laws' own sameU.
-/
import Derived.Test.YtogkpkcpcakakaaDraw
import Derived.Test.YtogkpkcpcakakaaListU
import Derived.Test.YtogkpkcpcakakaaMarks
namespace Go.Proofs.Ytogkpkcpcakakaa
open Go.RowKit Leb

set_option maxHeartbeats 400000 in
set_option maxRecDepth 100000 in
theorem sameU_same (A A' : Option Addr) (n c c' : Nat) (xs : List Int) (w : World) (hr : Reads w w.heap.size .u64 A n xs) (hr' : Reads w w.heap.size .u64 A' n xs) (hn : n ≤ 1048576) :
    Calls Try.prog 31 #[.slice A n c, .slice A' n c'] w fun e w' => e = .returned (.bool true) ∧ ∃ q, w' = w.drewN q := by
  go_enter Try.func31, Try.ntmps31
  go_wp2
  go_loopw [13] (fun i wr => ∃ k q : Nat, k ≤ n ∧ i = .int .i64 k ∧ wr = w.drewN q) (fun i _ => n - (intOf i).toNat)
  case atStart => exact ⟨0, 0, Nat.zero_le _, rfl, rfl⟩
  case round =>
    obtain ⟨k, q, hk, rfl, rfl⟩ := hrel
    by_cases hlt : k < n
    · obtain ⟨b, off, x, rfl, hb, hc, hx⟩ := hr.at_ hlt
      obtain ⟨b', off', x', rfl, hb', hc', hx'⟩ := hr'.at_ hlt
      obtain rfl : x = x' := by have := hx.out; rw [hx'.out] at this; injection this with this; exact this.symm
      go_wp2
      go_quiet (fail)
      go_wp2
      go_roundw
      case rel => exact ⟨k + 1, _, by omega, by go_num, rfl⟩
      case measure => simp [intOf]; omega
    · go_wp2
      go_ret
      exact ⟨rfl, _, rfl⟩

/-- A drawn list. -/
def DrawnList (w : World) (e : Ending) (w' : World) : Prop :=
  ∃ (A : Option Addr) (n c : Nat) (xs : List Int), e = .returned (.slice A n c) ∧ n ≤ 201 ∧ Reads w' w'.heap.size .u64 A n xs ∧ Fits xs ∧ Below w.heap.size w w'

theorem Room.zeros (w : World) (t : TypeId) (n : Nat) : Room (w.alloc (.cells (madeCells #[.int .u64 0] n) t)) w.heap.size t n .u64 (List.replicate n 0) := by
  refine ⟨_, heap_alloc_new _ _, size_madeCells _ _, ?_⟩
  rw [toList_madeCells_one]
  simp
theorem Nums.grown {w w' : World} {B g : Nat} {e : TypeId} {k : IntKind} {v : Value} {xs : List Int} (h : Nums w B e k v xs) (hg : w.grownBy w' (some g)) (hgB : g < B) : Nums w' B e k v xs :=
  World.ownsRow.kept h hg (by
    rcases hv : v.ownBlock with _ | b
    · exact .inl rfl
    · right
      intro he
      injection he with he
      have := (World.ownsRow.lt h b hv).1
      omega)

set_option maxHeartbeats 400000 in
set_option maxRecDepth 100000 in
theorem drawListU_any (A : Option Addr) (n c : Nat) (bs : List Int) (w : World) (hr : Reads w w.heap.size .u8 A n bs) (hbs : Hid (∀ x ∈ bs, 0 ≤ x ∧ x ≤ 255)) (hn : n ≤ 1048576) :
    Calls Try.prog 27 #[.slice A n c] w (DrawnList w) := by
  have hcur := put (Cur.new (c := c) hr hbs hn 0)
  go_enter Try.func27, Try.ntmps27
  go_wp2_with fail
  refine (one_any w.heap.size A n c 0 30 _ hcur.out (by omega) (by omega) (by omega)).mono ?_
  rintro e w1 ⟨b, rfl, hc1, hg1⟩
  cases b
  · go_wp2_with fail
    refine (pick_any w.heap.size A n c _ 6 _ hc1 (by omega) (by omega) (by omega)).mono ?_
    rintro e w2 ⟨x, hx0, hx1, rfl, hc2, hg2⟩
    have hg12 := grownBy_trans hg1 hg2
    clear hc1 hg1 hg2
    go_wp2_with fail
    go_loopw [4, 5] (fun v i wr => ∃ (k : Int) (ys : List Int), 0 ≤ k ∧ k ≤ 5 ∧ i = .int .i64 k ∧ Hid (ys.length + k.toNat ≤ 5) ∧ Hid (Fits ys) ∧ Nums wr (w.heap.size + 1) 24 .u64 v ys ∧ Cur wr w.heap.size A n c (200 - 20 * k.toNat) ∧ (w.alloc (.cells #[.slice A n c, .int .i64 0, .int .u64 0] 52)).grownBy wr (some w.heap.size)) (fun _ i _ => (intOf i).toNat)
    case atStart => exact ⟨x, [], hx0, by omega, rfl, by show _ ≤ _; simp; omega, by show Fits _; intro y hy; simp at hy, Nums.nil _ _ _ _, hc2.more (by omega), hg12⟩
    case round =>
      clear hc2 hg12
      obtain ⟨k, ys, hk0, hk1, rfl, hlen, hfit, hown, hcr, hgr⟩ := hrel
      by_cases hk : 0 < k
      · go_wp2_with fail
        refine (u64_any w.heap.size A n c _ _ hcr (by omega)).mono ?_
        rintro e w3 ⟨y, hy0, hy1, rfl, hc3, hg3⟩
        have hgr3 := grownBy_trans hgr hg3
        have hown3 := hown.grown hg3 (by omega)
        have hsz : w.heap.size + 1 ≤ w3.heap.size := by have := hgr3.size; simp at this; omega
        have hyl : ys.length ≤ 1000000 := by have := hlen.out; omega
        have hfit' := put (show Fits (ys ++ [y]) by
          intro z hz
          rcases List.mem_append.1 hz with hz | hz
          · exact hfit.out z hz
          · simp at hz; subst hz; exact ⟨hy0, hy1⟩)
        have hlen' := put (show (ys ++ [y]).length + (k - 1).toNat ≤ 5 by have := hlen.out; simp; omega)
        clear hown hgr hg3 hcr hlen hfit
        go_wp2_with (at_builtin; refine wpList_append_one rfl _ _ 36 rfl (w.heap.size + 1) 24 .u64 8 Try.info24 Try.underlying36 (by decide) _ ys rfl w3 ((Below.refl (w.heap.size + 1) w3).alloc hsz _) (by simp; omega) (hown3.alloc _) w3.heap.size y rfl (by simp) (by omega) ?_)
        intro v' w4 hown' hbel' hsz'
        have hc4 : Cur w4 w.heap.size A n c (200 - 20 * (k - 1).toNat) := (hc3.below hbel' (by omega)).more (by omega)
        have hgr4 : (w.alloc (.cells #[.slice A n c, .int .i64 0, .int .u64 0] 52)).grownBy w4 (some w.heap.size) :=
          ⟨hbel'.os.trans hgr3.os, hbel'.tape.trans hgr3.tape, hbel'.output.trans hgr3.output, Nat.le_trans hgr3.size hbel'.size, fun i hi hne => (hbel'.block i (by simpa using hi)).trans (hgr3.block i hi hne)⟩
        clear hgr3 hc3 hbel'
        go_wp2
        go_roundw
        case rel => exact ⟨k - 1, ys ++ [y], by omega, by omega, rfl, hlen', hfit', hown', hc4, hgr4⟩
        case measure => simp [intOf]; omega
      · obtain ⟨A', c', rfl, hrd⟩ := hown.reads
        go_wp2
        go_ret
        exact ⟨A', ys.length, c', ys, rfl, by have := hlen.out; omega, hrd, hfit.out, below_of_cur hgr⟩
  · go_wp2_with fail
    refine (pick_any w.heap.size A n c _ 2 _ hc1 (by omega) (by omega) (by omega)).mono ?_
    rintro e w2 ⟨x, hx0, hx1, rfl, hc2, hg2⟩
    obtain ⟨m, hm⟩ : ∃ m : Nat, (200 : Int) + x = m := ⟨(200 + x).toNat, by omega⟩
    have hm1 : m ≤ 201 := by omega
    have hmk := fun W => run_make_row' (P := Try.prog) 36 24 (.int .u64 0) 8 Try.underlying36 Try.info24 rfl .i64 .i64 m (by omega) (by omega) W
    have hg12 := grownBy_trans hg1 hg2
    clear hx1 hx0 hg1 hg2 hc1 hc2
    go_wp2
    go_ret
    have hroom := Room.zeros w2 24 m
    have hb : Below w.heap.size w (w2.alloc (.cells (madeCells #[.int .u64 0] m) 24)) := (below_of_cur hg12).alloc (by have := hg12.size; simp at this; omega) _
    exact ⟨some ⟨w2.heap.size, 0, none⟩, m, m, List.replicate m 0, rfl, hm1, hroom.reads (by simp), fun y hy => by have := List.eq_of_mem_replicate hy; omega, hb⟩

/-- What 'spoilt' gives: a text that is hardly longer. -/
def Spoilt (g : Nat) (A : Option Addr) (n c T hi : Nat) (w : World) (e : Ending) (w' : World) : Prop :=
  ∃ s : ByteArray, s.size ≤ hi ∧ e = .returned (.string s) ∧ Cur w' g A n c T ∧ w.grownBy w' (some g)

theorem Cur.drewN {w : World} {g : Nat} {A : Option Addr} {n c T : Nat} (h : Cur w g A n c T) (q : Nat) : Cur (w.drewN q) g A n c T := h

/-- 'string([]byte{b})'. -/
theorem one_byte (w : World) (b : UInt8) : (convert 22 9 (.slice (some ⟨w.heap.size, 0, none⟩) 1 1)).run Try.prog (w.alloc (.cells #[.int .u8 ((b.toNat : Nat) : Int)] 5)) = .ok (.string (strOfNums [((b.toNat : Nat) : Int)])) (w.alloc (.cells #[.int .u8 ((b.toNat : Nat) : Int)] 5)) := by
  refine run_convert_bytes_arg (P := Try.prog) _ 22 5 Try.underlying22 Try.underlying5 w.heap.size 0 1 1 [((b.toNat : Nat) : Int)] rfl (fun q hq => ?_) 9 Try.underlying9
  obtain rfl : q = 0 := by omega
  simp

set_option maxHeartbeats 1000000 in
set_option maxRecDepth 100000 in
theorem spoilt_any (g : Nat) (A : Option Addr) (n c T : Nat) (s0 W : ByteArray) (w : World) (hc : Cur w g A n c T) (hT : T ≤ 500000) (hs0 : s0.size ≤ 2000) (hW1 : 1 ≤ W.size) (hW2 : W.size ≤ 100) :
    Calls Try.prog 53 #[.pointer (some ⟨g, 0, none⟩), .string s0, .string W] w (Spoilt g A n c (T + 40) 2010 w) := by
  go_enter Try.func53, Try.ntmps53
  go_wp2_with fail
  refine (pick_any g A n c T 2 _ hc (by omega) (by omega) (by omega)).mono ?_
  rintro e w1 ⟨x, hx0, hx1, rfl, hc1, hg1⟩
  clear hc
  go_wp2_with fail
  go_loopw [1, 7] (fun v i wr => ∃ (k : Int) (s : ByteArray), 0 ≤ k ∧ k ≤ 2 ∧ i = .int .i64 k ∧ v = .string s ∧ s.size + k.toNat ≤ 2002 ∧ Cur wr g A n c (T + 30 - 10 * k.toNat) ∧ w.grownBy wr (some g)) (fun _ i _ => (intOf i).toNat)
  case atStart => exact ⟨1 + x, s0, by omega, by omega, rfl, rfl, by omega, hc1.more (by omega), hg1⟩
  case round =>
    clear hc1 hg1
    obtain ⟨k, s, hk0, hk1, rfl, rfl, hsz, hcr, hgr⟩ := hrel
    by_cases hk : 0 < k
    · by_cases hs : 0 < s.size
      · have b1 : decide (0 < k) = true := by simpa using hk
        have b2 : decide ((0 : Int) < (s.size : Int)) = true := by simp; omega
        go_wp2_with fail
        refine (pick_any g A n c _ s.size _ hcr (by omega) (by omega) (by omega)).mono ?_
        rintro e w2 ⟨i, hi0, hi1, rfl, hc2, hg2⟩
        obtain ⟨i, rfl⟩ := Int.eq_ofNat_of_zero_le hi0
        have hi : i < s.size := by omega
        have hgr2 := grownBy_trans hgr hg2
        clear hcr hgr hg2
        go_wp2_with fail
        refine (pick_any g A n c _ W.size _ hc2 (by omega) (by omega) (by omega)).mono ?_
        rintro e w3 ⟨j, hj0, hj1, rfl, hc3, hg3⟩
        obtain ⟨j, rfl⟩ := Int.eq_ofNat_of_zero_le hj0
        have hj : j < W.size := by omega
        have hgr3 := grownBy_trans hgr2 hg3
        clear hc2 hgr2 hg3
        have hconv := one_byte w3 W[j]
        obtain ⟨E, hE⟩ : ∃ E, strOfNums [((W[j].toNat : Nat) : Int)] = E := ⟨_, rfl⟩
        have hE1 : E.size ≤ 1 := by rw [← hE, strOfNums_size]; simp
        rw [hE] at hconv
        clear hE
        go_wp2_with fail
        refine (pick_any g A n c _ 3 _ (hc3.alloc _) (by omega) (by omega) (by omega)).mono ?_
        rintro e w4 ⟨y, hy0, hy1, rfl, hc4, hg4⟩
        have hgr4 := grownBy_trans hgr3 (grownBy_trans (World.grownBy_alloc _ _ _) hg4)
        clear hc3 hgr3 hg4 hconv
        have hx1' : (s.extract 0 i).size = i := by simp; omega
        have hx2' : (s.extract i s.size).size = s.size - i := by simp
        have hx3' : (s.extract (i + 1) s.size).size = s.size - (i + 1) := by simp
        have hy : y = 0 ∨ y = 1 ∨ y = 2 := by omega
        rcases hy with rfl | rfl | rfl
        all_goals
          go_wp2_with fail
          go_quiet (fail)
          go_wp2_with fail
          go_roundw
          case rel => exact ⟨k - 1, _, by omega, by omega, rfl, rfl, by simp only [ByteArray.size_append, hx1', hx2', hx3']; omega, (hc4.drewN _).more (by omega), grownBy_drewN hgr4 _⟩
          case measure => simp [intOf]; omega
      · have b1 : decide (0 < k) = true := by simpa using hk
        have b2 : decide ((0 : Int) < (s.size : Int)) = false := decide_eq_false (by omega)
        go_wp2
        go_ret
        exact ⟨s, by omega, rfl, hcr.more (by omega), hgr⟩
    · have b1 : decide (0 < k) = false := by simpa using hk
      go_wp2
      go_ret
      exact ⟨s, by omega, rfl, hcr.more (by omega), hgr⟩

end Go.Proofs.Ytogkpkcpcakakaa

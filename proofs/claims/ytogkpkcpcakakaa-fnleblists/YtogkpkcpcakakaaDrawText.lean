/-
  Contracts of the reference's drawn texts.
-/
import Derived.Test.YtogkpkcpcakakaaDraw
import Derived.Test.YtogkpkcpcakakaaPutS
namespace Go.Proofs.Ytogkpkcpcakakaa
open Go.RowKit Leb

/-- Block b holds just these texts, each of at most some bytes. -/
def Texts (w : World) (b : Nat) (t : TypeId) (m hi : Nat) : Prop :=
  ∃ ss : List ByteArray, w.heap[b]? = some (.cells (ss.map Value.string).toArray t (0, 0)) ∧ ss.length = m ∧ ∀ s ∈ ss, s.size ≤ hi
theorem Texts.lit {w : World} {t : TypeId} {cs : Array Value} {m hi : Nat} (ss : List ByteArray) (h : cs = (ss.map Value.string).toArray) (hm : ss.length = m) (hh : ∀ s ∈ ss, s.size ≤ hi) : Texts (w.alloc (.cells cs t)) w.heap.size t m hi :=
  ⟨ss, by rw [h]; exact heap_alloc_new _ _, hm, hh⟩
theorem Texts.lt {w : World} {b : Nat} {t : TypeId} {m hi : Nat} (h : Texts w b t m hi) : b < w.heap.size := by
  obtain ⟨ss, h1, _⟩ := h
  exact (Array.getElem?_eq_some_iff.1 h1).1
theorem Texts.cell {w : World} {b : Nat} {t : TypeId} {m hi j : Nat} (h : Texts w b t m hi) (hj : j < m) : ∃ s : ByteArray, s.size ≤ hi ∧ w.cell? ⟨b, j, none⟩ = some (.string s) := by
  obtain ⟨ss, h1, h2, h3⟩ := h
  have hj' : j < ss.length := by omega
  refine ⟨ss[j], h3 _ (List.getElem_mem hj'), ?_⟩
  rw [cell_of_row w b j _ t (0, 0) h1]
  simp [hj']

/-- What a cursor's function gives: a text of at most some bytes. -/
def GivesText (hi : Nat) (g : Nat) (A : Option Addr) (n c T : Nat) (w : World) (e : Ending) (w' : World) : Prop :=
  ∃ s : ByteArray, s.size ≤ hi ∧ e = .returned (.string s) ∧ Cur w' g A n c T ∧ w.grownBy w' (some g)

set_option maxHeartbeats 400000 in
set_option maxRecDepth 100000 in
theorem of_any (g : Nat) (A : Option Addr) (n c T : Nat) (w : World) (hc : Cur w g A n c T) (hT : T ≤ 900000) (b m hi : Nat) (hr : Texts w b 9 m hi) (hb : g < b) (h1 : 1 ≤ m) (h2 : m ≤ 65536) :
    Calls Try.prog 56 #[.pointer (some ⟨g, 0, none⟩), .slice (some ⟨b, 0, none⟩) m m] w (GivesText hi g A n c (T + 2) w) := by
  go_enter Try.func56, Try.ntmps56
  go_wp2_with fail
  refine (pick_any g A n c T m _ hc hT (by omega) (by omega)).mono ?_
  rintro e w1 ⟨x, hx0, hx1, rfl, hc1, hg1⟩
  obtain ⟨j, rfl⟩ := Int.eq_ofNat_of_zero_le hx0
  have hj : j < m := by omega
  obtain ⟨s, hs, hcell⟩ := hr.cell hj
  have hcell1 : w1.cell? ⟨b, j, none⟩ = some (.string s) := (World.cell?_of_block (a := ⟨b, j, none⟩) (hg1.block b hr.lt (fun e => by injection e with e; omega))).trans hcell
  clear hcell
  go_wp2
  go_ret
  exact ⟨s, hs, rfl, hc1, hg1⟩

theorem texts_ahead (w : World) : Texts (w.alloc (.cells #[.string ⟨#[]⟩, .string ⟨#[]⟩, .string ⟨#[97]⟩] 9)) w.heap.size 9 3 20 := Texts.lit [⟨#[]⟩, ⟨#[]⟩, ⟨#[97]⟩] rfl rfl (by decide)
theorem texts_behind (w : World) : Texts (w.alloc (.cells #[.string ⟨#[]⟩, .string ⟨#[122]⟩, .string ⟨#[1]⟩] 9)) w.heap.size 9 3 20 := Texts.lit [⟨#[]⟩, ⟨#[122]⟩, ⟨#[1]⟩] rfl rfl (by decide)
theorem texts_odd (w : World) : Texts (w.alloc (.cells #[.string ⟨#[]⟩, .string ⟨#[128]⟩, .string ⟨#[128, 0]⟩, .string ⟨#[255, 127]⟩, .string ⟨#[255, 255, 127]⟩, .string ⟨#[128, 128, 128, 128, 128, 128, 128, 128, 128, 1]⟩, .string ⟨#[128, 128, 128, 128, 128, 128, 128, 128, 128, 2]⟩, .string ⟨#[128, 128, 128, 128, 128, 128, 128, 128, 128, 127]⟩, .string ⟨#[128, 128, 128, 128, 128, 128, 128, 128, 128, 128, 1]⟩, .string ⟨#[255, 255, 255, 255, 255, 255, 255, 255, 255, 0]⟩, .string ⟨#[192, 127]⟩, .string ⟨#[191, 0]⟩] 9)) w.heap.size 9 12 20 :=
  Texts.lit [⟨#[]⟩, ⟨#[128]⟩, ⟨#[128, 0]⟩, ⟨#[255, 127]⟩, ⟨#[255, 255, 127]⟩, ⟨#[128, 128, 128, 128, 128, 128, 128, 128, 128, 1]⟩, ⟨#[128, 128, 128, 128, 128, 128, 128, 128, 128, 2]⟩, ⟨#[128, 128, 128, 128, 128, 128, 128, 128, 128, 127]⟩, ⟨#[128, 128, 128, 128, 128, 128, 128, 128, 128, 128, 1]⟩, ⟨#[255, 255, 255, 255, 255, 255, 255, 255, 255, 0]⟩, ⟨#[192, 127]⟩, ⟨#[191, 0]⟩] rfl rfl (by decide)

theorem grown_below {a w w' : World} {g : Nat} (h : a.grownBy w (some g)) (hb : Below w.heap.size w w') : a.grownBy w' (some g) :=
  ⟨hb.os.trans h.os, hb.tape.trans h.tape, hb.output.trans h.output, Nat.le_trans h.size hb.size, fun i hi hne => (hb.block i (Nat.lt_of_lt_of_le hi h.size)).trans (h.block i hi hne)⟩

set_option maxHeartbeats 1000000 in
set_option maxRecDepth 100000 in
theorem lebText_any (g : Nat) (A : Option Addr) (n c T : Nat) (w : World) (hc : Cur w g A n c T) (hT : T ≤ 700000) :
    Calls Try.prog 49 #[.pointer (some ⟨g, 0, none⟩)] w (GivesText 60 g A n c (T + 40) w) := by
  go_enter Try.func49, Try.ntmps49
  go_wp2_with fail
  refine (sint_any g A n c T _ hc (by omega)).mono ?_
  rintro e w1 ⟨x, hx0, hx1, rfl, hc1, hg1⟩
  have hl := putS_length_i64 hx0 hx1
  have HL := put hl
  go_wp2_with fail
  refine (specPutS_any x _ hx0 hx1 HL).mono ?_
  rintro e w2 ⟨rfl, hb2⟩
  have hs2 : (strOfNums (putS x)).size ≤ 20 := by rw [strOfNums_size]; omega
  have hc2 := hc1.below hb2 hc1.lt
  have hg2 := grown_below hg1 hb2
  generalize strOfNums (putS x) = s at *
  clear hl HL hc1 hg1 hb2 hc
  go_wp2_with fail
  refine (one_any g A n c _ 2 _ hc2 (by omega) (by omega) (by omega)).mono ?_
  rintro e w3 ⟨b, rfl, hc3, hg3⟩
  have hg13 := grownBy_trans hg2 hg3
  clear hg2 hg3 hc2
  cases b
  case' false =>
    have hc5 : Cur w3 g A n c (T + 24) := hc3.more (by omega)
    have hg5 := hg13
    have hs5 := hs2
    clear hc3 hg13 hs2
  case' true =>
    go_wp2_with fail
    refine (u64_any g A n c _ _ hc3 (by omega)).mono ?_
    rintro e w4 ⟨y, hy0, hy1, rfl, hc4, hg4⟩
    obtain ⟨m, rfl⟩ := Int.eq_ofNat_of_zero_le hy0
    go_wp2_with fail
    refine (specPutU_any m _ hy1).mono ?_
    rintro e w5 ⟨rfl, hb5⟩
    have hs5 : (strOfNums (putU m)).size ≤ 20 := by have := putU_length_u64 (n := m) (by omega); rw [strOfNums_size]; omega
    have hc5 : Cur w5 g A n c (T + 24) := (hc4.below hb5 hc4.lt).more (by omega)
    have hg5 := grown_below (grownBy_trans hg13 hg4) hb5
    generalize strOfNums (putU m) = s5 at *
    clear hc4 hg4 hb5 hc3 hg13 hs2
  all_goals
    go_wp2_with fail
    refine (one_any g A n c _ 3 _ hc5 (by omega) (by omega) (by omega)).mono ?_
    rintro e w6 ⟨b, rfl, hc6, hg6⟩
    have hg16 := grownBy_trans hg5 hg6
    clear hg5 hg6 hc5
    cases b
    case' false =>
      have hc7 : Cur w6 g A n c (T + 30) := hc6.more (by omega)
      have hg7 := hg16
      have hs7 := hs5
      clear hc6 hg16 hs5
    case' true =>
      go_wp2_with fail
      refine (of_any g A n c _ _ (hc6.alloc _) (by omega) w6.heap.size 12 20 (texts_odd w6) hc6.lt (by omega) (by omega)).mono ?_
      rintro e w7 ⟨s7, hs7, rfl, hc7', hg7'⟩
      have hc7 : Cur w7 g A n c (T + 30) := hc7'.more (by omega)
      have hg7 := grownBy_trans hg16 (grownBy_trans (World.grownBy_alloc _ _ _) hg7')
      clear hc7' hg7' hc6 hg16 hs5
    all_goals
      go_wp2_with fail
      refine (of_any g A n c _ _ (hc7.alloc _) (by omega) _ 3 20 (texts_ahead _) hc7.lt (by omega) (by omega)).mono ?_
      rintro e w8 ⟨s8, hs8, rfl, hc8, hg8⟩
      have hg18 := grownBy_trans hg7 (grownBy_trans (World.grownBy_alloc _ _ _) hg8)
      clear hc7 hg7 hg8
      go_wp2_with fail
      refine (of_any g A n c _ _ (hc8.alloc _) (by omega) _ 3 20 (texts_behind _) hc8.lt (by omega) (by omega)).mono ?_
      rintro e w9 ⟨s9, hs9, rfl, hc9, hg9⟩
      have hg19 := grownBy_trans hg18 (grownBy_trans (World.grownBy_alloc _ _ _) hg9)
      clear hc8 hg18 hg9
      go_wp2
      go_ret
      exact ⟨_, by simp only [ByteArray.size_append]; omega, rfl, hc9.more (by omega), hg19⟩

/-- A drawn text and a place. -/
def DrawnText (hi : Nat) (lo' hi' : Int) (w : World) (e : Ending) (w' : World) : Prop :=
  ∃ (s : ByteArray) (a : Int), s.size ≤ hi ∧ lo' ≤ a ∧ a ≤ hi' ∧ e = .returned (.tuple #[.string s, .int .i64 a]) ∧ Below w.heap.size w w'

set_option maxHeartbeats 400000 in
set_option maxRecDepth 100000 in
theorem drawReadU_any (A : Option Addr) (n c : Nat) (bs : List Int) (w : World) (hr : Reads w w.heap.size .u8 A n bs) (hbs : Hid (∀ x ∈ bs, 0 ≤ x ∧ x ≤ 255)) (hn : n ≤ 1048576) :
    Calls Try.prog 24 #[.slice A n c] w (DrawnText 60 (-1) 1 w) := by
  have hcur := put (Cur.new (c := c) hr hbs hn 0)
  go_enter Try.func24, Try.ntmps24
  go_wp2_with fail
  refine (lebText_any w.heap.size A n c 0 _ hcur.out (by omega)).mono ?_
  rintro e w1 ⟨s, hs, rfl, hc1, hg1⟩
  go_wp2_with fail
  refine (pick_any w.heap.size A n c _ 2 _ hc1 (by omega) (by omega) (by omega)).mono ?_
  rintro e w2 ⟨x, hx0, hx1, rfl, hc2, hg2⟩
  go_wp2_with fail
  refine (pick_any w.heap.size A n c _ 20 _ hc2 (by omega) (by omega) (by omega)).mono ?_
  rintro e w3 ⟨y, hy0, hy1, rfl, hc3, hg3⟩
  go_wp2
  go_ret2
  exact ⟨s, x - y / 19, hs, by omega, by omega, rfl, below_of_cur (grownBy_trans hg1 (grownBy_trans hg2 hg3))⟩

end Go.Proofs.Ytogkpkcpcakakaa

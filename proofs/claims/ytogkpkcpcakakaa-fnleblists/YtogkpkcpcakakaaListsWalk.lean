/-
  The walk of the law FnLebLists.
-/
import Derived.Test.YtogkpkcpcakakaaDrawList
import Derived.Test.YtogkpkcpcakakaaLebWalk
namespace Go.Proofs.Ytogkpkcpcakakaa
open Go.RowKit Leb

theorem ans_size (xs : List Int) : (strOfNums (listAns xs).1).size ≤ 2000 := by
  rw [strOfNums_size]
  unfold listAns
  split
  · rename_i h; exact h.2
  · simp

set_option maxHeartbeats 400000 in
set_option maxRecDepth 100000 in
theorem drawReadListU_any (A : Option Addr) (n c : Nat) (bs : List Int) (w : World) (hr : Reads w w.heap.size .u8 A n bs) (hbs : Hid (∀ x ∈ bs, 0 ≤ x ∧ x ≤ 255)) (hn : n ≤ 1048576) :
    Calls Try.prog 32 #[.slice A n c] w (DrawnText 2010 0 1 w) := by
  have hcur := Cur.new (c := c) hr hbs hn 0
  have hb0 : Below w.heap.size w (w.alloc (.cells #[.slice A n c, .int .i64 0, .int .u64 0] 52)) := (Below.refl _ _).alloc (Nat.le_refl _) _
  have HC := put hcur
  clear hcur
  go_enter Try.func32, Try.ntmps32
  go_wp2_with fail
  refine (drawListU_any A n c bs _ ((hr.below hb0).more (by simp)) hbs hn).mono ?_
  rintro e w1 ⟨A1, n1, c1, xs, rfl, hn1, hr1, hf1, hb1⟩
  have hc1 := HC.out.below hb1 HC.out.lt
  have HF := put hf1
  clear hf1
  have hs := ans_size xs
  go_wp2_with fail
  refine (specListU_is A1 n1 c1 xs _ hr1 (by omega) HF.out).mono ?_
  rintro e w2 ⟨rfl, hb2⟩
  have hc2 := hc1.below hb2 hc1.lt
  have hb12 : Below w.heap.size w w2 := hb0.trans ((hb1.trans (hb2.mono hb1.size)).mono (by simp))
  generalize strOfNums (listAns xs).1 = s at *
  generalize (listAns xs).2 = ok at *
  clear hc1 hb1 hb2 hr1 HC HF hb0
  go_wp2_with fail
  refine (one_any w.heap.size A n c 0 3 _ hc2 (by omega) (by omega) (by omega)).mono ?_
  rintro e w3 ⟨b, rfl, hc3, hg3⟩
  cases b
  case' false =>
    have hc4 : Cur w3 w.heap.size A n c 100 := hc3.more (by omega)
    have hb4 : Below w.heap.size w w3 := hb12.grown hg3 hb12.size (fun k hk => by injection hk with hk; omega)
    have hs4 : s.size ≤ 2010 := by omega
    clear hc3 hg3 hb12 hs
  case' true =>
    go_wp2_with fail
    refine (spoilt_any w.heap.size A n c _ s ⟨#[0, 1, 128]⟩ _ hc3 (by omega) hs (by decide) (by decide)).mono ?_
    rintro e w4 ⟨s4, hs4, rfl, hc4', hg4⟩
    have hc4 : Cur w4 w.heap.size A n c 100 := hc4'.more (by omega)
    have hb4 : Below w.heap.size w w4 := hb12.grown (grownBy_trans hg3 hg4) hb12.size (fun k hk => by injection hk with hk; omega)
    clear hc3 hg3 hb12 hs hc4' hg4
  all_goals
    go_wp2_with fail
    refine (pick_any w.heap.size A n c _ 9 _ hc4 (by omega) (by omega) (by omega)).mono ?_
    rintro e w5 ⟨x, hx0, hx1, rfl, hc5, hg5⟩
    go_wp2
    go_ret2
    exact ⟨_, x / 8, hs4, by omega, by omega, rfl, hb4.grown hg5 hb4.size (fun k hk => by injection hk with hk; omega)⟩

/-- The numbers that stand behind some bytes are read back. -/
theorem readMany_back : ∀ (xs : List Int) (pre : List Int) (s : ByteArray), Fits xs → (∀ x ∈ pre, 0 ≤ x ∧ x ≤ 255) → s = strOfNums (pre ++ allU xs) → readMany s xs.length pre.length = some (xs, pre.length + (allU xs).length)
  | [], pre, s, _, _, _ => by simp [readMany, allU]
  | x :: r, pre, s, hf, hpre, hs => by
    have hx := hf x List.mem_cons_self
    obtain ⟨m, rfl⟩ := Int.eq_ofNat_of_zero_le hx.1
    have hm : m < 18446744073709551616 := by omega
    have ha : allU ((m : Int) :: r) = putU m ++ allU r := by simp [allU]
    have hs1 : s = strOfNums pre ++ strOfNums (putU m) ++ strOfNums (allU r) := by rw [hs, ha, ← List.append_assoc, strOfNums_append, strOfNums_append]
    have hps : (strOfNums pre).size = pre.length := strOfNums_size pre
    have hseg : seg s pre.length (pre.length + (putU m).length) = putU m := by
      rw [hs1, ← hps]
      exact seg_mid _ _ _ (putU_range m)
    have hle : pre.length + (putU m).length ≤ s.size := by rw [hs, strOfNums_size, ha, List.length_append, List.length_append]; omega
    have hback := readU_back hm hseg hle
    have hrec := readMany_back r (pre ++ putU m) s (fun y hy => hf y (List.mem_cons_of_mem _ hy)) (fun y hy => by
      rcases List.mem_append.1 hy with hy | hy
      · exact hpre y hy
      · exact putU_range m y hy) (by rw [hs, ha, List.append_assoc])
    rw [List.length_append] at hrec
    rw [List.length_cons, readMany_step (by rw [hback]) (by rw [hback]) (by rw [hback]), hrec, ha, List.length_append]
    simp [Nat.add_assoc]

theorem list_back {xs : List Int} (hf : Fits xs) (h1 : xs.length ≤ 200) (h2 : (listU xs).length ≤ 2000) : listAt (strOfNums (listU xs)) 0 = some (xs, (listU xs).length) := by
  have hsz : (strOfNums (listU xs)).size = (listU xs).length := strOfNums_size _
  have hseg : seg (strOfNums (listU xs)) 0 (0 + (putU xs.length).length) = putU xs.length := by
    have := seg_mid ByteArray.empty (strOfNums (allU xs)) (putU xs.length) (putU_range _)
    rw [show ByteArray.empty ++ strOfNums (putU xs.length) = strOfNums (putU xs.length) from ByteArray.empty_append, ← strOfNums_append] at this
    exact this
  have hback := readU_back (s := strOfNums (listU xs)) (a := 0) (n := xs.length) (by omega) hseg (by rw [hsz, listU, List.length_append]; omega)
  unfold listAt
  rw [if_pos ⟨by omega, by omega, by omega⟩]
  unfold readList
  rw [show (0 : Int).toNat = 0 from rfl, hback]
  have hrec := readMany_back xs (putU xs.length) (strOfNums (listU xs)) hf (putU_range _) rfl
  rw [if_pos ⟨rfl, by show ((xs.length : Nat) : Int) ≤ 200; omega⟩]
  simp only [Int.toNat_natCast, Nat.zero_add]
  rw [hrec, listU, List.length_append]

theorem listAns_yes {xs r : List Int} (h : listAns xs = (r, true)) : xs.length ≤ 200 ∧ (listU xs).length ≤ 2000 ∧ r = listU xs := by
  unfold listAns at h
  split at h
  · rename_i hc
    injection h with h1 _
    exact ⟨hc.1, hc.2, h1.symm⟩
  · injection h with _ h2
    cases h2

set_option maxHeartbeats 2000000 in
set_option maxRecDepth 100000 in
theorem lists_walk (A A' : Option Addr) (n n' c c' : Nat) (bs bs' : List Int) (w : World) (hr : Reads w w.heap.size .u8 A n bs) (hr' : Reads w w.heap.size .u8 A' n' bs') (hbs : Hid (∀ x ∈ bs, 0 ≤ x ∧ x ≤ 255)) (hbs' : Hid (∀ x ∈ bs', 0 ≤ x ∧ x ≤ 255)) (hn : n + n' ≤ 1048576) :
    Calls Try.prog 4 #[.slice A n c, .slice A' n' c'] w fun e w' => e = .returned (.bool true) ∧ Below w.heap.size w w' := by
  go_enter Try.func4, Try.ntmps4
  go_wp2_with fail
  refine (big_no A A' n n' c c' _ hn).mono ?_
  rintro e w1 ⟨rfl, rfl⟩
  go_wp2_with fail
  refine (drawListU_any A n c bs _ hr hbs (by omega)).mono ?_
  rintro e w1 ⟨A1, n1, c1, xs, rfl, hn1, hr1, hf1, hb1⟩
  have HF := put hf1
  clear hf1
  obtain ⟨r, b, hans⟩ : ∃ r b, listAns xs = (r, b) := ⟨_, _, rfl⟩
  have HA := put hans
  clear hans
  go_wp2_with fail
  refine (listU_is A1 n1 c1 xs _ hr1 (by omega) HF.out).mono ?_
  rintro e w2 ⟨rfl, hb2⟩
  rw [HA.out]
  have hr2 := (hr1.below hb2).more hb2.size
  have hd2 : Below w.heap.size w w2 := hb1.trans (hb2.mono hb1.size)
  clear hr1 hb1 hb2
  go_wp2_with fail
  refine (specListU_is A1 n1 c1 xs _ hr2 (by omega) HF.out).mono ?_
  rintro e w3 ⟨rfl, hb3⟩
  rw [HA.out]
  have hr3 := (hr2.below hb3).more hb3.size
  have hd3 : Below w.heap.size w w3 := hd2.trans (hb3.mono hd2.size)
  clear hr2 hd2 hb3
  cases b
  · have hd5 := hd3
    clear hd3
    go_wp2_with fail
    refine (drawReadListU_any A' n' c' bs' _ ((hr'.below hd5).more hd5.size) hbs' (by omega)).mono ?_
    rintro e w6 ⟨t, a, ht, ha0, ha1, rfl, hb6⟩
    have hd6 : Below w.heap.size w w6 := hd5.trans (hb6.mono hd5.size)
    have ht2 : t.size ≤ 9223372036854775807 := by omega
    clear hd5 hb6
    match hp : listAt t a with
    | none =>
      have HP := put hp; clear hp
      go_wp2_with fail
      refine (readList_is t a _ ht2).mono ?_
      rintro e w7 ⟨_, hn7, hb7⟩
      obtain rfl := hn7 HP.out
      have hd7 : Below w.heap.size w w7 := hd6.trans (hb7.mono hd6.size)
      clear hn7 hb7 hd6
      go_wp2_with fail
      refine (specReadList_is t a _ ht2).mono ?_
      rintro e w8 ⟨_, hn8, hb8⟩
      obtain rfl := hn8 HP.out
      have hd8 : Below w.heap.size w w8 := hd7.trans (hb8.mono hd7.size)
      clear hn8 hb8 hd7
      go_wp2_with fail
      refine (sameU_same none none 0 0 0 [] _ ⟨rfl, fun h => absurd h (by omega)⟩ ⟨rfl, fun h => absurd h (by omega)⟩ (by omega)).mono ?_
      rintro e w9 ⟨rfl, q9, rfl⟩
      go_wp2
      go_ret
      exact ⟨rfl, ⟨hd8.os, hd8.tape, hd8.output, hd8.size, hd8.block⟩⟩
    | some (l, p) =>
      have hl : l.length ≤ 1048576 := by have := listAt_length hp; omega
      have HP := put hp; clear hp
      go_wp2_with fail
      refine (readList_is t a _ ht2).mono ?_
      rintro e w7 ⟨hs7, _, hb7⟩
      obtain ⟨rfl, hroom7⟩ := hs7 l p HP.out
      have hd7 : Below w.heap.size w w7 := hd6.trans (hb7.mono hd6.size)
      clear hs7 hb7 hd6
      go_wp2_with fail
      refine (specReadList_is t a _ ht2).mono ?_
      rintro e w8 ⟨hs8, _, hb8⟩
      obtain ⟨v, rfl, hnums⟩ := hs8 l p HP.out
      obtain ⟨A8, c8, rfl, hrd8⟩ := hnums.reads
      have hroom8 := hroom7.below hb8 hroom7.lt
      have hd8 : Below w.heap.size w w8 := hd7.trans (hb8.mono hd7.size)
      clear hs8 hb8 hd7 hnums hroom7
      go_wp2_with fail
      refine (sameU_same _ _ _ _ _ l _ (hroom8.reads rfl) hrd8 hl).mono ?_
      rintro e w9 ⟨rfl, q9, rfl⟩
      go_wp2
      go_ret
      exact ⟨rfl, ⟨hd8.os, hd8.tape, hd8.output, hd8.size, hd8.block⟩⟩
  · have hyes := listAns_yes HA.out
    have hback := list_back HF.out hyes.1 hyes.2.1
    rw [← hyes.2.2] at hback
    have hsz : (strOfNums r).size ≤ 2000 := by rw [strOfNums_size, hyes.2.2]; exact hyes.2.1
    have hrl : r.length = (strOfNums r).size := (strOfNums_size r).symm
    rw [hrl] at hback
    obtain ⟨s, hs⟩ : ∃ s, strOfNums r = s := ⟨_, rfl⟩
    rw [hs] at hback hsz
    have HS := put hs
    have HB := put hback
    clear hs hback hrl hyes
    rw [HS.out]
    go_wp2_with fail
    refine (readList_is s 0 _ (by omega)).mono ?_
    rintro e w4 ⟨hs4, _, hb4⟩
    obtain ⟨rfl, hroom4⟩ := hs4 xs s.size HB.out
    have hr4 := (hr3.below hb4).more hb4.size
    have hd4 : Below w.heap.size w w4 := hd3.trans (hb4.mono hd3.size)
    have hx1 := put hr3.1
    clear hs4 hr3 hd3 hb4
    go_wp2_with fail
    rw [hx1.out]
    have hroom4' : Room w4 w3.heap.size 24 n1 .u64 xs := by rw [hx1.out] at hroom4; exact hroom4
    refine (sameU_same _ _ _ _ _ xs _ (hroom4'.reads hx1.out) hr4 (by omega)).mono ?_
    rintro e w5 ⟨rfl, q5, rfl⟩
    have hd5 : Below w.heap.size w (w4.drewN q5) := ⟨hd4.os, hd4.tape, hd4.output, hd4.size, hd4.block⟩
    generalize w4.drewN q5 = w5 at *
    clear hd4 hr4 hroom4 hroom4'
    go_wp2_with fail
    refine (drawReadListU_any A' n' c' bs' _ ((hr'.below hd5).more hd5.size) hbs' (by omega)).mono ?_
    rintro e w6 ⟨t, a, ht, ha0, ha1, rfl, hb6⟩
    have hd6 : Below w.heap.size w w6 := hd5.trans (hb6.mono hd5.size)
    have ht2 : t.size ≤ 9223372036854775807 := by omega
    clear hd5 hb6
    match hp : listAt t a with
    | none =>
      have HP := put hp; clear hp
      go_wp2_with fail
      refine (readList_is t a _ ht2).mono ?_
      rintro e w7 ⟨_, hn7, hb7⟩
      obtain rfl := hn7 HP.out
      have hd7 : Below w.heap.size w w7 := hd6.trans (hb7.mono hd6.size)
      clear hn7 hb7 hd6
      go_wp2_with fail
      refine (specReadList_is t a _ ht2).mono ?_
      rintro e w8 ⟨_, hn8, hb8⟩
      obtain rfl := hn8 HP.out
      have hd8 : Below w.heap.size w w8 := hd7.trans (hb8.mono hd7.size)
      clear hn8 hb8 hd7
      go_wp2_with fail
      refine (sameU_same none none 0 0 0 [] _ ⟨rfl, fun h => absurd h (by omega)⟩ ⟨rfl, fun h => absurd h (by omega)⟩ (by omega)).mono ?_
      rintro e w9 ⟨rfl, q9, rfl⟩
      go_wp2
      go_ret
      exact ⟨rfl, ⟨hd8.os, hd8.tape, hd8.output, hd8.size, hd8.block⟩⟩
    | some (l, p) =>
      have hl : l.length ≤ 1048576 := by have := listAt_length hp; omega
      have HP := put hp; clear hp
      go_wp2_with fail
      refine (readList_is t a _ ht2).mono ?_
      rintro e w7 ⟨hs7, _, hb7⟩
      obtain ⟨rfl, hroom7⟩ := hs7 l p HP.out
      have hd7 : Below w.heap.size w w7 := hd6.trans (hb7.mono hd6.size)
      clear hs7 hb7 hd6
      go_wp2_with fail
      refine (specReadList_is t a _ ht2).mono ?_
      rintro e w8 ⟨hs8, _, hb8⟩
      obtain ⟨v, rfl, hnums⟩ := hs8 l p HP.out
      obtain ⟨A8, c8, rfl, hrd8⟩ := hnums.reads
      have hroom8 := hroom7.below hb8 hroom7.lt
      have hd8 : Below w.heap.size w w8 := hd7.trans (hb8.mono hd7.size)
      clear hs8 hb8 hd7 hnums hroom7
      go_wp2_with fail
      refine (sameU_same _ _ _ _ _ l _ (hroom8.reads rfl) hrd8 hl).mono ?_
      rintro e w9 ⟨rfl, q9, rfl⟩
      go_wp2
      go_ret
      exact ⟨rfl, ⟨hd8.os, hd8.tape, hd8.output, hd8.size, hd8.block⟩⟩

end Go.Proofs.Ytogkpkcpcakakaa

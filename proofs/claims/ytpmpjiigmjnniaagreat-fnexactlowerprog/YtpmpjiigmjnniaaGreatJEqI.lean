/-
  Texts joined: EqI Mki.
-/
import Derived.Test.YtpmpjiigmjnniaaGreatJCoEq
import Derived.Test.YtpmpjiigmjnniaaGreatJKs
import Derived.Test.YtpmpjiigmjnniaaGreatJLpi
/-
  The laws' comparing of images: one of the same codes is the same; a row of codes of a call's own as an image that is read.
-/
namespace Go.Proofs.YtpmpjiigmjnniaaGreat
open Go.RowKit Exs


set_option maxHeartbeats 1000000 in
set_option maxRecDepth 100000 in
theorem eqCodes_same (A A' : Option Addr) (n c c' : Nat) (ss : List Cd) (w : World) (hr : ReadsC w w.heap.size A n ss) (hr' : ReadsC w w.heap.size A' n ss) (hn : n ≤ 1048576) (hs : ∀ x ∈ ss, SmallC x) :
    Calls Tryz.prog 38 #[.slice A n c, .slice A' n c'] w fun e w' => e = .returned (.bool true) ∧ Below w.heap.size w w' := by
  go_enter Tryz.func38, Tryz.ntmps38
  go_wp2
  go_loopw [5] (fun i wr => ∃ k : Nat, k ≤ n ∧ i = .int .i64 k ∧ Below w.heap.size w wr) (fun i _ => n - (intOf i).toNat)
  case atStart => exact ⟨0, Nat.zero_le _, rfl, Below.refl _ _⟩
  case round =>
    obtain ⟨k, hk, rfl, hbel⟩ := hrel
    by_cases hlt : k < n
    · obtain ⟨b, off, s, A1, n1, c1, A2, n2, c2, A3, n3, c3, rfl, hb, g0, g1, g2, g3, g4, r1, r2, r3, hx⟩ := (hr.below hbel).at_ hlt
      obtain ⟨b', off', s', B1, m1, d1, B2, m2, d2, B3, m3, d3, rfl, hb', h0, h1, h2, h3, h4, q1, q2, q3, hx'⟩ := (hr'.below hbel).at_ hlt
      obtain rfl : s = s' := by have := hx.out; rw [hx'.out] at this; injection this with this; exact this.symm
      have u0 := cell_regrown g0
      have v0 := cell_regrown h0
      have u1 := cell_regrown g1
      have v1 := cell_regrown h1
      have u2 := cell_regrown g2
      have v2 := cell_regrown h2
      have u3 := cell_regrown g3
      have v3 := cell_regrown h3
      have u4 := cell_regrown g4
      have v4 := cell_regrown h4
      obtain rfl : n1 = m1 := by have := r1.1; have := q1.1; omega
      obtain rfl : n2 = m2 := by have := r2.1; have := q2.1; omega
      obtain rfl : n3 = m3 := by have := r3.1; have := q3.1; omega
      have hcon := fun W (hW : Below wr.heap.size wr W) => eqCode_same s A1 n1 c1 A2 n2 c2 A3 n3 c3 B1 d1 B2 d2 B3 d3 W ((IsCd.more ⟨r1, r2, r3⟩ hbel.size).now hW) ((IsCd.more ⟨q1, q2, q3⟩ hbel.size).now hW) (hs _ (mem_of_at hx.out))
      unfold cdV at hcon
      clear r1 r2 r3 q1 q2 q3
      go_wp2
      refine wp_region_quiet_below (by kernel_rfl) (by kernel_rfl) ?_
      repeat (first | go_big_quiet_step ((go_at_call 9; exact Calls.regrown_of (hcon _ (below_regrown wr _ _)))) | quiet_step (fail))
      refine wpQuiet_nil ?_
      intro _ hw'
      obtain ⟨⟨dq, osq⟩, hw''⟩ := hw'
      subst hw''
      go_wp2
      go_roundw
      case rel => exact ⟨k + 1, by omega, by go_num, hbel.trans ((below_regrown wr dq osq).mono hbel.size)⟩
      case measure => simp [intOf]; omega
    · go_wp2
      go_ret
      exact ⟨rfl, hbel⟩

set_option maxHeartbeats 1000000 in
theorem eqImage_same (A A' : Option Addr) (n c c' : Nat) (cs : List Cd) (w : World) (hr : ReadsC w w.heap.size A n cs) (hr' : ReadsC w w.heap.size A' n cs) (hs : SmallI cs) :
    Calls Tryz.prog 16 #[.agg #[.slice A n c], .agg #[.slice A' n c']] w fun e w' => e = .returned (.bool true) ∧ Below w.heap.size w w' := by
  obtain ⟨l1, l2⟩ := hs
  rw [hr.1] at l1
  have hb0 : Below w.heap.size w ((w.alloc (.cells #[.slice A n c] 44)).alloc (.cells #[.slice A' n c'] 44)) := ((Below.refl _ _).alloc (Nat.le_refl _) _).alloc (by simp) _
  go_enter Tryz.func16, Tryz.ntmps16
  go_wp2_with fail
  refine (eqCodes_same A A' n c c' cs _ (hr.now hb0) (hr'.now hb0) l1 l2).mono ?_
  rintro e W1 ⟨rfl, hc⟩
  go_wp2
  go_ret
  exact ⟨rfl, hb0.trans (hc.mono hb0.size)⟩

end Go.Proofs.YtpmpjiigmjnniaaGreat

/-
  The laws' marks on an image of a call's own: the codes that the marks make.
-/
namespace Go.Proofs.YtpmpjiigmjnniaaGreat
open Go.RowKit Exs

def mkT (a : Int) (n : Nat) : List Token := (List.range n).map fun (j : Nat) => (a + 2 * (j : Int), a + 2 * (j : Int) + 1)
def mkR (a : Int) (n : Nat) : List Row3 := (List.range n).map fun (j : Nat) => (a + 3 * (j : Int), a + 3 * (j : Int) + 1, a + 3 * (j : Int) + 1 + 1)
theorem mkT_length (a : Int) (n : Nat) : (mkT a n).length = n := by simp [mkT]
theorem mkR_length (a : Int) (n : Nat) : (mkR a n).length = n := by simp [mkR]
theorem flat_mkT (a : Int) : ∀ n, flat (mkT a n) = upf a (n * 2)
  | 0 => rfl
  | n + 1 => by
    rw [upf_2, ← flat_mkT a n]
    simp [mkT, List.range_succ, flat]
theorem flat3_mkR (a : Int) : ∀ n, flat3 (mkR a n) = upf a (n * 3)
  | 0 => rfl
  | n + 1 => by
    rw [upf_3, ← flat3_mkR a n]
    have e : mkR a (n + 1) = mkR a n ++ [(a + 3 * (n : Int), a + 3 * (n : Int) + 1, a + 3 * (n : Int) + 1 + 1)] := by simp [mkR, List.range_succ]
    rw [e, flat3_snoc]
/-- What the marks make of a code. -/
def markC (C : Cd) (a : Int) : Cd := ⟨a, a + 1, upf (a + 2) C.sites.length, mkT (a + 2 + C.sites.length) C.ins.length, mkR (a + 2 + C.sites.length + 2 * C.ins.length) C.rows.length⟩
def markK (k : KC) (a : Int) : KC := ⟨markC k.C a, k.vs, k.vi, k.vr⟩
def wid (k : KC) : Int := 2 + k.C.sites.length + 2 * k.C.ins.length + 3 * k.C.rows.length
def widS : List KC → Int
  | [] => 0
  | k :: r => wid k + widS r
def markS : List KC → Int → List KC
  | [], _ => []
  | k :: r, a => markK k a :: markS r (a + wid k)
theorem wid_pos (k : KC) : 0 ≤ wid k := by unfold wid; omega
theorem widS_pos : ∀ ks : List KC, 0 ≤ widS ks
  | [] => Int.le_refl _
  | k :: r => by have := wid_pos k; have := widS_pos r; simp only [widS]; omega
theorem widS_snoc (k : KC) : ∀ ks : List KC, widS (ks ++ [k]) = widS ks + wid k
  | [] => by simp [widS]
  | x :: r => by simp only [List.cons_append, widS, widS_snoc k r]; omega
theorem markS_snoc (k : KC) : ∀ (ks : List KC) (a : Int), markS (ks ++ [k]) a = markS ks a ++ [markK k (a + widS ks)]
  | [], a => by simp [markS, widS]
  | x :: r, a => by simp only [List.cons_append, markS, markS_snoc k r, widS, Int.add_assoc]
theorem markS_length : ∀ (ks : List KC) (a : Int), (markS ks a).length = ks.length
  | [], _ => rfl
  | k :: r, a => by simp [markS, markS_length r]

theorem Sep.split {W : World} {k : KC} {post : List KC} : ∀ {pre : List KC} {lo hi : Nat}, Sep W lo (pre ++ k :: post) hi → ∃ l m, Sep W lo pre l ∧ l ≤ m ∧ OwnCd W l k.C k.vs k.vi k.vr ∧ (∀ b, k.vs.ownBlock = some b ∨ k.vi.ownBlock = some b ∨ k.vr.ownBlock = some b → b < m) ∧ Sep W m post hi
  | [], lo, hi, ⟨m, h1, h2, h3, h4⟩ => ⟨lo, m, Nat.le_refl _, h1, h2, h3, h4⟩
  | _ :: _, _, _, ⟨m0, h1, h2, h3, h4⟩ => by
    obtain ⟨l, m, g1, g2, g3, g4, g5⟩ := Sep.split h4
    exact ⟨l, m, ⟨m0, h1, h2, h3, g1⟩, g2, g3, g4, g5⟩
theorem Sep.join {W : World} {k : KC} {post : List KC} {l m : Nat} (h2 : l ≤ m) (h3 : OwnCd W l k.C k.vs k.vi k.vr) (h4 : ∀ b, k.vs.ownBlock = some b ∨ k.vi.ownBlock = some b ∨ k.vr.ownBlock = some b → b < m) {hi : Nat} (h5 : Sep W m post hi) : ∀ {pre : List KC} {lo : Nat}, Sep W lo pre l → Sep W lo (pre ++ k :: post) hi
  | [], _, h => ⟨m, Nat.le_trans h h2, h3.under h, h4, h5⟩
  | _ :: _, _, ⟨m0, g1, g2, g3, g4⟩ => ⟨m0, g1, g2, g3, Sep.join h2 h3 h4 h5 g4⟩
theorem Sep.kept {W W' : World} : ∀ {ks : List KC} {lo hi : Nat}, Sep W lo ks hi → (∀ b, lo ≤ b → b < hi → b < W.heap.size → W'.heap[b]? = W.heap[b]?) → Sep W' lo ks hi
  | [], _, _, h, _ => h
  | _ :: _, _, _, ⟨m, h1, h2, h3, h4⟩, hk => ⟨m, h1, own_kept h2 fun b hb => hk b (own_blocks h2 b hb).1 (Nat.lt_of_lt_of_le (h3 b hb) h4.le) (own_blocks h2 b hb).2, h3, Sep.kept h4 fun b hb => hk b (Nat.le_trans h1 hb)⟩

/-- One cell of a row of codes is written. -/
theorem RoomK.write {W : World} {g n : Nat} {pre post : List KC} {k k' : KC} (h : RoomK W g n (pre ++ k :: post)) (i : Nat) (u : Value) (hi : i < 5) (hc : pre.length < n) (hk : ∀ (j : Nat) (x : Value), k'.cells[j]? = some x → (j = i ∧ x = u) ∨ (j ≠ i ∧ k.cells[j]? = some x)) :
    RoomK (W.setCell ⟨g, pre.length * 5 + i, none⟩ u) g n (pre ++ k' :: post) := by
  obtain ⟨cs, h1, h2, h3⟩ := h
  have hl := flatK_length pre
  have e1 : ∀ x : KC, flatK (pre ++ x :: post) = flatK pre ++ (x.cells ++ flatK post) := fun x => by simp [flatK]
  have l5 : ∀ x : KC, x.cells.length = 5 := fun x => rfl
  refine ⟨_, (show Keep W g cs 30 from h1).set (pre.length * 5 + i) u, by simpa using h2, fun j x hj => ?_⟩
  have h3' := h3 j
  rw [e1] at hj h3'
  by_cases a1 : j < pre.length * 5
  · rw [List.getElem?_append_left (by omega)] at hj h3'
    rw [Array.getElem?_setIfInBounds_ne (by omega)]
    exact h3' x hj
  · rw [List.getElem?_append_right (by omega), hl] at hj h3'
    by_cases a2 : j - pre.length * 5 < 5
    · rw [List.getElem?_append_left (by rw [l5]; omega)] at hj h3'
      rcases hk _ _ hj with ⟨b1, b2⟩ | ⟨b1, b2⟩
      · have e : j = pre.length * 5 + i := by omega
        subst e
        subst b2
        rw [Array.getElem?_setIfInBounds, if_pos rfl, if_pos (by omega)]
      · rw [Array.getElem?_setIfInBounds_ne (by omega)]
        exact h3' x b2
    · rw [List.getElem?_append_right (by rw [l5]; omega), l5] at hj h3'
      rw [Array.getElem?_setIfInBounds_ne (by omega)]
      exact h3' x hj
theorem RoomK.cell {W : World} {g n : Nat} {pre post : List KC} {k : KC} (h : RoomK W g n (pre ++ k :: post)) (i : Nat) (u : Value) (hk : k.cells[i]? = some u) : W.cell? ⟨g, pre.length * 5 + i, none⟩ = some u := by
  obtain ⟨cs, h1, h2, h3⟩ := h
  rw [cell_of_row W g _ cs 30 (0, 0) h1]
  refine h3 _ _ ?_
  have hl := flatK_length pre
  have hi : i < 5 := (List.getElem?_eq_some_iff.1 hk).1
  have e : flatK (pre ++ k :: post) = flatK pre ++ (k.cells ++ flatK post) := by simp [flatK]
  rw [e, List.getElem?_append_right (by omega), hl, Nat.add_sub_cancel_left, List.getElem?_append_left hi]
  exact hk
theorem RoomK.same {W W' : World} {e g n : Nat} {ks : List KC} (h : RoomK W g n ks) (hs : Same e W W') (ht : 30 ≠ e) : RoomK W' g n ks := by
  obtain ⟨cs, h1, h2⟩ := h
  exact ⟨cs, (hs g _ _ _ h1 ht).trans h1, h2⟩
theorem OwnCs.room {W : World} {B : Nat} {v : Value} {ks : List KC} (h : OwnCs W B v ks) : (v = .slice none 0 0 ∧ ks = []) ∨ ∃ g c, v = .slice (some ⟨g, 0, none⟩) ks.length c ∧ B ≤ g ∧ RoomK W g c ks ∧ ks.length ≤ c ∧ c ≤ maxLen := by
  rcases h.row.2 with ⟨rfl, h0⟩ | ⟨g, cap, cur, rfl, hB, hg, hnc, hm, hcs, htk⟩
  · exact .inl ⟨rfl, List.eq_nil_of_length_eq_zero h0⟩
  · refine .inr ⟨g, cap, rfl, hB, ⟨cur, hg, hcs, fun j u hj => ?_⟩, hnc, hm⟩
    have hlt := (List.getElem?_eq_some_iff.1 hj).1
    have hl := flatK_length ks
    rw [← htk, List.getElem?_take] at hj
    split at hj
    · simpa using hj
    · cases hj
theorem RoomK.rowC {W : World} {g c B : Nat} {ks : List KC} (h : RoomK W g c ks) (hn : ks.length ≤ c) (hB : B ≤ g) (hm : c ≤ maxLen) : W.ownsRow B 30 5 (.slice (some ⟨g, 0, none⟩) ks.length c) ks.length (flatK ks) := by
  obtain ⟨cs, h1, h2, h3⟩ := h
  have hl := flatK_length ks
  refine ⟨by rw [hl], .inr ⟨g, c, cs, rfl, hB, h1, hn, hm, h2, ?_⟩⟩
  apply List.ext_getElem?
  intro j
  by_cases hj : j < ks.length * 5
  · rw [List.getElem?_take, if_pos hj]
    obtain ⟨u, hu⟩ : ∃ u, (flatK ks)[j]? = some u := ⟨_, List.getElem?_eq_getElem (by omega)⟩
    have := h3 j u hu
    rw [hu]
    simpa using this
  · rw [List.getElem?_eq_none (by simp; omega), List.getElem?_eq_none (by omega)]

end Go.Proofs.YtpmpjiigmjnniaaGreat

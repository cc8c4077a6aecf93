/-
  Texts joined: Mkj Mkl.
-/
import Derived.Test.YtpmpjiigmjnniaaGreatJEqI
/-
  The laws' marks on a row of codes of a call's own: contract.
-/
namespace Go.Proofs.YtpmpjiigmjnniaaGreat
open Go.RowKit Exs

theorem num_of {w : World} {B : Nat} {v : Value} {n : Nat} {a b : Int} (h : RN w B 3 1 v n (upf a n)) (e : a = b) : Nums w B 3 .i64 v (upf b n) := by
  subst e
  show w.ownsRow B 3 1 v (upf a n).length _
  rw [upf_length]
  exact h
theorem ins_of {w : World} {B : Nat} {v : Value} {n : Nat} {a b : Int} (h : RN w B 83 2 v n (upf a (n * 2))) (e : a = b) : Inss w B v (mkT b n) := by
  subst e
  show w.ownsRow B 83 2 v (mkT a n).length _
  rw [mkT_length, flat_mkT]
  exact h
theorem rws_of {w : World} {B : Nat} {v : Value} {n : Nat} {a b : Int} (h : RN w B 85 3 v n (upf a (n * 3))) (e : a = b) : Rws w B v (mkR b n) := by
  subst e
  show w.ownsRow B 85 3 v (mkR a n).length _
  rw [mkR_length, flat3_mkR]
  exact h

theorem Sep.grown {W W' : World} {v : Value} (hg : W.grownBy W' v.ownBlock) {ks : List KC} {lo hi : Nat} (h : Sep W lo ks hi) (ho : ∀ b, v.ownBlock = some b → b < lo ∨ hi ≤ b) : Sep W' lo ks hi := h.kept fun b h1 h2 h3 => hg.block b h3 (fun e => by have := ho b e.symm; omega)
theorem RoomK.swap {W : World} {g n : Nat} {pre post : List KC} {x y : KC} (h : RoomK W g n (pre ++ x :: post)) (e : x.cells = y.cells) : RoomK W g n (pre ++ y :: post) := by
  have e1 : ∀ x : KC, flatK (pre ++ x :: post) = flatK pre ++ (x.cells ++ flatK post) := fun x => by simp [flatK]
  unfold RoomK at h ⊢
  rw [e1, e] at h
  rw [e1]
  exact h

set_option maxHeartbeats 4000000 in
set_option maxRecDepth 100000 in
theorem markCodes_own (v : Value) (ks : List KC) (B : Nat) (a : Int) (w : World) (h : OwnCs w B v ks) (hs : ∀ k ∈ ks, SmallC k.C) (hn : ks.length ≤ 1000) (ha0 : 0 ≤ a) (ha1 : a + widS ks ≤ 1000000000) :
    Calls Tryz.prog 39 #[v, .int .i64 a] w fun e w' => e = .returned (.int .i64 (a + widS ks)) ∧ OwnCs w' B v (markS ks a) ∧ Below B w w' ∧ ∀ g cs t, Keep w g cs t → t ≠ 3 → t ≠ 83 → t ≠ 85 → t ≠ 30 → Keep w' g cs t := by
  rcases h.room with ⟨rfl, rfl⟩ | ⟨g, c, rfl, hB, hroom, hl, hc⟩
  · have H : OwnCs w B (.slice none 0 0) (markS [] a) := h
    go_enter Tryz.func39, Tryz.ntmps39
    go_wp2
    refine wp_loop_rounds 1 ?_
    rw [rounds_succ]
    go_wp2
    go_ret
    exact ⟨by simp [widS], H, Below.refl _ _, fun _ _ _ h _ _ _ _ => h⟩
  · have HS := put hs
    have HA1 := put ha1
    have HC := put hc
    have hsep := h.sep
    obtain ⟨n, hnn⟩ : ∃ n, ks.length = n := ⟨_, rfl⟩
    have HN := put hnn
    have hBw : B ≤ w.heap.size := hsep.le
    rw [hnn] at hl hn ⊢
    clear h hs ha1 hc hnn
    go_enter Tryz.func39, Tryz.ntmps39
    go_wp2
    go_loopw [1, 5] (fun u i wr => ∃ j : Nat, j ≤ n ∧ i = .int .i64 j ∧ u = .int .i64 (a + widS (ks.take j)) ∧ RoomK wr g c (markS (ks.take j) a ++ ks.drop j) ∧ Sep wr B (markS (ks.take j) a ++ ks.drop j) w.heap.size ∧ Below B w wr ∧ ∀ g cs t, Keep w g cs t → t ≠ 3 → t ≠ 83 → t ≠ 85 → t ≠ 30 → Keep wr g cs t) (fun _ i _ => n - (intOf i).toNat)
    case atStart => exact ⟨0, Nat.zero_le _, rfl, by simp [widS], hroom, hsep, Below.refl _ _, fun _ _ _ h _ _ _ _ => h⟩
    case round =>
      obtain ⟨j, hj, rfl, rfl, rk, sk, bk, fk⟩ := hrel
      clear hroom hsep
      by_cases hlt : j < n
      · obtain ⟨k, hk⟩ : ∃ k, ks[j]? = some k := ⟨_, List.getElem?_eq_getElem (by have := HN.out; omega)⟩
        have hjl : j < ks.length := by have := HN.out; omega
        have hd : ks.drop j = k :: ks.drop (j + 1) := by
          rw [List.drop_eq_getElem_cons hjl]
          rw [List.getElem?_eq_getElem hjl] at hk
          injection hk with hk
          rw [hk]
        have hpl : (markS (ks.take j) a).length = j := by rw [markS_length, List.length_take]; omega
        have HSM := put (HS.out k (List.mem_of_getElem? hk))
        have HT := put (show widS (ks.take (j + 1)) = widS (ks.take j) + wid k by rw [takeA_more hk, widS_snoc])
        have HM := put (show markS (ks.take (j + 1)) a ++ ks.drop (j + 1) = markS (ks.take j) a ++ markK k (a + widS (ks.take j)) :: ks.drop (j + 1) by rw [takeA_more hk, markS_snoc]; simp)
        have hle : a + widS (ks.take j) + wid k ≤ 1000000000 := by
          have h1 := HA1.out
          have h2 : widS ks = widS (ks.take j) + (wid k + widS (ks.drop (j + 1))) := by
            have e : ∀ x y : List KC, widS (x ++ y) = widS x + widS y := fun x y => by induction x with | nil => simp [widS] | cons z r ih => simp only [List.cons_append, widS, ih]; omega
            conv => lhs; rw [← List.take_append_drop j ks, e, hd]
            rfl
          have := widS_pos (ks.drop (j + 1))
          omega
        rw [hd] at rk sk
        generalize markS (ks.take j) a = pre at rk sk hpl HM
        generalize hpost : ks.drop (j + 1) = post at rk sk HM
        have HPO := put hpost
        clear hpost
        obtain ⟨aj, haj⟩ : ∃ aj : Int, a + widS (ks.take j) = aj := ⟨_, rfl⟩
        have haj0 : 0 ≤ aj := by have := widS_pos (ks.take j); omega
        rw [haj] at hle HM ⊢
        have HAJ := put haj
        clear haj hk hd
        obtain ⟨l, m, s1, s2, own, s4, s5⟩ := sk.split
        have hw := wid_pos k
        obtain ⟨hS1, hS2, hS3⟩ := HSM.out
        have hwd : wid k = 2 + k.C.sites.length + 2 * k.C.ins.length + 3 * k.C.rows.length := rfl
        obtain ⟨P1, p1, P2, p2, P3, p3, e1, e2, e3⟩ := own_is own
        have c0 := rk.cell 0 _ rfl
        have c1 := rk.cell 1 _ rfl
        have f0 := rk.frozen (j * 5)
        have f1 := rk.frozen (j * 5 + 1)
        have rk1 := rk.write (k' := ⟨⟨aj, k.C.vars, k.C.sites, k.C.ins, k.C.rows⟩, k.vs, k.vi, k.vr⟩) 0 (.int .i64 aj) (by omega) (by omega) (by
          intro i x hx
          match i, hx with
          | 0, hx => left; simp [KC.cells] at hx; exact ⟨rfl, hx.symm⟩
          | i + 1, hx => right; exact ⟨by omega, hx⟩)
        have rk2 := rk1.write (k' := ⟨⟨aj, aj + 1, k.C.sites, k.C.ins, k.C.rows⟩, k.vs, k.vi, k.vr⟩) 1 (.int .i64 (aj + 1)) (by omega) (by omega) (by
          intro i x hx
          match i, hx with
          | 0, hx => right; exact ⟨by omega, hx⟩
          | 1, hx => left; simp [KC.cells] at hx; exact ⟨rfl, hx.symm⟩
          | i + 2, hx => right; exact ⟨by omega, hx⟩)
        rw [hpl] at c0 c1 rk1 rk2
        obtain ⟨cs0, hcs0⟩ := rk.keep
        obtain ⟨cs1, hcs1⟩ := rk1.keep
        have sm := (Same.set hcs0 (j * 5 + 0) (.int .i64 aj)).trans (Same.set hcs1 (j * 5 + 1) (.int .i64 (aj + 1)))
        have bk2 := (bk.setCell (p := ⟨g, j * 5 + 0, none⟩) hB (.int .i64 aj)).setCell (p := ⟨g, j * 5 + 1, none⟩) hB (.int .i64 (aj + 1))
        have fk2 : ∀ g' cs t, Keep w g' cs t → t ≠ 3 → t ≠ 83 → t ≠ 85 → t ≠ 30 → Keep _ g' cs t := fun g' cs t h h1 h2 h3 h4 => sm.keep (fk g' cs t h h1 h2 h3 h4) h4
        have own2 := own_same own sm (by decide) (by decide) (by decide)
        have s1' := Sep.same sm (by decide) (by decide) (by decide) s1
        have s5' := Sep.same sm (by decide) (by decide) (by decide) s5
        have d2 := rk2.cell 2 _ rfl
        simp only [Nat.add_zero] at c0 rk2 sm bk2 own2 s1' s5' d2 fk2
        simp only [hpl, e1] at d2
        clear rk1 hcs0 hcs1 sm own s1 s5 rk sk bk fk
        rw [e1, e2, e3] at own2 s4
        have hBl : B ≤ l := s1'.le
        go_wp2_with fail
        generalize (wr.setCell ⟨g, j * 5, none⟩ (.int .i64 aj)).setCell ⟨g, j * 5 + 1, none⟩ (.int .i64 (aj + 1)) = W1 at rk2 bk2 own2 s1' s5' d2 fk2 ⊢
        have hBW : B ≤ W1.heap.size := Nat.le_trans hBw bk2.size
        refine (markInt_own _ _ _ l (aj + 1 + 1) W1 own2.sites hS1 (by omega) (by omega)).mono ?_
        rintro e w2 ⟨rfl, q1, r1⟩
        have t1 : Same 3 W1 w2 := .grown r1 own2.sites
        have rk3 := rk2.same t1 (by decide)
        have i2 := t1.row own2.ins (by decide)
        have x2 := t1.row own2.rows (by decide)
        have s1a := s1'.grown r1 (fun b hb => .inr (World.ownsRow.lt own2.sites b hb).1)
        have s5a := s5'.grown r1 (fun b hb => .inl (s4 b (.inl hb)))
        have bk3 := bk2.grown r1 hBW (fun b hb => Nat.le_trans hBl (World.ownsRow.lt own2.sites b hb).1)
        have fk3 : ∀ g' cs t, Keep w g' cs t → t ≠ 3 → t ≠ 83 → t ≠ 85 → t ≠ 30 → Keep w2 g' cs t := fun g' cs t h h1 h2 h3 h4 => t1.keep (fk2 g' cs t h h1 h2 h3 h4) h1
        have d3 := rk3.cell 3 _ rfl
        simp only [hpl, e2] at d3
        have hBW2 : B ≤ w2.heap.size := Nat.le_trans hBw bk3.size
        clear own2 t1 r1 rk2 s1' s5' bk2 fk2 d2 hBW
        go_wp2_with fail
        refine (markIns_own _ _ _ l (aj + 1 + 1 + (k.C.sites.length : Int)) w2 i2 hS2 (by omega) (by omega)).mono ?_
        rintro e w3 ⟨rfl, q2, r2⟩
        have t2 : Same 83 w2 w3 := .grown r2 i2
        have rk4 := rk3.same t2 (by decide)
        have q1' := q1.same t2 (by decide)
        have x3 := t2.row x2 (by decide)
        have s1b := s1a.grown r2 (fun b hb => .inr (World.ownsRow.lt i2 b hb).1)
        have s5b := s5a.grown r2 (fun b hb => .inl (s4 b (.inr (.inl hb))))
        have bk4 := bk3.grown r2 hBW2 (fun b hb => Nat.le_trans hBl (World.ownsRow.lt i2 b hb).1)
        have fk4 : ∀ g' cs t, Keep w g' cs t → t ≠ 3 → t ≠ 83 → t ≠ 85 → t ≠ 30 → Keep w3 g' cs t := fun g' cs t h h1 h2 h3 h4 => t2.keep (fk3 g' cs t h h1 h2 h3 h4) h2
        have d4 := rk4.cell 4 _ rfl
        simp only [hpl, e3] at d4
        have hBW3 : B ≤ w3.heap.size := Nat.le_trans hBw bk4.size
        clear i2 t2 r2 rk3 q1 x2 s1a s5a bk3 fk3 d3 hBW2
        go_wp2_with fail
        refine (markRow_own _ _ _ l (aj + 1 + 1 + (k.C.sites.length : Int) + 2 * (k.C.ins.length : Int)) w3 x3 hS3 (by omega) (by omega)).mono ?_
        rintro e w4 ⟨rfl, q3, r3⟩
        have t3 : Same 85 w3 w4 := .grown r3 x3
        have rk5 := rk4.same t3 (by decide)
        have q1'' := q1'.same t3 (by decide)
        have q2' := q2.same t3 (by decide)
        have s1c := s1b.grown r3 (fun b hb => .inr (World.ownsRow.lt x3 b hb).1)
        have s5c := s5b.grown r3 (fun b hb => .inl (s4 b (.inr (.inr hb))))
        have bk5 := bk4.grown r3 hBW3 (fun b hb => Nat.le_trans hBl (World.ownsRow.lt x3 b hb).1)
        have fk5 : ∀ g' cs t, Keep w g' cs t → t ≠ 3 → t ≠ 83 → t ≠ 85 → t ≠ 30 → Keep w4 g' cs t := fun g' cs t h h1 h2 h3 h4 => t3.keep (fk4 g' cs t h h1 h2 h3 h4) h3
        have ownM : OwnCd w4 l (markC k.C aj) k.vs k.vi k.vr := by
          rw [e1, e2, e3]
          exact ⟨num_of q1'' (by omega), ins_of q2' (by omega), rws_of q3 (by omega)⟩
        have rk6 := rk5.swap (y := markK k aj) rfl
        have sepM := put (Sep.join (k := markK k aj) s2 ownM (by rw [← e1, ← e2, ← e3] at s4; exact s4) s5c s1c)
        clear x3 t3 r3 rk4 rk5 q1' q1'' q2 q2' q3 s1b s5b bk4 fk4 d4 hBW3 s1c s5c ownM
        go_wp2
        go_roundw
        case rel => exact ⟨j + 1, by omega, by go_num, by have h1 := HT.out; have h2 := HAJ.out; congr 1; omega, by rw [HPO.out, HM.out]; exact rk6, by rw [HPO.out, HM.out]; exact sepM.out, bk5, fk5⟩
        case measure => simp [intOf]; omega
      · obtain rfl : j = n := by omega
        have hjl : j = ks.length := HN.out.symm
        have ht : ks.take j = ks := List.take_of_length_le (by omega)
        have hd : ks.drop j = [] := List.drop_eq_nil_of_le (by omega)
        rw [ht, hd, List.append_nil] at rk sk
        rw [ht]
        have hrow := rk.rowC (B := B) (by rw [markS_length]; omega) hB HC.out
        rw [markS_length, ← hjl] at hrow
        have hfin : OwnCs wr B (.slice (some ⟨g, 0, none⟩) j c) (markS ks a) := ⟨by rw [markS_length, ← hjl]; exact hrow, sk.more bk.size⟩
        clear rk sk hrow hjl ht hd
        go_wp2
        go_ret
        exact ⟨rfl, hfin, bk, fk⟩

end Go.Proofs.YtpmpjiigmjnniaaGreat

/-
  The laws' marks on an image of a call's own: found again; two images compared. Contracts.
-/
namespace Go.Proofs.YtpmpjiigmjnniaaGreat
open Go.RowKit Exs

theorem markS_append (ys : List KC) : ∀ (xs : List KC) (a : Int), markS (xs ++ ys) a = markS xs a ++ markS ys (a + widS xs)
  | [], a => by simp [markS, widS]
  | x :: r, a => by simp only [List.cons_append, markS, markS_append ys r, widS, Int.add_assoc]
theorem widS_append (ys : List KC) : ∀ xs : List KC, widS (xs ++ ys) = widS xs + widS ys
  | [] => by simp [widS]
  | x :: r => by simp only [List.cons_append, widS, widS_append ys r]; omega
theorem of_num {w : World} {B : Nat} {v : Value} {n : Nat} {a b : Int} (h : Nums w B 3 .i64 v (upf b n)) (e : a = b) : RN w B 3 1 v n (upf a n) := by
  subst e
  have h : w.ownsRow B 3 1 v (upf a n).length ((upf a n).map (Value.int .i64)) := h
  rw [upf_length] at h
  exact h
theorem of_ins {w : World} {B : Nat} {v : Value} {n : Nat} {a b : Int} (h : Inss w B v (mkT b n)) (e : a = b) : RN w B 83 2 v n (upf a (n * 2)) := by
  subst e
  have h : w.ownsRow B 83 2 v (mkT a n).length ((flat (mkT a n)).map (Value.int .i64)) := h
  rw [mkT_length, flat_mkT] at h
  exact h
theorem of_rws {w : World} {B : Nat} {v : Value} {n : Nat} {a b : Int} (h : Rws w B v (mkR b n)) (e : a = b) : RN w B 85 3 v n (upf a (n * 3)) := by
  subst e
  have h : w.ownsRow B 85 3 v (mkR a n).length ((flat3 (mkR a n)).map (Value.int .i64)) := h
  rw [mkR_length, flat3_mkR] at h
  exact h

set_option maxHeartbeats 4000000 in
set_option maxRecDepth 100000 in
theorem heldCodes_own (v : Value) (ks : List KC) (B : Nat) (a : Int) (w : World) (h : OwnCs w B v (markS ks a)) (hs : ∀ k ∈ ks, SmallC k.C) (hn : ks.length ≤ 1000) (ha0 : 0 ≤ a) (ha1 : a + widS ks ≤ 1000000000) :
    Calls Tryz.prog 40 #[v, .int .i64 a] w fun e w' => e = .returned (.int .i64 (a + widS ks)) ∧ w = w' := by
  rcases h.room with ⟨rfl, h0⟩ | ⟨g, c, rfl, hB, hroom, hl, hc⟩
  · obtain rfl : ks = [] := by
      have := congrArg List.length h0
      rw [markS_length] at this
      exact List.eq_nil_of_length_eq_zero this
    go_enter Tryz.func40, Tryz.ntmps40
    go_wp2
    refine wp_loop_rounds 1 ?_
    rw [rounds_succ]
    go_wp2
    go_ret
    exact ⟨by simp [widS], rfl⟩
  · have HS := put hs
    have HA1 := put ha1
    have hsep := h.sep
    obtain ⟨n, hnn⟩ : ∃ n, ks.length = n := ⟨_, rfl⟩
    have HN := put hnn
    rw [markS_length, hnn] at hl ⊢
    rw [hnn] at hn
    clear h hs ha1 hc hnn
    go_enter Tryz.func40, Tryz.ntmps40
    go_wp2
    go_loop [1, 5] (fun u i => ∃ j : Nat, j ≤ n ∧ i = .int .i64 j ∧ u = .int .i64 (a + widS (ks.take j))) (fun _ i => n - (intOf i).toNat)
    case atStart => exact ⟨0, Nat.zero_le _, rfl, by simp [widS]⟩
    case round =>
      obtain ⟨j, hj, rfl, rfl⟩ := hrel
      by_cases hlt : j < n
      · obtain ⟨k, hk⟩ : ∃ k, ks[j]? = some k := ⟨_, List.getElem?_eq_getElem (by have := HN.out; omega)⟩
        have hjl : j < ks.length := by have := HN.out; omega
        have hd : ks.drop j = k :: ks.drop (j + 1) := by
          rw [List.drop_eq_getElem_cons hjl]
          rw [List.getElem?_eq_getElem hjl] at hk
          injection hk with hk
          rw [hk]
        have hpl : (markS (ks.take j) a).length = j := by rw [markS_length, List.length_take]; omega
        have HT := put (show widS (ks.take (j + 1)) = widS (ks.take j) + wid k by rw [takeA_more hk, widS_snoc])
        have hall : ks = ks.take j ++ k :: ks.drop (j + 1) := by rw [← hd, List.take_append_drop]
        have hle : a + widS (ks.take j) + wid k ≤ 1000000000 := by
          have h1 := HA1.out
          have h2 : widS ks = widS (ks.take j) + (wid k + widS (ks.drop (j + 1))) := by
            conv => lhs; rw [hall, widS_append]
            rfl
          have := widS_pos (ks.drop (j + 1))
          omega
        have hmk : markS ks a = markS (ks.take j) a ++ markK k (a + widS (ks.take j)) :: markS (ks.drop (j + 1)) (a + widS (ks.take j) + wid k) := by
          conv => lhs; rw [hall, markS_append]
          rfl
        obtain ⟨hS1, hS2, hS3⟩ := HS.out k (List.mem_of_getElem? hk)
        have rk := hroom
        have sk := hsep
        rw [hmk] at rk sk
        obtain ⟨aj, haj⟩ : ∃ aj : Int, a + widS (ks.take j) = aj := ⟨_, rfl⟩
        have haj0 : 0 ≤ aj := by have := widS_pos (ks.take j); omega
        rw [haj] at hle rk sk ⊢
        have HAJ := put haj
        obtain ⟨l, m, _, _, own, _, _⟩ := sk.split
        have hw := wid_pos k
        have hwd : wid k = 2 + k.C.sites.length + 2 * k.C.ins.length + 3 * k.C.rows.length := rfl
        have c0 := rk.cell 0 _ rfl
        have c1 := rk.cell 1 _ rfl
        have c2 := rk.cell 2 _ rfl
        have c3 := rk.cell 3 _ rfl
        have c4 := rk.cell 4 _ rfl
        have q1 : RN w l 3 1 k.vs k.C.sites.length (upf (aj + 1 + 1) k.C.sites.length) := of_num own.sites (by omega)
        have q2 : RN w l 83 2 k.vi k.C.ins.length (upf (aj + 1 + 1 + (k.C.sites.length : Int)) (k.C.ins.length * 2)) := of_ins own.ins (by omega)
        have q3 : RN w l 85 3 k.vr k.C.rows.length (upf (aj + 1 + 1 + (k.C.sites.length : Int) + 2 * (k.C.ins.length : Int)) (k.C.rows.length * 3)) := of_rws own.rows (by omega)
        obtain ⟨P1, m1, p1, e1⟩ := slice_of q1
        obtain ⟨P2, m2, p2, e2⟩ := slice_of q2
        obtain ⟨P3, m3, p3, e3⟩ := slice_of q3
        rw [e1] at q1
        rw [e2] at q2
        rw [e3] at q3
        simp only [hpl, Nat.add_zero, markK, e1, e2, e3] at c0 c1 c2 c3 c4
        replace c0 : w.cell? ⟨g, j * 5, none⟩ = some (.int .i64 aj) := c0
        replace c1 : w.cell? ⟨g, j * 5 + 1, none⟩ = some (.int .i64 (aj + 1)) := c1
        clear haj hk hd hall hmk rk sk own
        go_wp2_with fail
        refine (heldInt_own _ _ l (aj + 1 + 1) w q1 hS1 (by omega) (by omega)).mono ?_
        rintro e w1 ⟨rfl, rfl⟩
        obtain ⟨k1, hk1⟩ : ∃ k1 : Int, aj + 1 + 1 + (k.C.sites.length : Int) = k1 := ⟨_, rfl⟩
        have ha0 : 0 ≤ k1 := by omega
        have ha1 : k1 ≤ 1000000000 := by omega
        rw [hk1] at q2 q3 ⊢
        have HK1 := put hk1
        have hb1 : k1 + 2 * (k.C.ins.length : Int) ≤ 1000000000 := by omega
        clear hk1
        go_wp2_with fail
        refine (heldIns_own _ _ l k1 w q2 hS2 ha0 ha1).mono ?_
        rintro e w1 ⟨rfl, rfl⟩
        obtain ⟨k2, hk2⟩ : ∃ k2 : Int, k1 + 2 * (k.C.ins.length : Int) = k2 := ⟨_, rfl⟩
        have hc0 : 0 ≤ k2 := by omega
        rw [hk2] at q3 hb1 ⊢
        have HK2 := put hk2
        clear hk2
        go_wp2_with fail
        refine (heldRow_own _ _ l k2 w q3 hS3 hc0 hb1).mono ?_
        rintro e w1 ⟨rfl, rfl⟩
        obtain ⟨k3, hk3⟩ : ∃ k3 : Int, k2 + 3 * (k.C.rows.length : Int) = k3 := ⟨_, rfl⟩
        have hd0 : 0 ≤ k3 := by omega
        rw [hk3]
        have HK3 := put hk3
        clear hk3
        go_wp2
        go_round
        case rel => exact ⟨j + 1, by omega, by go_num, by have h1 := HT.out; have h2 := HAJ.out; have h3 := HK1.out; have h4 := HK2.out; have h5 := HK3.out; congr 1; omega⟩
        case measure => simp [intOf]; omega
      · obtain rfl : j = n := by omega
        have ht : ks.take j = ks := List.take_of_length_le (by have := HN.out; omega)
        rw [ht]
        go_wp2
        go_ret
        exact ⟨rfl, rfl⟩

end Go.Proofs.YtpmpjiigmjnniaaGreat

/-
  Texts joined: LowT Cod.
-/
import Derived.Test.YtpmpjiigmjnniaaGreatJLowS
import Derived.Test.YtpmpjiigmjnniaaGreatJTokMem
import Derived.Test.YtpmpjiigmjnniaaGreatJSpA
/-
  The reference's code of a statement: contract.
-/
namespace Go.Proofs.YtpmpjiigmjnniaaGreat
open Go.RowKit Exs

theorem stmtL_ret {f : Fc} {rec : List Int → Int → List Token} {s : St} {n a : Int} (h : s.kind = 5) : stmtL f rec s n a = lowE s.ex ++ [(15, 0), (16, 0)] := by unfold stmtL; simp [h]
theorem stmtL_exit {f : Fc} {rec : List Int → Int → List Token} {s : St} {n a : Int} (h : s.kind = 6) : stmtL f rec s n a = [(14, 0)] := by unfold stmtL; simp [h]
theorem stmtL_put {f : Fc} {rec : List Int → Int → List Token} {s : St} {n a : Int} (h : s.kind = 3) : stmtL f rec s n a = [(12, ixOf (sitesL f) n)] := by unfold stmtL; simp [h]
theorem stmtL_while {f : Fc} {rec : List Int → Int → List Token} {s : St} {n a : Int} {T : List Token} {o : Int} (h : s.kind = 8) (hT : rec s.th (a + s.ex.length + 1) = T) (ho : a + s.ex.length + 1 + T.length + 1 = o) : stmtL f rec s n a = lowE s.ex ++ [(11, o)] ++ T ++ [(10, a)] := by
  unfold stmtL; rw [hT, ho]; simp [h]
theorem stmtL_if {f : Fc} {rec : List Int → Int → List Token} {s : St} {n a : Int} {T R : List Token} {o : Int} (h1 : s.kind ≠ 1) (h2 : s.kind ≠ 2) (h9 : s.kind ≠ 9) (h4 : s.kind ≠ 4) (h5 : s.kind ≠ 5) (h6 : s.kind ≠ 6) (h3 : s.kind ≠ 3) (h8 : s.kind ≠ 8) (hT : rec s.th (a + s.ex.length + 1) = T) (ho : a + s.ex.length + 1 + T.length + 1 = o) (hR : rec s.el o = R) : stmtL f rec s n a = lowE s.ex ++ [(11, o)] ++ T ++ [(10, o + R.length)] ++ R := by
  unfold stmtL; rw [hT, ho, hR, if_neg h1, if_neg h2, if_neg h9, if_neg h4, if_neg h5, if_neg h6, if_neg h3, if_neg h8]

set_option maxHeartbeats 4000000 in
set_option maxRecDepth 100000 in
theorem stm_step (f : Fc) (A1 : Option Addr) (n1 c1 : Nat) (A2 : Option Addr) (n2 c2 : Nat) (hf0 : LowOk f n2) (g : Nat) (HB : BlkC f A1 n1 c1 A2 n2 c2 g) : StmC f A1 n1 c1 A2 n2 c2 g := by
  intro q s a w hs hfu hf h0 h1
  have hqn : q < n2 := by have := (List.getElem?_eq_some_iff.1 hs).1; have := hf0.len; omega
  have hn2 : n2 ≤ 1000 := hf0.few
  rw [lowSt_at hs]
  obtain ⟨b, off, s', B1, m1, d1, B2, m2, d2, B3, m3, d3, hA2, hbb, g0, g1, g2, g3, g4, r1, r2, r3, hx⟩ := hf.stmts.at_ hqn
  obtain rfl : s = s' := by have := hx.out; rw [hs] at this; injection this
  subst hA2
  have hnest := hf0.nest q s hs
  have hsmS := hf0.small.2.2 s (mem_of_at hs)
  have hm1 : m1 ≤ 12 := by have := hf0.ex q s hs; rw [r1.1] at this; exact this
  have hm2 : m2 ≤ 1048576 := by have := hsmS.2.1; rw [r2.1] at this; exact this
  have hm3 : m3 ≤ 1048576 := by have := hsmS.2.2; rw [r3.1] at this; exact this
  have E1 := put r1.1
  have hll1 := fun x => lowB_len hf0.ex g s.th x (fun m hm => by have := hnest m (.inl hm); omega) hf0.nest
  have hll2 := fun x => lowB_len hf0.ex g s.el x (fun m hm => by have := hnest m (.inr hm); omega) hf0.nest
  have CE := put (fun W (hW : Below w.heap.size w W) => l6Expr_any B1 m1 d1 s.ex W ((r1.below hW).more hW.size) (by omega))
  have CT := put (fun (x : Int) W (hW : Below w.heap.size w W) (hx0 : 0 ≤ x) (hx1 : x + 14 * ((ord f g s.th).length : Int) ≤ 1000) => HB s.th B2 m2 d2 (q + 1) x W (fun n h => by have := hnest n (.inl h); omega) (by omega) (hf.now hW) (r2.now hW) hm2 hx0 hx1)
  have CR := put (fun (x : Int) W (hW : Below w.heap.size w W) (hx0 : 0 ≤ x) (hx1 : x + 14 * ((ord f g s.el).length : Int) ≤ 1000) => HB s.el B3 m3 d3 (q + 1) x W (fun n h => by have := hnest n (.inr h); omega) (by omega) (hf.now hW) (r3.now hW) hm3 hx0 hx1)
  have CX := put (fun W (hW : Below w.heap.size w W) => l6Site_any f A1 n1 c1 (some ⟨b, off, none⟩) n2 c2 (q : Int) W (hf.now hW) (by omega))
  have HL1 := put hll1
  have HL2 := put hll2
  obtain ⟨P1, hP1⟩ : ∃ P, (ord f g s.th).length = P := ⟨_, rfl⟩
  obtain ⟨P2, hP2⟩ : ∃ P, (ord f g s.el).length = P := ⟨_, rfl⟩
  rw [hP1] at CT HL1 h1
  rw [hP2] at CR HL2 h1
  obtain ⟨kd, hkd⟩ : ∃ kd, s.kind = kd := ⟨_, rfl⟩
  rw [hkd] at g0
  have HK := put hkd
  unfold fcV at CT CR CX ⊢
  have hb0 : Below w.heap.size w ((w.alloc (.cells #[.int .i64 f.params, .int .i64 f.vars, .slice A1 n1 c1, .slice (some ⟨b, off, none⟩) n2 c2] 59)).alloc (.cells #[.int .i64 kd, .int .i64 s.n, .slice B1 m1 d1, .slice B2 m2 d2, .slice B3 m3 d3] 80)) := ((Below.refl _ _).alloc (Nat.le_refl _) _).alloc (by simp) _
  have kf0 : Keep ((w.alloc (.cells #[.int .i64 f.params, .int .i64 f.vars, .slice A1 n1 c1, .slice (some ⟨b, off, none⟩) n2 c2] 59)).alloc (.cells #[.int .i64 kd, .int .i64 s.n, .slice B1 m1 d1, .slice B2 m2 d2, .slice B3 m3 d3] 80)) w.heap.size #[.int .i64 f.params, .int .i64 f.vars, .slice A1 n1 c1, .slice (some ⟨b, off, none⟩) n2 c2] 59 := (Keep.new w #[.int .i64 f.params, .int .i64 f.vars, .slice A1 n1 c1, .slice (some ⟨b, off, none⟩) n2 c2] 59).alloc _
  have ks0 : Keep ((w.alloc (.cells #[.int .i64 f.params, .int .i64 f.vars, .slice A1 n1 c1, .slice (some ⟨b, off, none⟩) n2 c2] 59)).alloc (.cells #[.int .i64 kd, .int .i64 s.n, .slice B1 m1 d1, .slice B2 m2 d2, .slice B3 m3 d3] 80)) (w.heap.size + 1) #[.int .i64 kd, .int .i64 s.n, .slice B1 m1 d1, .slice B2 m2 d2, .slice B3 m3 d3] 80 := by
    have := Keep.new (w.alloc (.cells #[.int .i64 f.params, .int .i64 f.vars, .slice A1 n1 c1, .slice (some ⟨b, off, none⟩) n2 c2] 59)) #[.int .i64 kd, .int .i64 s.n, .slice B1 m1 d1, .slice B2 m2 d2, .slice B3 m3 d3] 80
    rwa [World.size_alloc] at this
  have hs0 : ((w.alloc (.cells #[.int .i64 f.params, .int .i64 f.vars, .slice A1 n1 c1, .slice (some ⟨b, off, none⟩) n2 c2] 59)).alloc (.cells #[.int .i64 kd, .int .i64 s.n, .slice B1 m1 d1, .slice B2 m2 d2, .slice B3 m3 d3] 80)).heap.size = w.heap.size + 1 + 1 := by simp
  clear hs hfu hf hf0 HB r1 r2 r3 hx hnest hsmS hll1 hll2 hP1 hP2 hkd
  go_enter Tryz.func66, Tryz.ntmps66
  go_wp2_with fail
  generalize hW : (w.alloc (.cells #[.int .i64 f.params, .int .i64 f.vars, .slice A1 n1 c1, .slice (some ⟨b, off, none⟩) n2 c2] 59)).alloc (.cells #[.int .i64 kd, .int .i64 s.n, .slice B1 m1 d1, .slice B2 m2 d2, .slice B3 m3 d3] 80) = W0 at hb0 kf0 ks0 hs0 ⊢
  clear hW g0 g1 g2 g3 g4
  refine (CE.out W0 hb0).mono ?_
  rintro e w1 ⟨v8, rfl, nu8, hb1⟩
  have b1 := hb0.trans (hb1.mono hb0.size)
  have kf1 := kf0.below hb1
  have ks1 := ks0.below hb1
  have hs1 : w.heap.size + 1 + 1 ≤ w1.heap.size := by have := hb1.size; omega
  rw [hs0] at nu8
  clear hb0 kf0 ks0 hb1 hs0 CE
  have HE := put (show (lowE s.ex).length = m1 by rw [lowE_length]; exact E1.out)
  have HE6 := put (show (lowE s.ex).length ≤ 1000000 by have := HE.out; omega)
  obtain ⟨A8, c8, hv8, _⟩ := nu8.reads
  rw [HE.out] at hv8
  subst hv8
  have z0 := ks1.cell 0
  have z1 := ks1.cell 1
  have z2 := ks1.cell 2
  have z3 := ks1.cell 3
  have z4 := ks1.cell 4
  simp at z0 z1 z2 z3 z4
  have z1' := z1
  by_cases p1 : kd = 1
  · subst p1
    have HA := put (stmtL_one (f := f) (rec := lowB (lowSt f g)) (n := (q : Int)) (a := a) (x := (3, s.n)) (.inl ⟨HK.out, rfl⟩))
    have nb := (Below.refl w1.heap.size w1).alloc (Nat.le_refl _) (.cells #[.int .i64 3, .int .i64 s.n] 83)
    have nl := Inss.lit1 w1 3 s.n
    have nu := nu8.below nb
    go_wp2_with (at_builtin; refine wpList_append_inssG rfl _ _ rfl (w.heap.size + 1 + 1) _ (lowE s.ex) rfl (by simp; omega) nu w1.heap.size _ [(3, s.n)] rfl nl HE6.out (by simp) ?_; intro v2 w2 hown2 hbel2 _)
    go_ret
    exact ⟨_, rfl, by rw [HA.out]; exact hown2.under (by omega), b1.trans ((nb.mono b1.size).trans (hbel2.mono (by omega)))⟩
  by_cases p2 : kd = 2
  · subst p2
    have HA := put (stmtL_one (f := f) (rec := lowB (lowSt f g)) (n := (q : Int)) (a := a) (x := (8, 0)) (.inr (.inl ⟨HK.out, rfl⟩)))
    have nb := (Below.refl w1.heap.size w1).alloc (Nat.le_refl _) (.cells #[.int .i64 8, .int .i64 0] 83)
    have nl := Inss.lit1 w1 8 0
    have nu := nu8.below nb
    go_wp2_with (at_builtin; refine wpList_append_inssG rfl _ _ rfl (w.heap.size + 1 + 1) _ (lowE s.ex) rfl (by simp; omega) nu w1.heap.size _ [(8, 0)] rfl nl HE6.out (by simp) ?_; intro v2 w2 hown2 hbel2 _)
    go_ret
    exact ⟨_, rfl, by rw [HA.out]; exact hown2.under (by omega), b1.trans ((nb.mono b1.size).trans (hbel2.mono (by omega)))⟩
  by_cases p9 : kd = 9
  · subst p9
    have HA := put (stmtL_one (f := f) (rec := lowB (lowSt f g)) (n := (q : Int)) (a := a) (x := (9, 0)) (.inr (.inr (.inl ⟨HK.out, rfl⟩))))
    have nb := (Below.refl w1.heap.size w1).alloc (Nat.le_refl _) (.cells #[.int .i64 9, .int .i64 0] 83)
    have nl := Inss.lit1 w1 9 0
    have nu := nu8.below nb
    go_wp2_with (at_builtin; refine wpList_append_inssG rfl _ _ rfl (w.heap.size + 1 + 1) _ (lowE s.ex) rfl (by simp; omega) nu w1.heap.size _ [(9, 0)] rfl nl HE6.out (by simp) ?_; intro v2 w2 hown2 hbel2 _)
    go_ret
    exact ⟨_, rfl, by rw [HA.out]; exact hown2.under (by omega), b1.trans ((nb.mono b1.size).trans (hbel2.mono (by omega)))⟩
  by_cases p4 : kd = 4
  · subst p4
    have HA := put (stmtL_one (f := f) (rec := lowB (lowSt f g)) (n := (q : Int)) (a := a) (x := (13, 0)) (.inr (.inr (.inr ⟨HK.out, rfl⟩))))
    have nb := (Below.refl w1.heap.size w1).alloc (Nat.le_refl _) (.cells #[.int .i64 13, .int .i64 0] 83)
    have nl := Inss.lit1 w1 13 0
    have nu := nu8.below nb
    go_wp2_with (at_builtin; refine wpList_append_inssG rfl _ _ rfl (w.heap.size + 1 + 1) _ (lowE s.ex) rfl (by simp; omega) nu w1.heap.size _ [(13, 0)] rfl nl HE6.out (by simp) ?_; intro v2 w2 hown2 hbel2 _)
    go_ret
    exact ⟨_, rfl, by rw [HA.out]; exact hown2.under (by omega), b1.trans ((nb.mono b1.size).trans (hbel2.mono (by omega)))⟩
  by_cases p5 : kd = 5
  · subst p5
    have HA := put (stmtL_ret (f := f) (rec := lowB (lowSt f g)) (n := (q : Int)) (a := a) HK.out)
    have nb := (Below.refl w1.heap.size w1).alloc (Nat.le_refl _) (.cells #[.int .i64 15, .int .i64 0, .int .i64 16, .int .i64 0] 83)
    have nl := Inss.lit2 w1 15 0 16 0
    have nu := nu8.below nb
    go_wp2_with (at_builtin; refine wpList_append_inssG rfl _ _ rfl (w.heap.size + 1 + 1) _ (lowE s.ex) rfl (by simp; omega) nu w1.heap.size _ [(15, 0), (16, 0)] rfl nl HE6.out (by simp) ?_; intro v2 w2 hown2 hbel2 _)
    go_ret
    exact ⟨_, rfl, by rw [HA.out]; exact hown2.under (by omega), b1.trans ((nb.mono b1.size).trans (hbel2.mono (by omega)))⟩
  by_cases p6 : kd = 6
  · subst p6
    have HA := put (stmtL_exit (f := f) (rec := lowB (lowSt f g)) (n := (q : Int)) (a := a) HK.out)
    have nb := (Below.refl w1.heap.size w1).alloc (Nat.le_refl _) (.cells #[.int .i64 14, .int .i64 0] 83)
    have nl := Inss.lit1 w1 14 0
    go_wp2
    go_ret
    exact ⟨_, rfl, by rw [HA.out]; exact nl.under (by omega), b1.trans (nb.mono b1.size)⟩
  by_cases p3 : kd = 3
  · subst p3
    have HA := put (stmtL_put (f := f) (rec := lowB (lowSt f g)) (n := (q : Int)) (a := a) HK.out)
    have y0 := kf1.cell 0
    have y1 := kf1.cell 1
    have y2 := kf1.cell 2
    have y3 := kf1.cell 3
    simp at y0 y1 y2 y3
    go_wp2_with fail
    refine (CX.out w1 b1).mono ?_
    rintro e w2 ⟨rfl, hb2⟩
    generalize ixOf (sitesL f) (q : Int) = z at HA ⊢
    have nl := Inss.lit1 w2 12 z
    have nb := (Below.refl w2.heap.size w2).alloc (Nat.le_refl _) (.cells #[.int .i64 12, .int .i64 z] 83)
    have b2 := b1.trans (hb2.mono b1.size)
    go_wp2
    go_ret
    exact ⟨_, rfl, by rw [HA.out]; exact nl.under b2.size, b2.trans (nb.mono b2.size)⟩
  have q1 : (kd == 1) = false := beq_of p1
  have q2 : (kd == 2) = false := beq_of p2
  have q9 : (kd == 9) = false := beq_of p9
  have q4 : (kd == 4) = false := beq_of p4
  have q5 : (kd == 5) = false := beq_of p5
  have q6 : (kd == 6) = false := beq_of p6
  have q3 : (kd == 3) = false := beq_of p3
  have hw1 : IntKind.i64.wrap (a + (m1 : Int)) = a + (m1 : Int) := IntWalk.i64_in _ ⟨by omega, by omega⟩
  have hw2 : IntKind.i64.wrap (a + (m1 : Int) + 1) = a + (m1 : Int) + 1 := IntWalk.i64_in _ ⟨by omega, by omega⟩
  have HT0 := put (CT.out (a + (m1 : Int) + 1) w1 b1 (by omega) (by omega))
  obtain ⟨T, hT⟩ : ∃ T, lowB (lowSt f g) s.th (a + (m1 : Int) + 1) = T := ⟨_, rfl⟩
  have hTl := HL1.out (a + (m1 : Int) + 1)
  rw [hT] at HT0 hTl
  obtain ⟨TL, hTL⟩ : ∃ TL, T.length = TL := ⟨_, rfl⟩
  rw [hTL] at hTl
  have HTE := put (And.intro hT hTL)
  have HT6 := put (show T.length ≤ 1000000 by omega)
  clear hT hTL
  have y0 := kf1.cell 0
  have y1 := kf1.cell 1
  have y2 := kf1.cell 2
  have y3 := kf1.cell 3
  simp at y0 y1 y2 y3
  go_wp2_with fail
  refine HT0.out.mono ?_
  rintro e w2 ⟨v9, rfl, nu9, hb2⟩
  have b2 := b1.trans (hb2.mono b1.size)
  have kf2 := kf1.below hb2
  have ks2 := ks1.below hb2
  have nu82 := nu8.below hb2
  have hs2 := hb2.size
  have OW := put (fun (b : Nat) e => (nu8.own_lt (b := b) e).2)
  obtain ⟨A9, c9, hv9, _⟩ := nu9.reads
  rw [HTE.out.2] at hv9
  subst hv9
  have hw3 : IntKind.i64.wrap (a + (m1 : Int) + 1 + (TL : Int)) = a + (m1 : Int) + 1 + (TL : Int) := IntWalk.i64_in _ ⟨by omega, by omega⟩
  obtain ⟨o, ho⟩ : ∃ o, a + (m1 : Int) + 1 + (TL : Int) + 1 = o := ⟨_, rfl⟩
  have hw4 : IntKind.i64.wrap (a + (m1 : Int) + 1 + (TL : Int) + 1) = o := by rw [IntWalk.i64_in _ ⟨by omega, by omega⟩]; exact ho
  have nb := (Below.refl w2.heap.size w2).alloc (Nat.le_refl _) (.cells #[.int .i64 11, .int .i64 o] 83)
  have nl := Inss.lit1 w2 11 o
  have nu83 := nu82.below nb
  have nu93 := nu9.below nb
  have HTO := put (show a + (s.ex.length : Int) + 1 + (T.length : Int) + 1 = o by rw [E1.out, HTE.out.2]; exact ho)
  have HO := put ho
  have hob : 0 ≤ o ∧ o + 14 * (P2 : Int) ≤ 1000 := by omega
  clear z0 z1 z2 z3 z4 z1' y0 y1 y2 y3 hb2 nu8 nu9 kf1 ks1 nu82 ho CT HT0
  by_cases p8 : kd = 8
  · subst p8
    have HA := put (stmtL_while (f := f) (rec := lowB (lowSt f g)) (n := (q : Int)) (a := a) HK.out (by rw [E1.out]; exact HTE.out.1) HTO.out)
    go_wp2_with (first
      | (
        at_builtin
        refine wpList_append_inssG rfl _ _ rfl (w.heap.size + 1 + 1) _ (lowE s.ex) rfl (by simp; omega) nu83 w2.heap.size _ [(11, o)] rfl nl HE6.out (by simp) ?_
        intro v3 w3 hown3 hbel3 hg3
        have nu94 : Inss w3 w1.heap.size (.slice A9 TL c9) T := nu93.grown hg3 (fun b' e1 e2 => by
          have h2 := OW.out b' e2.symm
          have h3 := (nu93.own_lt e1).1
          omega)
        have H36 := put (show (lowE s.ex ++ [(11, o)]).length ≤ 1000000 by have := HE.out; simp; omega)
        have b3 : Below w.heap.size w w3 := b2.trans ((nb.mono b2.size).trans (hbel3.mono (by omega)))
        have kf3 := (kf2.below nb).belowAt hbel3 (by omega)
        have ks3 := (ks2.below nb).belowAt hbel3 (by omega)
        have hs3 : w2.heap.size ≤ w3.heap.size := Nat.le_trans nb.size hbel3.size
        clear nb nl nu83 nu93 hg3 hbel3 kf2 ks2 OW

        )
      | (
        at_builtin
        refine wpList_append_inssG rfl _ _ rfl (w.heap.size + 1 + 1) _ (lowE s.ex ++ [(11, o)]) rfl (by omega) hown3 w1.heap.size _ T rfl nu94 H36.out HT6.out ?_
        intro v4 w4 hown4 hbel4 _
        have b4 : Below w.heap.size w w4 := b3.trans (hbel4.mono (by omega))
        have kf4 := kf3.belowAt hbel4 (by omega)
        have ks4 := ks3.belowAt hbel4 (by omega)
        have hs4 : w3.heap.size ≤ w4.heap.size := hbel4.size
        have H46 := put (show (lowE s.ex ++ [(11, o)] ++ T).length ≤ 1000000 by have := HE.out; have := HTE.out.2; simp; omega)
        have z0 := ks4.cell 0
        have z4 := ks4.cell 4
        simp at z0 z4
        clear nu94 hown3 hbel4 kf3 ks3
        have nb2 := (Below.refl w4.heap.size w4).alloc (Nat.le_refl _) (.cells #[.int .i64 10, .int .i64 a] 83)
        have nl2 := Inss.lit1 w4 10 a
        have nu2 := hown4.below nb2
        )
      | (
        at_builtin
        refine wpList_append_inssG rfl _ _ rfl (w.heap.size + 1 + 1) _ (lowE s.ex ++ [(11, o)] ++ T) rfl (by simp; omega) nu2 w4.heap.size _ [(10, a)] rfl nl2 H46.out (by simp) ?_
        intro v5 w5 hown5 hbel5 _
        ))
    go_ret
    exact ⟨_, rfl, by rw [HA.out]; exact hown5.under (by omega), b4.trans ((nb2.mono b4.size).trans (hbel5.mono (by omega)))⟩
  have q8 : (kd == 8) = false := beq_of p8
  go_wp2_with (first
    | (
      at_builtin
      refine wpList_append_inssG rfl _ _ rfl (w.heap.size + 1 + 1) _ (lowE s.ex) rfl (by simp; omega) nu83 w2.heap.size _ [(11, o)] rfl nl HE6.out (by simp) ?_
      intro v3 w3 hown3 hbel3 hg3
      have nu94 : Inss w3 w1.heap.size (.slice A9 TL c9) T := nu93.grown hg3 (fun b' e1 e2 => by
        have h2 := OW.out b' e2.symm
        have h3 := (nu93.own_lt e1).1
        omega)
      have H36 := put (show (lowE s.ex ++ [(11, o)]).length ≤ 1000000 by have := HE.out; simp; omega)
      have b3 : Below w.heap.size w w3 := b2.trans ((nb.mono b2.size).trans (hbel3.mono (by omega)))
      have kf3 := (kf2.below nb).belowAt hbel3 (by omega)
      have ks3 := (ks2.below nb).belowAt hbel3 (by omega)
      have hs3 : w2.heap.size ≤ w3.heap.size := Nat.le_trans nb.size hbel3.size
      clear nb nl nu83 nu93 hg3 hbel3 kf2 ks2 OW
    
      )
    | (
      at_builtin
      refine wpList_append_inssG rfl _ _ rfl (w.heap.size + 1 + 1) _ (lowE s.ex ++ [(11, o)]) rfl (by omega) hown3 w1.heap.size _ T rfl nu94 H36.out HT6.out ?_
      intro v4 w4 hown4 hbel4 _
      have b4 : Below w.heap.size w w4 := b3.trans (hbel4.mono (by omega))
      have kf4 := kf3.belowAt hbel4 (by omega)
      have ks4 := ks3.belowAt hbel4 (by omega)
      have hs4 : w3.heap.size ≤ w4.heap.size := hbel4.size
      have H46 := put (show (lowE s.ex ++ [(11, o)] ++ T).length ≤ 1000000 by have := HE.out; have := HTE.out.2; simp; omega)
      have z0 := ks4.cell 0
      have z4 := ks4.cell 4
      simp at z0 z4
      clear nu94 hown3 hbel4 kf3 ks3
      have y0 := kf4.cell 0
      have y1 := kf4.cell 1
      have y2 := kf4.cell 2
      have y3 := kf4.cell 3
      simp at y0 y1 y2 y3
      ))
  have HR0 := put (CR.out o w4 b4 hob.1 hob.2)
  obtain ⟨R, hR⟩ : ∃ R, lowB (lowSt f g) s.el o = R := ⟨_, rfl⟩
  have hRl := HL2.out o
  rw [hR] at HR0 hRl
  obtain ⟨RL, hRL⟩ : ∃ RL, R.length = RL := ⟨_, rfl⟩
  rw [hRL] at hRl
  have HA := put (stmtL_if (f := f) (rec := lowB (lowSt f g)) (n := (q : Int)) (a := a) (by rw [HK.out]; exact p1) (by rw [HK.out]; exact p2) (by rw [HK.out]; exact p9) (by rw [HK.out]; exact p4) (by rw [HK.out]; exact p5) (by rw [HK.out]; exact p6) (by rw [HK.out]; exact p3) (by rw [HK.out]; exact p8) (by rw [E1.out]; exact HTE.out.1) HTO.out hR)
  have HR6 := put (show R.length ≤ 1000000 by omega)
  have HRL := put hRL
  have HWO := put (IntWalk.i64_in (o + (RL : Int)) ⟨by omega, by omega⟩)
  clear hR hRL p1 p2 p9 p4 p5 p6 p3 p8
  refine HR0.out.mono ?_
  rintro e w5 ⟨v11, rfl, nu11, hb5⟩
  have b5 := b4.trans (hb5.mono b4.size)
  have OW := put (fun (b : Nat) e => (hown4.own_lt (b := b) e).2)
  have hown5 := hown4.below hb5
  have hs5 := hb5.size
  obtain ⟨A11, c11, hv11, _⟩ := nu11.reads
  rw [HRL.out] at hv11
  subst hv11
  obtain ⟨o2, ho2⟩ : ∃ o2, o + (RL : Int) = o2 := ⟨_, rfl⟩
  have hw5 : IntKind.i64.wrap (o + (RL : Int)) = o2 := by rw [HWO.out]; exact ho2
  have HO2 := put (show o + (R.length : Int) = o2 by rw [HRL.out]; exact ho2)
  have nb := (Below.refl w5.heap.size w5).alloc (Nat.le_refl _) (.cells #[.int .i64 10, .int .i64 o2] 83)
  have nl := Inss.lit1 w5 10 o2
  have nu5 := hown5.below nb
  have nu115 := nu11.below nb
  have H56 := put (show (lowE s.ex ++ [(11, o)] ++ T ++ [(10, o2)]).length ≤ 1000000 by have := HE.out; have := HTE.out.2; simp; omega)
  clear y0 y1 y2 y3 z0 z4 hb5 hown4 hown5 nu11 ho2 HR0 kf4 ks4
  go_wp2_with (first
    | (
      at_builtin
      refine wpList_append_inssG rfl _ _ rfl (w.heap.size + 1 + 1) _ (lowE s.ex ++ [(11, o)] ++ T) rfl (by simp; omega) nu5 w5.heap.size _ [(10, o2)] rfl nl H46.out (by simp) ?_
      intro v6 w6 hown6 hbel6 hg6
      have nu116 : Inss w6 w4.heap.size (.slice A11 RL c11) R := nu115.grown hg6 (fun b' e1 e2 => by
        have h2 := OW.out b' e2.symm
        have h3 := (nu115.own_lt e1).1
        omega)
      have b6 : Below w.heap.size w w6 := b5.trans ((nb.mono b5.size).trans (hbel6.mono (by omega)))
      have hs6 : w5.heap.size ≤ w6.heap.size := Nat.le_trans nb.size hbel6.size
      clear nb nl nu5 nu115 hg6 hbel6 OW
    
      )
    | (
      at_builtin
      refine wpList_append_inssG rfl _ _ rfl (w.heap.size + 1 + 1) _ (lowE s.ex ++ [(11, o)] ++ T ++ [(10, o2)]) rfl (by omega) hown6 w4.heap.size _ R rfl nu116 H56.out HR6.out ?_
      intro v7 w7 hown7 hbel7 _
      ))
  go_ret
  exact ⟨_, rfl, by rw [HA.out, HO2.out]; exact hown7.under (by omega), b6.trans (hbel7.mono (by omega))⟩

/-- The contract of a block, at every fuel. -/
theorem blk_any (f : Fc) (A1 : Option Addr) (n1 c1 : Nat) (A2 : Option Addr) (n2 c2 : Nat) (hf0 : LowOk f n2) : ∀ g, BlkC f A1 n1 c1 A2 n2 c2 g
  | 0 => blk_base f A1 n1 c1 A2 n2 c2 hf0
  | g + 1 => blk_step f A1 n1 c1 A2 n2 c2 hf0 g (stm_step f A1 n1 c1 A2 n2 c2 hf0 g (blk_any f A1 n1 c1 A2 n2 c2 hf0 g))

end Go.Proofs.YtpmpjiigmjnniaaGreat

/-
  Images in memory: codes, slices of them that are read. Over any program.
-/
namespace Go.Proofs.YtpmpjiigmjnniaaGreat
open Go.RowKit Exs

/-- A row of a code: from, to, pad. -/
abbrev Row3 := Int × Int × Int
structure Cd where
  params : Int
  vars : Int
  sites : List Int
  ins : List Token
  rows : List Row3

def flat3 (rs : List Row3) : List Int := rs.flatMap fun r => [r.1, r.2.1, r.2.2]
theorem flat3_length (rs : List Row3) : (flat3 rs).length = 3 * rs.length := by
  induction rs with
  | nil => rfl
  | cons t r ih => simp only [flat3, List.flatMap_cons, List.length_append, List.length_cons, List.length_nil] at *; omega
theorem flat3_at : ∀ {rs : List Row3} {j : Nat} {t : Row3}, rs[j]? = some t → (flat3 rs)[3 * j]? = some t.1 ∧ (flat3 rs)[3 * j + 1]? = some t.2.1 ∧ (flat3 rs)[3 * j + 2]? = some t.2.2
  | [], _, _, h => by simp at h
  | a :: r, 0, t, h => by simp at h; subst h; exact ⟨rfl, rfl, rfl⟩
  | a :: r, j + 1, t, h => by
    have := flat3_at (rs := r) (j := j) (t := t) (by simpa using h)
    rw [show 3 * (j + 1) = 3 * j + 1 + 1 + 1 by omega]
    simpa [flat3] using this
theorem flat3_snoc (rs : List Row3) (t : Row3) : flat3 (rs ++ [t]) = flat3 rs ++ [t.1] ++ [t.2.1] ++ [t.2.2] := by simp [flat3]
/-- The slice value '.slice A n c' reads as the rows rs, and lies below block B. -/
def ReadsR (w : World) (B : Nat) (A : Option Addr) (n : Nat) (rs : List Row3) : Prop := rs.length = n ∧ Reads w B .i64 A (3 * n) (flat3 rs)
section
variable {w w' : World} {B B' : Nat} {A : Option Addr} {n : Nat} {rs : List Row3}
theorem ReadsR.below (h : ReadsR w B A n rs) (hb : Below B w w') : ReadsR w' B A n rs := ⟨h.1, h.2.below hb⟩
theorem ReadsR.more (h : ReadsR w B A n rs) (hB : B ≤ B') : ReadsR w B' A n rs := ⟨h.1, h.2.more hB⟩
theorem ReadsR.at_ (h : ReadsR w B A n rs) {j : Nat} (hj : j < n) : ∃ b off x y z, A = some ⟨b, off, none⟩ ∧ b < B ∧ w.cell? ⟨b, off + j * 3, none⟩ = some (.int .i64 x) ∧ w.cell? ⟨b, off + j * 3 + 1, none⟩ = some (.int .i64 y) ∧ w.cell? ⟨b, off + j * 3 + 2, none⟩ = some (.int .i64 z) ∧ Hid (rs[j]? = some (x, y, z)) := by
  obtain ⟨b, off, rfl, hb, hc⟩ := h.2.2 (by omega)
  have hl : j < rs.length := by rw [h.1]; exact hj
  have hx := flat3_at (List.getElem?_eq_getElem hl)
  refine ⟨b, off, rs[j].1, rs[j].2.1, rs[j].2.2, rfl, hb, ?_, ?_, ?_, List.getElem?_eq_getElem hl⟩
  · rw [Nat.mul_comm]; exact hc _ _ hx.1
  · rw [Nat.mul_comm, Nat.add_assoc]; exact hc _ _ hx.2.1
  · rw [Nat.mul_comm, Nat.add_assoc]; exact hc _ _ hx.2.2
end
/-- The slice value '.slice A n c' reads as the codes ss, and lies, with all that it leads to, below block B. -/
def ReadsC (w : World) (B : Nat) (A : Option Addr) (n : Nat) (ss : List Cd) : Prop :=
  ss.length = n ∧ (0 < n → ∃ b off, A = some ⟨b, off, none⟩ ∧ b < B ∧ ∀ (j : Nat) (s : Cd), ss[j]? = some s →
    ∃ A1 n1 c1 A2 n2 c2 A3 n3 c3, w.cell? ⟨b, off + j * 5, none⟩ = some (.int .i64 s.params) ∧ w.cell? ⟨b, off + j * 5 + 1, none⟩ = some (.int .i64 s.vars) ∧ w.cell? ⟨b, off + j * 5 + 2, none⟩ = some (.slice A1 n1 c1) ∧
      w.cell? ⟨b, off + j * 5 + 3, none⟩ = some (.slice A2 n2 c2) ∧ w.cell? ⟨b, off + j * 5 + 4, none⟩ = some (.slice A3 n3 c3) ∧ Reads w B .i64 A1 n1 s.sites ∧ ReadsT w B A2 n2 s.ins ∧ ReadsR w B A3 n3 s.rows)

section
variable {w w' : World} {B B' : Nat} {A : Option Addr} {n : Nat} {ss : List Cd}
theorem ReadsC.below (h : ReadsC w B A n ss) (hb : Below B w w') : ReadsC w' B A n ss :=
  ⟨h.1, fun hn => by
    obtain ⟨b, off, rfl, hB, hc⟩ := h.2 hn
    refine ⟨b, off, rfl, hB, fun j s hs => ?_⟩
    obtain ⟨A1, n1, c1, A2, n2, c2, A3, n3, c3, h0, h1, h2, h3, h4, r1, r2, r3⟩ := hc j s hs
    exact ⟨A1, n1, c1, A2, n2, c2, A3, n3, c3, (hb.cell (p := ⟨b, _, none⟩) hB).trans h0, (hb.cell (p := ⟨b, _, none⟩) hB).trans h1, (hb.cell (p := ⟨b, _, none⟩) hB).trans h2, (hb.cell (p := ⟨b, _, none⟩) hB).trans h3, (hb.cell (p := ⟨b, _, none⟩) hB).trans h4, r1.below hb, r2.below hb, r3.below hb⟩⟩
theorem ReadsC.more (h : ReadsC w B A n ss) (hB : B ≤ B') : ReadsC w B' A n ss :=
  ⟨h.1, fun hn => by
    obtain ⟨b, off, rfl, hb, hc⟩ := h.2 hn
    refine ⟨b, off, rfl, by omega, fun j s hs => ?_⟩
    obtain ⟨A1, n1, c1, A2, n2, c2, A3, n3, c3, h0, h1, h2, h3, h4, r1, r2, r3⟩ := hc j s hs
    exact ⟨A1, n1, c1, A2, n2, c2, A3, n3, c3, h0, h1, h2, h3, h4, r1.more hB, r2.more hB, r3.more hB⟩⟩
theorem ReadsC.at_ (h : ReadsC w B A n ss) {j : Nat} (hj : j < n) : ∃ b off s A1 n1 c1 A2 n2 c2 A3 n3 c3, A = some ⟨b, off, none⟩ ∧ b < B ∧ w.cell? ⟨b, off + j * 5, none⟩ = some (.int .i64 s.params) ∧ w.cell? ⟨b, off + j * 5 + 1, none⟩ = some (.int .i64 s.vars) ∧ w.cell? ⟨b, off + j * 5 + 2, none⟩ = some (.slice A1 n1 c1) ∧
      w.cell? ⟨b, off + j * 5 + 3, none⟩ = some (.slice A2 n2 c2) ∧ w.cell? ⟨b, off + j * 5 + 4, none⟩ = some (.slice A3 n3 c3) ∧ Reads w B .i64 A1 n1 s.sites ∧ ReadsT w B A2 n2 s.ins ∧ ReadsR w B A3 n3 s.rows ∧ Hid (ss[j]? = some s) := by
  obtain ⟨b, off, rfl, hb, hc⟩ := h.2 (by omega)
  have hl : j < ss.length := by rw [h.1]; exact hj
  obtain ⟨A1, n1, c1, A2, n2, c2, A3, n3, c3, h0, h1, h2, h3, h4, r1, r2, r3⟩ := hc j _ (List.getElem?_eq_getElem hl)
  exact ⟨b, off, ss[j], A1, n1, c1, A2, n2, c2, A3, n3, c3, rfl, hb, h0, h1, h2, h3, h4, r1, r2, r3, List.getElem?_eq_getElem hl⟩
end

/-- A code, a function, as values. -/
def cdV (s : Cd) (A1 : Option Addr) (n1 c1 : Nat) (A2 : Option Addr) (n2 c2 : Nat) (A3 : Option Addr) (n3 c3 : Nat) : Value := .agg #[.int .i64 s.params, .int .i64 s.vars, .slice A1 n1 c1, .slice A2 n2 c2, .slice A3 n3 c3]
structure IsCd (w : World) (B : Nat) (s : Cd) (A1 : Option Addr) (n1 : Nat) (A2 : Option Addr) (n2 : Nat) (A3 : Option Addr) (n3 : Nat) : Prop where
  sites : Reads w B .i64 A1 n1 s.sites
  ins : ReadsT w B A2 n2 s.ins
  rows : ReadsR w B A3 n3 s.rows
theorem IsCd.below {w w' : World} {B : Nat} {s : Cd} {A1 : Option Addr} {n1 : Nat} {A2 : Option Addr} {n2 : Nat} {A3 : Option Addr} {n3 : Nat} (h : IsCd w B s A1 n1 A2 n2 A3 n3) (hb : Below B w w') : IsCd w' B s A1 n1 A2 n2 A3 n3 := ⟨h.sites.below hb, h.ins.below hb, h.rows.below hb⟩
theorem IsCd.more {w : World} {B B' : Nat} {s : Cd} {A1 : Option Addr} {n1 : Nat} {A2 : Option Addr} {n2 : Nat} {A3 : Option Addr} {n3 : Nat} (h : IsCd w B s A1 n1 A2 n2 A3 n3) (hB : B ≤ B') : IsCd w B' s A1 n1 A2 n2 A3 n3 := ⟨h.sites.more hB, h.ins.more hB, h.rows.more hB⟩
theorem IsCd.now {w w' : World} {s : Cd} {A1 : Option Addr} {n1 : Nat} {A2 : Option Addr} {n2 : Nat} {A3 : Option Addr} {n3 : Nat} (h : IsCd w w.heap.size s A1 n1 A2 n2 A3 n3) (hb : Below w.heap.size w w') : IsCd w' w'.heap.size s A1 n1 A2 n2 A3 n3 := (h.below hb).more hb.size
theorem ReadsC.now {w w' : World} {A : Option Addr} {n : Nat} {ss : List Cd} (h : ReadsC w w.heap.size A n ss) (hb : Below w.heap.size w w') : ReadsC w' w'.heap.size A n ss := (h.below hb).more hb.size
theorem ReadsR.now {w w' : World} {A : Option Addr} {n : Nat} {rs : List Row3} (h : ReadsR w w.heap.size A n rs) (hb : Below w.heap.size w w') : ReadsR w' w'.heap.size A n rs := (h.below hb).more hb.size
/-- Sizes within what the laws let through. -/
def SmallC (s : Cd) : Prop := s.sites.length ≤ 1048576 ∧ s.ins.length ≤ 1048576 ∧ s.rows.length ≤ 1048576
/-- How many values the laws count. -/
def manyC (s : Cd) : Nat := s.sites.length + s.ins.length + s.rows.length
def manyCs : List Cd → Nat
  | [] => 0
  | s :: r => manyC s + manyCs r
theorem manyCs_append (a b : List Cd) : manyCs (a ++ b) = manyCs a + manyCs b := by induction a with | nil => simp [manyCs] | cons s r ih => simp [manyCs, ih]; omega
theorem manyCs_mem {ss : List Cd} {s : Cd} (h : s ∈ ss) : manyC s ≤ manyCs ss := by
  induction ss with
  | nil => cases h
  | cons a r ih => rcases List.mem_cons.1 h with rfl | h; · simp [manyCs]
                   · have := ih h; simp [manyCs]; omega
def SmallI (cs : List Cd) : Prop := cs.length ≤ 1048576 ∧ ∀ c ∈ cs, SmallC c
theorem smallI_of {cs : List Cd} (h : cs.length + manyCs cs ≤ 1048576) : SmallI cs :=
  ⟨by omega, fun f hf => by have := manyCs_mem hf; unfold manyC at this; exact ⟨by omega, by omega, by omega⟩⟩
end Go.Proofs.YtpmpjiigmjnniaaGreat

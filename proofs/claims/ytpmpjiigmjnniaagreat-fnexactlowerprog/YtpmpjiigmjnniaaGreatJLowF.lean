/-
  The reference's code of a function: contract.
-/
import Derived.Test.YtpmpjiigmjnniaaGreatJCoTo
import Derived.Deep.RegionLaw
namespace Go.Proofs.YtpmpjiigmjnniaaGreat
open Go.RowKit Exs

/-- All that is older than a world, but one block, is as it was. -/
structure OldB (V : World) (C : Nat) (W : World) : Prop where
  os : W.os = V.os
  tape : W.tape = V.tape
  output : W.output = V.output
  size : V.heap.size ≤ W.heap.size
  block : ∀ k, k < V.heap.size → k ≠ C → W.heap[k]? = V.heap[k]?
theorem OldB.refl (V : World) (C : Nat) : OldB V C V := ⟨rfl, rfl, rfl, Nat.le_refl _, fun _ _ _ => rfl⟩
theorem OldB.below {V W W' : World} {C : Nat} (h : OldB V C W) (hb : Below W.heap.size W W') : OldB V C W' := ⟨hb.os.trans h.os, hb.tape.trans h.tape, hb.output.trans h.output, Nat.le_trans h.size hb.size, fun k hk hc => (hb.block k (Nat.lt_of_lt_of_le hk h.size)).trans (h.block k hk hc)⟩
theorem OldB.grown {V W W' : World} {C : Nat} {o : Option Nat} (h : OldB V C W) (hg : W.grownBy W' o) (ho : ∀ k, o = some k → V.heap.size ≤ k) : OldB V C W' := ⟨hg.os.trans h.os, hg.tape.trans h.tape, hg.output.trans h.output, Nat.le_trans h.size hg.size, fun k hk hc => (hg.block k (Nat.lt_of_lt_of_le hk h.size) (fun e => by have := ho k e.symm; omega)).trans (h.block k hk hc)⟩
theorem OldB.set {V W : World} {C i : Nat} {v : Value} (h : OldB V C W) : OldB V C (W.setCell ⟨C, i, none⟩ v) := ⟨h.os, h.tape, h.output, by simpa [World.setCell] using h.size, fun k hk hc => (Below.heap_setCell W ⟨C, i, none⟩ v k hc).trans (h.block k hk hc)⟩
theorem OldB.keep {V W : World} {C g : Nat} {cs : Array Value} {t : TypeId} (h : OldB V C W) (hk : Keep V g cs t) (hg : g ≠ C) : Keep W g cs t := (h.block g hk.lt hg).trans hk
theorem OldB.toBelow {U V W : World} {C B : Nat} (hb : Below B U V) (h : OldB V C W) (hB : B ≤ V.heap.size) (hC : B ≤ C) : Below B U W := ⟨h.os.trans hb.os, h.tape.trans hb.tape, h.output.trans hb.output, Nat.le_trans hb.size h.size, fun k hk => (h.block k (Nat.lt_of_lt_of_le hk hB) (by omega)).trans (hb.block k hk)⟩
theorem row_set5 {w : World} {B e size n g : Nat} {v : Value} {xs : List Value} (h : w.ownsRow B e size v n xs) (hg : g < B) (a b c d x : Value) : (((((w.setCell ⟨g, 0, none⟩ a).setCell ⟨g, 1, none⟩ b).setCell ⟨g, 2, none⟩ c).setCell ⟨g, 3, none⟩ d).setCell ⟨g, 4, none⟩ x).ownsRow B e size v n xs := row_other (row_other (row_other (row_other (row_other h hg) hg) hg) hg) hg
theorem slice_of {w : World} {B e size n : Nat} {v : Value} {xs : List Value} (h : w.ownsRow B e size v n xs) : ∃ A n c, v = .slice A n c := by
  rcases h.2 with ⟨rfl, _⟩ | ⟨g, cap, cur, rfl, _⟩
  · exact ⟨_, _, _, rfl⟩
  · exact ⟨_, _, _, rfl⟩
theorem Nums.form0 {w : World} {B : Nat} {v : Value} {xs : List Int} (h : Nums w B 3 .i64 v xs) : ∃ A c, v = .slice A xs.length c ∧ ∀ j x, xs[j]? = some x → ∃ g, A = some ⟨g, 0, none⟩ ∧ B ≤ g ∧ g < w.heap.size ∧ w.cell? ⟨g, j, none⟩ = some (.int .i64 x) := by
  rcases h.2 with ⟨rfl, hn⟩ | ⟨g, cap, cur, rfl, hBg, hg, _, _, _, htk⟩
  · obtain rfl : xs = [] := List.eq_nil_of_length_eq_zero hn
    exact ⟨none, 0, rfl, fun j x hx => by simp at hx⟩
  · refine ⟨_, _, rfl, fun j x hx => ⟨g, rfl, hBg, (Array.getElem?_eq_some_iff.1 hg).1, ?_⟩⟩
    have hj : j < xs.length := (List.getElem?_eq_some_iff.1 hx).1
    have := World.ownsRow.cellAt h j (by omega)
    rw [this]
    simp [hx]
/-- What a function must be for its code to be made. -/
structure FnOk (f : Fc) : Prop where
  low : LowOk f f.stmts.length
  body : ∀ n ∈ f.body, 0 ≤ n ∧ n < f.stmts.length
  few : 14 * (ord f f.stmts.length f.body).length ≤ 900
theorem mem_sitesFrom' {ss : List St} {i : Nat} {x : Int} (h : x ∈ sitesFrom i ss) : (i : Int) ≤ x ∧ x < i + ss.length := by
  obtain ⟨j, s, hj, _, rfl⟩ := mem_sitesFrom.1 h
  have := (List.getElem?_eq_some_iff.1 hj).1
  omega

set_option maxHeartbeats 4000000 in
set_option maxRecDepth 100000 in
theorem l6Func_any (A : Option Addr) (n c : Nat) (fs : List Fc) (q : Nat) (f : Fc) (w : World) (hr : ReadsF w w.heap.size A n fs) (hq : fs[q]? = some f) (hok : FnOk f) :
    Calls Tryz.prog 22 #[.agg #[.slice A n c], .int .i64 (q : Int)] w fun e w' => ∃ vs vi vr, e = .returned (.agg #[.int .i64 (lowC f).params, .int .i64 (lowC f).vars, vs, vi, vr]) ∧ OwnCd w' w.heap.size (lowC f) vs vi vr ∧ Below w.heap.size w w' := by
  have hqn : q < n := by have := (List.getElem?_eq_some_iff.1 hq).1; have := hr.1; omega
  obtain ⟨b, off, f', B1, m1, d1, B2, m2, d2, hA, hbb, g0, g1, g2, g3, r1, r2, hx⟩ := hr.at_ hqn
  obtain rfl : f = f' := by have := hx.out; rw [hq] at this; injection this
  subst hA
  have hm2 : f.stmts.length = m2 := r2.1
  have hlk := hok.low
  rw [hm2] at hlk
  have hm1 : m1 ≤ 1048576 := by have := hlk.small.1; rw [r1.1] at this; exact this
  have hm2' : m2 ≤ 1000 := hlk.few
  have CS := put (fun W (hW : Below w.heap.size w W) => l3Sites_any f B1 m1 d1 B2 m2 d2 W ((IsFc.mk r1 r2).now hW) (by omega))
  have CB := put (fun W (hW : Below w.heap.size w W) => blk_any f B1 m1 d1 B2 m2 d2 hlk f.stmts.length f.body B1 m1 d1 0 0 W (fun x hx => by have := hok.body x hx; omega) (by omega) ((IsFc.mk r1 r2).now hW) (r1.now hW) hm1 (by omega) (by have := hok.few; omega))
  have HIS := put (show (lowIs f).length ≤ 901 by
    have h1 := lowB_len hlk.ex f.stmts.length f.body 0 hok.body hlk.nest
    have h2 := hok.few
    unfold lowIs
    simp
    omega)
  have HSL := put (show (sitesL f).length ≤ 1000 by have := sitesFrom_length f.stmts 0; unfold sitesL; omega)
  have HSI := put (show ∀ x ∈ sitesL f, 0 ≤ x ∧ x < (m2 : Int) from fun x hx => by have := mem_sitesFrom' (show x ∈ sitesFrom 0 f.stmts from hx); omega)
  have R2 := put (fun W (hW : Below w.heap.size w W) => r2.below hW)
  unfold fcV at CS CB
  have hb0 : Below w.heap.size w ((((w.alloc (.cells #[.slice (some ⟨b, off, none⟩) n c] 35)).alloc (.cells #[.int .i64 0, .int .i64 0, .slice none 0 0, .slice none 0 0, .slice none 0 0] 30)).alloc (.cells #[.int .i64 f.params, .int .i64 f.vars, .slice B1 m1 d1, .slice B2 m2 d2] 59)).alloc (.cells #[.int .i64 f.params, .int .i64 f.vars, .slice none 0 0, .slice none 0 0, .slice none 0 0] 30)) := ((((Below.refl _ _).alloc (Nat.le_refl _) _).alloc (by simp) _).alloc (by simp; omega) _).alloc (by simp; omega) _
  have kz0 : Keep ((((w.alloc (.cells #[.slice (some ⟨b, off, none⟩) n c] 35)).alloc (.cells #[.int .i64 0, .int .i64 0, .slice none 0 0, .slice none 0 0, .slice none 0 0] 30)).alloc (.cells #[.int .i64 f.params, .int .i64 f.vars, .slice B1 m1 d1, .slice B2 m2 d2] 59)).alloc (.cells #[.int .i64 f.params, .int .i64 f.vars, .slice none 0 0, .slice none 0 0, .slice none 0 0] 30)) (w.heap.size + 1) #[.int .i64 0, .int .i64 0, .slice none 0 0, .slice none 0 0, .slice none 0 0] 30 := by
    have := ((Keep.new (w.alloc (.cells #[.slice (some ⟨b, off, none⟩) n c] 35)) #[.int .i64 0, .int .i64 0, .slice none 0 0, .slice none 0 0, .slice none 0 0] 30).alloc (.cells #[.int .i64 f.params, .int .i64 f.vars, .slice B1 m1 d1, .slice B2 m2 d2] 59)).alloc (.cells #[.int .i64 f.params, .int .i64 f.vars, .slice none 0 0, .slice none 0 0, .slice none 0 0] 30)
    rwa [World.size_alloc] at this
  have kf0 : Keep ((((w.alloc (.cells #[.slice (some ⟨b, off, none⟩) n c] 35)).alloc (.cells #[.int .i64 0, .int .i64 0, .slice none 0 0, .slice none 0 0, .slice none 0 0] 30)).alloc (.cells #[.int .i64 f.params, .int .i64 f.vars, .slice B1 m1 d1, .slice B2 m2 d2] 59)).alloc (.cells #[.int .i64 f.params, .int .i64 f.vars, .slice none 0 0, .slice none 0 0, .slice none 0 0] 30)) (w.heap.size + 1 + 1) #[.int .i64 f.params, .int .i64 f.vars, .slice B1 m1 d1, .slice B2 m2 d2] 59 := by
    have := (Keep.new ((w.alloc (.cells #[.slice (some ⟨b, off, none⟩) n c] 35)).alloc (.cells #[.int .i64 0, .int .i64 0, .slice none 0 0, .slice none 0 0, .slice none 0 0] 30)) #[.int .i64 f.params, .int .i64 f.vars, .slice B1 m1 d1, .slice B2 m2 d2] 59).alloc (.cells #[.int .i64 f.params, .int .i64 f.vars, .slice none 0 0, .slice none 0 0, .slice none 0 0] 30)
    rwa [World.size_alloc, World.size_alloc] at this
  have kc0 : Keep ((((w.alloc (.cells #[.slice (some ⟨b, off, none⟩) n c] 35)).alloc (.cells #[.int .i64 0, .int .i64 0, .slice none 0 0, .slice none 0 0, .slice none 0 0] 30)).alloc (.cells #[.int .i64 f.params, .int .i64 f.vars, .slice B1 m1 d1, .slice B2 m2 d2] 59)).alloc (.cells #[.int .i64 f.params, .int .i64 f.vars, .slice none 0 0, .slice none 0 0, .slice none 0 0] 30)) (w.heap.size + 1 + 1 + 1) #[.int .i64 f.params, .int .i64 f.vars, .slice none 0 0, .slice none 0 0, .slice none 0 0] 30 := by
    have := Keep.new (((w.alloc (.cells #[.slice (some ⟨b, off, none⟩) n c] 35)).alloc (.cells #[.int .i64 0, .int .i64 0, .slice none 0 0, .slice none 0 0, .slice none 0 0] 30)).alloc (.cells #[.int .i64 f.params, .int .i64 f.vars, .slice B1 m1 d1, .slice B2 m2 d2] 59)) #[.int .i64 f.params, .int .i64 f.vars, .slice none 0 0, .slice none 0 0, .slice none 0 0] 30
    rwa [World.size_alloc, World.size_alloc, World.size_alloc] at this
  have hs0 : ((((w.alloc (.cells #[.slice (some ⟨b, off, none⟩) n c] 35)).alloc (.cells #[.int .i64 0, .int .i64 0, .slice none 0 0, .slice none 0 0, .slice none 0 0] 30)).alloc (.cells #[.int .i64 f.params, .int .i64 f.vars, .slice B1 m1 d1, .slice B2 m2 d2] 59)).alloc (.cells #[.int .i64 f.params, .int .i64 f.vars, .slice none 0 0, .slice none 0 0, .slice none 0 0] 30)).heap.size = w.heap.size + 1 + 1 + 1 + 1 := by simp
  clear hr hq hok r1 r2 hx hlk hm2
  go_enter Tryz.func22, Tryz.ntmps22
  go_wp2_with fail
  generalize hW : (((w.alloc (.cells #[.slice (some ⟨b, off, none⟩) n c] 35)).alloc (.cells #[.int .i64 0, .int .i64 0, .slice none 0 0, .slice none 0 0, .slice none 0 0] 30)).alloc (.cells #[.int .i64 f.params, .int .i64 f.vars, .slice B1 m1 d1, .slice B2 m2 d2] 59)).alloc (.cells #[.int .i64 f.params, .int .i64 f.vars, .slice none 0 0, .slice none 0 0, .slice none 0 0] 30) = W0 at hb0 kz0 kf0 kc0 hs0 ⊢
  clear hW g0 g1 g2 g3
  refine (CS.out W0 hb0).mono ?_
  rintro e w1 ⟨v0, rfl, nu0, hb1⟩
  have b1 := hb0.trans (hb1.mono hb0.size)
  have kz1 := kz0.below hb1
  have kf1 := kf0.below hb1
  have kc1 := kc0.below hb1
  have hs1 : w.heap.size + 1 + 1 + 1 + 1 ≤ w1.heap.size := by have := hb1.size; omega
  rw [hs0] at nu0
  clear hb0 kz0 kf0 kc0 hb1 hs0 CS
  obtain ⟨S, hS⟩ : ∃ S, (sitesL f).length = S := ⟨_, rfl⟩
  obtain ⟨A0, c0, hv0, HC0⟩ := nu0.form0
  rw [hS] at hv0
  subst hv0
  have HC0 := put HC0
  have HS := put hS
  have hSb : S ≤ 1000 := by have := HSL.out; omega
  have st0 : CSt w1 w1.heap.size (w.heap.size + 1 + 1 + 1) f.params f.vars (.slice none 0 0) (.slice none 0 0) (.slice none 0 0) [] [] [] := ⟨kc1, Nums.nil _ _ _ _, Inss.nil _ _, Rws.nil _ _⟩
  have hCw : w.heap.size + 1 + 1 + 1 < w1.heap.size := by omega
  have KZ := put kz1
  have KF := put kf1
  clear nu0 hS kz1 kf1 kc1
  go_wp2
  go_loopw [25] (fun i wr => ∃ k : Nat, k ≤ S ∧ i = .int .i64 k ∧ (∃ vs, CSt wr w1.heap.size (w.heap.size + 1 + 1 + 1) f.params f.vars vs (.slice none 0 0) (.slice none 0 0) (((sitesL f).take k).map (siteN f)) [] []) ∧ OldB w1 (w.heap.size + 1 + 1 + 1) wr) (fun i _ => S - (intOf i).toNat)
  case atStart => exact ⟨0, Nat.zero_le _, rfl, ⟨_, st0⟩, OldB.refl _ _⟩
  case round =>
    clear st0
    obtain ⟨k, hk, rfl, ⟨vs, st⟩, old⟩ := hrel
    have kf := old.keep KF.out (by omega)
    by_cases hlt : k < S
    · obtain ⟨y, hy⟩ : ∃ y, (sitesL f)[k]? = some y := ⟨_, List.getElem?_eq_getElem (by have := HS.out; omega)⟩
      obtain ⟨gs, hgs, hgs1, hgs2, hc⟩ := HC0.out k y hy
      subst hgs
      have hyc : wr.cell? ⟨gs, k, none⟩ = some (.int .i64 y) := (World.cell?_of_block (old.block gs hgs2 (by omega))).trans hc
      have hyr := HSI.out y (List.mem_of_getElem? hy)
      obtain ⟨p, rfl⟩ : ∃ p : Nat, y = p := ⟨y.toNat, by omega⟩
      obtain ⟨b2, off2, s, D1, x1, e1, D2, x2, e2, D3, x3, e3, hA2, hbb2, t0, t1, t2, t3, t4, _, _, _, hxs⟩ := (R2.out wr (old.toBelow b1 b1.size (by omega))).at_ (j := p) (by omega)
      subst hA2
      have HM := put (show ((sitesL f).take (k + 1)).map (siteN f) = ((sitesL f).take k).map (siteN f) ++ [s.n] by
        rw [takeA_more hy]
        simp [siteN, hxs.out])
      have HX := put (show (((sitesL f).take k).map (siteN f)).length ≤ 1000000 by simp; omega)
      generalize ((sitesL f).take k).map (siteN f) = xs at st HM HX
      have hpm : p < m2 := by omega
      have y3 := kf.cell 3
      have z2 := st.box.cell 2
      simp at y3 z2
      have oldA := old.below ((Below.refl wr.heap.size wr).alloc (Nat.le_refl _) (.cells #[.int .i64 s.n] 3))
      have stA := st.below ((Below.refl wr.heap.size wr).alloc (Nat.le_refl _) (.cells #[.int .i64 s.n] 3))
      have hos := old.size
      have hCr : w.heap.size + 1 + 1 + 1 < wr.heap.size := by omega
      have hfr : w.heap.size + 1 + 1 < wr.heap.size := by omega
      have hbr : b2 < wr.heap.size := by have := b1.size; omega
      have z2a := stA.box.cell 2
      have y3a := (kf.alloc (.cells #[.int .i64 s.n] 3)).cell 3
      have t1a := (World.cell?_of_block (a := ⟨b2, off2 + p * 5 + 1, none⟩) (Below.heap_alloc wr (.cells #[.int .i64 s.n] 3) b2 hbr)).trans t1
      simp only [List.getElem?_toArray] at z2a y3a
      clear t0 t2 t3 t4 hc
      go_wp2
      go_region_law (first | (refine step_append1 rfl (.tmp 30) (.tmp 37) rfl w1.heap.size _ xs rfl (by simp; omega) stA.sites wr.heap.size s.n rfl (by simp) HX.out ?_; intro v2 w2 hown2 hgr _; obtain ⟨A9, n9, c9, rfl⟩ := slice_of hown2; have kb := stA.box.apart (w := (wr.alloc (.cells #[.int .i64 s.n] 3)).drew) hgr stA.sites (by decide); have u2 := kb.cell 2; have u3 := kb.frozen 2; simp at u2))
      all_goals (
        have st2 := CSt.grownS (W := (wr.alloc (.cells #[.int .i64 s.n] 3)).drew) ⟨stA.box, stA.sites, stA.ins, stA.rows⟩ hCw hgr hown2
        have old2 := (OldB.grown (W := (wr.alloc (.cells #[.int .i64 s.n] 3)).drew) ⟨oldA.os, oldA.tape, oldA.output, oldA.size, oldA.block⟩ hgr (fun k hk => (World.ownsRow.lt stA.sites k hk).1)).set (i := 2) (v := .slice A9 n9 c9)
        go_wp2
        go_roundw
        case rel => exact ⟨k + 1, by omega, by go_num, ⟨_, by rw [HM.out]; exact st2⟩, old2⟩
        case measure => simp [intOf]; omega)
    · obtain rfl : k = S := by omega
      have hfin : ((sitesL f).take k).map (siteN f) = (sitesL f).map (siteN f) := by rw [List.take_of_length_le (by have := HS.out; omega)]
      rw [hfin] at st
      have hxl : ((sitesL f).map (siteN f)).length = k := by rw [List.length_map]; exact HS.out
      have HXL := put hxl
      obtain ⟨Avs, cvs, hvs, _⟩ := st.sites.form0
      rw [hxl] at hvs
      subst hvs
      have bw : Below w.heap.size w wr := old.toBelow b1 b1.size (by omega)
      have hos := old.size
      obtain ⟨L0, hL0⟩ : ∃ L, lowB (lowSt f f.stmts.length) f.body 0 = L := ⟨_, rfl⟩
      have HL0 := put (show lowIs f = L0 ++ [(16, 0)] by unfold lowIs; rw [hL0])
      rw [hL0] at CB
      obtain ⟨P, hP⟩ : ∃ P, (lowIs f).length = P := ⟨_, rfl⟩
      have hP1 : P ≤ 901 := by have := HIS.out; omega
      have HP := put hP
      have HL6 := put (show L0.length ≤ 1000000 by have h := hP; rw [HL0.out] at h; simp at h; omega)
      have y0 := kf.cell 0
      have y1 := kf.cell 1
      have y2 := kf.cell 2
      have y3 := kf.cell 3
      simp at y0 y1 y2 y3
      have hwS : IntKind.i64.wrap ((k : Int) - 1) = (k : Int) - 1 := IntWalk.i64_in _ ⟨by omega, by omega⟩
      clear hfin hxl hL0 hP
      go_wp2_with fail
      refine (CB.out wr bw).mono ?_
      rintro e w2 ⟨v3, rfl, nu3, hb2⟩
      have hs2 := hb2.size
      have nb := (Below.refl w2.heap.size w2).alloc (Nat.le_refl _) (.cells #[.int .i64 16, .int .i64 0] 83)
      have nl := Inss.lit1 w2 16 0
      have nu3' := nu3.below nb
      clear y0 y1 y2 y3 nu3
      go_wp2_with (
        at_builtin
        refine wpList_append_inssG rfl _ _ rfl wr.heap.size _ L0 rfl (by simp; omega) nu3' w2.heap.size _ [(16, 0)] rfl nl HL6.out (by simp) ?_
        intro v4 w4 hown4 hbel4 _
        rw [← HL0.out] at hown4
        obtain ⟨A4, c4, hv4, _⟩ := hown4.reads
        rw [HP.out] at hv4
        subst hv4
        have hb4 : Below wr.heap.size wr w4 := hb2.trans ((nb.mono hb2.size).trans hbel4)
        have st4 := st.below hb4
        have old4 := old.below hb4
        have stI := st4.putI hCw (hown4.under hos)
        have oldI := old4.set (i := 3) (v := .slice A4 P c4)
        have stA := stI.below ((Below.refl _ _).alloc (Nat.le_refl _) (.cells #[.int .i64 0, .int .i64 (P : Int), .int .i64 (P : Int)] 85))
        have oldA := oldI.below ((Below.refl _ _).alloc (Nat.le_refl _) (.cells #[.int .i64 0, .int .i64 (P : Int), .int .i64 (P : Int)] 85))
        have stR := stA.putR hCw ((Rws.lit (w4.setCell ⟨w.heap.size + 1 + 1 + 1, 3, none⟩ (.slice A4 P c4)) 0 P P).under (by have := old4.size; simpa [World.setCell] using this))
        have oldR := oldA.set (i := 4) (v := .slice (some ⟨w4.heap.size, 0, none⟩) 1 1)
        have p3 := st4.box.cell 3
        have p4 := st4.box.cell 4
        have p2 := st4.box.cell 2
        have q3 := st4.box.frozen 3
        have q4 := st4.box.frozen 4
        have hC4 : w.heap.size + 1 + 1 + 1 < w4.heap.size := by have := old4.size; omega
        simp at p2 p3 p4
        clear nb nl nu3' hbel4 hown4)
      have hRW : (w4.setCell ⟨w.heap.size + 1 + 1 + 1, 3, none⟩ (.slice A4 P c4)).heap.size = w4.heap.size := by simp [World.setCell]
      rw [hRW, World.setCell_alloc_past _ _ _ _ (show w.heap.size + 1 + 1 + 1 < (w4.setCell ⟨w.heap.size + 1 + 1 + 1, 3, none⟩ (.slice A4 P c4)).heap.size by rw [hRW]; exact hC4)] at stR
      rw [World.setCell_alloc_past _ _ _ _ (show w.heap.size + 1 + 1 + 1 < (w4.setCell ⟨w.heap.size + 1 + 1 + 1, 3, none⟩ (.slice A4 P c4)).heap.size by rw [hRW]; exact hC4)] at oldR
      generalize hW9 : ((w4.setCell ⟨w.heap.size + 1 + 1 + 1, 3, none⟩ (.slice A4 P c4)).setCell ⟨w.heap.size + 1 + 1 + 1, 4, none⟩ (.slice (some ⟨w4.heap.size, 0, none⟩) 1 1)).alloc (.cells #[.int .i64 0, .int .i64 (P : Int), .int .i64 (P : Int)] 85) = w9 at stR oldR ⊢
      clear hW9 hRW stA stI st4 old4 oldI oldA p2 p3 p4 q3 q4 hC4 hb4 hb2 hs2 st old CB kf
      have HSK := HS
      go_loopw [10] (fun i wy => ∃ m : Nat, m ≤ k ∧ i = .int .i64 ((k : Int) - 1 - (m : Int)) ∧ (∃ vi vr, CSt wy w1.heap.size (w.heap.size + 1 + 1 + 1) f.params f.vars (.slice Avs k cvs) vi vr ((sitesL f).map (siteN f)) (lowIs f ++ offsTo k m) ((0, (P : Int), (P : Int)) :: rowsTo P m)) ∧ OldB w1 (w.heap.size + 1 + 1 + 1) wy) (fun i _ => (intOf i + 1).toNat)
      case atStart => exact ⟨0, Nat.zero_le _, by simp, ⟨_, _, by simpa [offsTo, rowsTo] using stR⟩, oldR⟩
      case round =>
        clear stR oldR
        obtain ⟨m, hm, rfl, ⟨vi, vr, st⟩, old⟩ := hrel
        obtain ⟨kk, hkk⟩ : ∃ kk : Int, (k : Int) - 1 - (m : Int) = kk := ⟨_, rfl⟩
        rw [hkk]
        have HKK := put hkk
        obtain ⟨L, hL⟩ : ∃ L, (lowIs f ++ offsTo k m).length = L := ⟨_, rfl⟩
        have hLP : L = P + m := by rw [← hL, List.length_append, HP.out, offsTo_length]
        obtain ⟨Ai, ci, hvi, _⟩ := st.ins.reads
        rw [hL] at hvi
        subst hvi
        obtain ⟨Ar, nr, cr, rfl⟩ := slice_of st.rows
        have HLP := put hLP
        have HL9 := put hL
        have hL9 : L ≤ 2000 := by omega
        have hos := old.size
        have hCr : w.heap.size + 1 + 1 + 1 < wr.heap.size := by omega
        clear hL hLP
        by_cases hge : 0 ≤ kk
        · have HM1 := put (show lowIs f ++ offsTo k (m + 1) = lowIs f ++ offsTo k m ++ [(17, kk)] by rw [← HKK.out]; simp [offsTo])
          have HM2 := put (show (0, (P : Int), (P : Int)) :: rowsTo P (m + 1) = ((0, (P : Int), (P : Int)) :: rowsTo P m) ++ [((L : Int), (L : Int) + 1, (L : Int) + 1)] by rw [HLP.out]; simp [rowsTo])
          have HX1 := put (show (lowIs f ++ offsTo k m).length ≤ 1000000 by rw [HL9.out]; omega)
          have HX2 := put (show ((0, (P : Int), (P : Int)) :: rowsTo P m).length ≤ 1000000 by rw [List.length_cons, rowsTo_length]; omega)
          have hwk : IntKind.i64.wrap (kk - 1) = kk - 1 := IntWalk.i64_in _ ⟨by omega, by omega⟩
          have hwL : IntKind.i64.wrap ((L : Int) + 1) = (L : Int) + 1 := IntWalk.i64_in _ ⟨by omega, by omega⟩
          have nb := (Below.refl wr.heap.size wr).alloc (Nat.le_refl _) (.cells #[.int .i64 17, .int .i64 kk] 83)
          have nl := Inss.lit1 wr 17 kk
          have stA := st.below nb
          have oldA := old.below nb
          have z3 := st.box.cell 3
          simp at z3
          generalize hIS : lowIs f ++ offsTo k m = IS at st stA HM1 HX1
          generalize hRS : (0, (P : Int), (P : Int)) :: rowsTo P m = RS at st stA HM2 HX2
          clear hIS hRS HL9 HLP
          go_wp2_with (first
            | (
              at_builtin
              refine wpList_append_inssG rfl _ _ rfl w1.heap.size _ IS rfl (by simp; omega) stA.ins wr.heap.size _ [(17, kk)] rfl nl HX1.out (by simp) ?_
              intro v5 w5 hown5 hbel5 hg5
              obtain ⟨A5, n5, c5, rfl⟩ := slice_of hown5
              have kb5 := stA.box.apart hg5 stA.ins (by decide)
              have st5 := stA.grownI hCw hg5 hown5
              have old5 := (oldA.grown hg5 (fun j hj => (World.ownsRow.lt stA.ins j hj).1)).set (i := 3) (v := .slice A5 n5 c5)
              have nb5 := (Below.refl _ (w5.setCell ⟨w.heap.size + 1 + 1 + 1, 3, none⟩ (.slice A5 n5 c5))).alloc (Nat.le_refl _) (.cells #[.int .i64 (L : Int), .int .i64 ((L : Int) + 1), .int .i64 ((L : Int) + 1)] 85)
              have stB := st5.below nb5
              have oldB := old5.below nb5
              have p3 := kb5.cell 3
              have p4 := kb5.cell 4
              have f3 := kb5.frozen 3
              have hC5 : w.heap.size + 1 + 1 + 1 < w5.heap.size := by have := old5.size; simp [World.setCell] at this; omega
              have hsz5 : (w5.setCell ⟨w.heap.size + 1 + 1 + 1, 3, none⟩ (.slice A5 n5 c5)).heap.size = w5.heap.size := by simp [World.setCell]
              have kr := Keep.new (w5.setCell ⟨w.heap.size + 1 + 1 + 1, 3, none⟩ (.slice A5 n5 c5)) #[.int .i64 (L : Int), .int .i64 ((L : Int) + 1), .int .i64 ((L : Int) + 1)] 85
              rw [hsz5] at kr
              have x0c := kr.cell 0
              have x1c := kr.cell 1
              have x2c := kr.cell 2
              simp only [List.getElem?_toArray, List.getElem?_cons_zero, List.getElem?_cons_succ] at x0c x1c x2c
              have hw5 : w1.heap.size ≤ w5.heap.size + 1 := by have := old5.size; omega
              simp at p3 p4
              clear st5 old5 nb5 st old)
            | (
              at_builtin
              refine wpList_append_row rfl _ _ rfl w1.heap.size _ RS rfl (by simp [World.setCell]; omega) stB.rows w5.heap.size (L : Int) ((L : Int) + 1) ((L : Int) + 1) rfl x0c x1c x2c HX2.out ?_
              intro v6 w6 hown6 hg6
              obtain ⟨A6, n6, c6, rfl⟩ := slice_of hown6
              have kb6 := stB.box.apart hg6 stB.rows (by decide)
              have r4 := kb6.cell 4
              have e4 := kb6.frozen 4
              simp at r4))
          have st6 := stB.grownR hCw hg6 hown6
          have old6 := (oldB.grown hg6 (fun j hj => (World.ownsRow.lt stB.rows j hj).1)).set (i := 4) (v := .slice A6 n6 c6)
          go_roundw
          case rel => exact ⟨m + 1, by have := HKK.out; omega, by have := HKK.out; congr 1; omega, ⟨_, _, by rw [HM1.out, HM2.out]; exact st6⟩, old6⟩
          case measure => simp [intOf]; omega
        · obtain rfl : m = k := by have := HKK.out; omega
          replace hge : kk < 0 := by omega
          have HX1 := put (show (lowIs f ++ offsTo m m).length ≤ 1000000 by rw [HL9.out]; omega)
          have nb := (Below.refl wr.heap.size wr).alloc (Nat.le_refl _) (.cells #[.int .i64 18, .int .i64 0] 83)
          have nl := Inss.lit1 wr 18 0
          have stA := st.below nb
          have oldA := old.below nb
          have kz := old.keep KZ.out (by omega)
          have z3 := st.box.cell 3
          simp at z3
          generalize hIS : lowIs f ++ offsTo m m = IS at st stA HX1
          go_wp2_with (
            at_builtin
            refine wpList_append_inssG rfl _ _ rfl w1.heap.size _ IS rfl (by simp; omega) stA.ins wr.heap.size _ [(18, 0)] rfl nl HX1.out (by simp) ?_
            intro v5 w5 hown5 hbel5 hg5
            obtain ⟨A5, n5, c5, rfl⟩ := slice_of hown5
            have kb5 := stA.box.apart hg5 stA.ins (by decide)
            have kz5 := (kz.below nb).apart hg5 stA.ins (by decide)
            have st5 := stA.grownI hCw hg5 hown5
            have kz6 := kz5.other (g' := w.heap.size + 1 + 1 + 1) (by omega) 3 (.slice A5 n5 c5)
            have old5 := (oldA.grown hg5 (fun j hj => (World.ownsRow.lt stA.ins j hj).1)).set (i := 3) (v := .slice A5 n5 c5)
            have p3 := kb5.cell 3
            have f3 := kb5.frozen 3
            have t0 := st5.box.cell 0
            have t1 := st5.box.cell 1
            have t2 := st5.box.cell 2
            have t3 := st5.box.cell 3
            have t4 := st5.box.cell 4
            have s0 := kz6.cell 0
            have s1 := kz6.cell 1
            have s2 := kz6.cell 2
            have s3 := kz6.cell 3
            have s4 := kz6.cell 4
            have e0 := kz6.frozen 0
            have e1 := kz6.frozen 1
            have e2 := kz6.frozen 2
            have e3 := kz6.frozen 3
            have e4 := kz6.frozen 4
            simp at p3
            simp only [List.getElem?_toArray, List.getElem?_cons_zero, List.getElem?_cons_succ] at t0 t1 t2 t3 t4 s0 s1 s2 s3 s4
            clear st old stA oldA kz kz5 kb5 nb nl)
          have kF := ((((kz6.set 0 (.int .i64 f.params)).set 1 (.int .i64 f.vars)).set 2 (.slice Avs m cvs)).set 3 (.slice A5 n5 c5)).set 4 (.slice Ar nr cr)
          simp at kF
          have hz1 : w.heap.size + 1 < w1.heap.size := by omega
          have nS := row_set5 (show (w5.setCell ⟨w.heap.size + 1 + 1 + 1, 3, none⟩ (.slice A5 n5 c5)).ownsRow w1.heap.size 3 1 (.slice Avs m cvs) ((sitesL f).map (siteN f)).length (((sitesL f).map (siteN f)).map (Value.int .i64)) from st5.sites) hz1 (.int .i64 f.params) (.int .i64 f.vars) (.slice Avs m cvs) (.slice A5 n5 c5) (.slice Ar nr cr)
          have nI := row_set5 st5.ins hz1 (.int .i64 f.params) (.int .i64 f.vars) (.slice Avs m cvs) (.slice A5 n5 c5) (.slice Ar nr cr)
          have nR := row_set5 st5.rows hz1 (.int .i64 f.params) (.int .i64 f.vars) (.slice Avs m cvs) (.slice A5 n5 c5) (.slice Ar nr cr)
          have hbF := (((((old5.toBelow b1 b1.size (by omega)).setCell (p := ⟨w.heap.size + 1, 0, none⟩) (by simp) (.int .i64 f.params)).setCell (p := ⟨w.heap.size + 1, 1, none⟩) (by simp) (.int .i64 f.vars)).setCell (p := ⟨w.heap.size + 1, 2, none⟩) (by simp) (.slice Avs m cvs)).setCell (p := ⟨w.heap.size + 1, 3, none⟩) (by simp) (.slice A5 n5 c5)).setCell (p := ⟨w.heap.size + 1, 4, none⟩) (by simp) (.slice Ar nr cr)
          have hIS2 := put hIS
          generalize hWF : (((((w5.setCell ⟨w.heap.size + 1 + 1 + 1, 3, none⟩ (.slice A5 n5 c5)).setCell ⟨w.heap.size + 1, 0, none⟩ (.int .i64 f.params)).setCell ⟨w.heap.size + 1, 1, none⟩ (.int .i64 f.vars)).setCell ⟨w.heap.size + 1, 2, none⟩ (.slice Avs m cvs)).setCell ⟨w.heap.size + 1, 3, none⟩ (.slice A5 n5 c5)).setCell ⟨w.heap.size + 1, 4, none⟩ (.slice Ar nr cr) = WF at kF nS nI nR hbF ⊢
          clear hWF t0 t1 t2 t3 t4 s0 s1 s2 s3 s4 e0 e1 e2 e3 e4 p3 f3 kz6 old5 st5 hown5 hbel5 hg5
          have q0 := kF.cell 0
          have q1 := kF.cell 1
          have q2 := kF.cell 2
          have q3 := kF.cell 3
          have q4 := kF.cell 4
          simp only [List.getElem?_toArray, List.getElem?_cons_zero, List.getElem?_cons_succ] at q0 q1 q2 q3 q4
          have hC : lowC f = ⟨f.params, f.vars, (sitesL f).map (siteN f), IS ++ [(18, 0)], (0, (P : Int), (P : Int)) :: rowsTo P m⟩ := by unfold lowC; rw [HS.out, HP.out, ← hIS2.out]
          exact bodyPost_ret (v := .agg #[.int .i64 f.params, .int .i64 f.vars, .slice Avs m cvs, .slice A5 n5 c5, .slice Ar nr cr]) (by simp [results, Tryz.results22, go_sem, q0, q1, q2, q3, q4]) rfl ⟨.slice Avs m cvs, .slice A5 n5 c5, .slice Ar nr cr, by rw [hC], by rw [hC]; exact OwnCd.under (B := w1.heap.size) ⟨nS, nI, nR⟩ b1.size, hbF⟩

end Go.Proofs.YtpmpjiigmjnniaaGreat

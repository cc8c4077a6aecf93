/-
  The reference's drawing of statements: its contract, for every depth.
  The reference's drawing of programs: its contract.
  The program that is known to recover: what is kept while it is made.
  The program that is known to recover: its drawing.
  The reference's drawing of a program, either way.
-/
import Derived.Test.YtfdijeeilfhjeaaStmts
import Derived.Test.YtfdijeeilfhjeaaPkD
import Derived.Test.YtfdijeeilfhjeaaSpB
import Derived.Deep.DeepCutAuto
import Derived.Deep.CutBlock
namespace Go.Proofs.Ytfdijeeilfhjeaa
open Go.RowKit Exs

theorem stmts_any : ∀ (d : Nat) (y : Int) (F : Fix) (T : Nat) (cs : List C5) (b : Bool), y = d → d ≤ 2 → F.Ok → Out F F.w0 T F.sv0 cs (.slice none 0 0) [] → cs.length ≤ 12 → T + cost d ≤ 700000 → 0 ≤ F.vs → F.vs ≤ 6 → F.ps.getD 0 0 = 0 →
    Calls Try.prog 127 #[.pointer (some ⟨F.gc, 0, none⟩), .pointer (some ⟨F.gf, 0, none⟩), .slice (some ⟨F.p, 0, none⟩) F.np F.cp, .int .i64 y, .bool b] F.w0 (GivesS F (T + cost d) cs.length)
  | 0, y, F, T, cs, b, hy, hd, ok, ho, hc, hT, h0, h6, hp => stmts_more 0 hd y hy F T cs b ok ho hc hT h0 h6 hp (fun _ _ _ _ _ h => absurd h (by omega))
  | d + 1, y, F, T, cs, b, hy, hd, ok, ho, hc, hT, h0, h6, hp =>
    stmts_more (d + 1) hd y hy F T cs b ok ho hc hT h0 h6 hp (fun z G S es lp (_ : 1 ≤ d + 1) (hz : z = ((d + 1 : Nat) : Int) - 1) hok hout hes (hS : S + cost (d + 1 - 1) ≤ 700000) g0 g6 gp => stmts_any d z G S es lp (by omega) (by omega) hok hout hes hS g0 g6 gp)

end Go.Proofs.Ytfdijeeilfhjeaa
namespace Go.Proofs.Ytfdijeeilfhjeaa
open Go.RowKit Exs

theorem cost_le {d : Nat} (h : d ≤ 2) : cost d ≤ 39130 := by
  have := stp_le h
  unfold cost; omega

theorem getD_snoc {xs : List Int} {x : Int} (h : 1 ≤ xs.length) : (xs ++ [x]).getD 0 0 = xs.getD 0 0 := by
  cases xs with
  | nil => simp at h
  | cons a r => rfl
theorem Fns.slice3 {w : World} {B lo : Nat} {v : Value} {cs : List C4} (h : Fns w B lo v cs) : ∃ A m c, v = .slice A m c := by
  rcases h.shape with ⟨h, _⟩ | ⟨g, c, h⟩
  · exact ⟨_, _, _, h⟩
  · exact ⟨_, _, _, h⟩
theorem PSt.boxKept {w : World} {gc : Nat} {A : Option Addr} {n c T gp p np cp : Nat} {ps : List Int} {wr w' : World} {fv : Value} {fs : List C4} (h : PSt w gc A n c T gp p np cp ps wr fv fs) (hg : wr.grownBy w' fv.ownBlock) : Keep w' gp #[fv] 44 := by
  have hk : KeptX (fun k => some k = fv.ownBlock) wr w' := KeptX.of_grownBy hg (fun k e => e.symm)
  refine hk.keep h.box (fun e => ?_)
  obtain ⟨ce, hh⟩ := h.fns.tag e
  exact absurd (h.box.tagNe hh) (by decide)

set_option maxHeartbeats 4000000 in
set_option maxRecDepth 100000 in
theorem prog_any (gc : Nat) (A : Option Addr) (n c T : Nat) (w : World) (hc : Cur w gc A n c T) (hT : T ≤ 300000) :
    Calls Try.prog 114 #[.pointer (some ⟨gc, 0, none⟩)] w (GivesP gc A n c (T + 250000) w) := by
  have HGC := put hc.lt
  have hcW := (hc.alloc (.cells #[.slice none 0 0] 44)).alloc (.cells #[.int .i64 0] 3)
  have hkW := (Keep.new w #[.slice none 0 0] 44).alloc (.cells #[.int .i64 0] 3)
  have hnW : Nums ((w.alloc (.cells #[.slice none 0 0] 44)).alloc (.cells #[.int .i64 0] 3)) (w.heap.size + 1) 3 .i64 (.slice (some ⟨w.heap.size + 1, 0, none⟩) 1 1) [0] :=
    Nums.of_room (xs := [0]) ⟨#[.int .i64 0], by have := heap_alloc_new (w.alloc (.cells #[.slice none 0 0] 44)) (.cells #[.int .i64 0] 3); rwa [World.size_alloc] at this, rfl, rfl⟩ (Nat.le_refl _) (Nat.le_refl _) (by unfold maxLen; omega)
  have hxW : KeptX (fun k => k = gc) w ((w.alloc (.cells #[.slice none 0 0] 44)).alloc (.cells #[.int .i64 0] 3)) := ((KeptX.refl _ w).alloc _).alloc _
  go_enter Try.func114, Try.ntmps114
  go_wp2_with fail
  generalize (w.alloc (.cells #[.slice none 0 0] 44)).alloc (.cells #[.int .i64 0] 3) = W0 at hcW hkW hnW hxW ⊢
  refine (pick_any gc A n c T 4 _ hcW (by omega) (by omega) (by omega)).mono ?_
  rintro e w1 ⟨q, hq0, hq1, rfl, hc1, hg1⟩
  have hk1 : Keep w1 w.heap.size #[.slice none 0 0] 44 := (KeptX.of_grownBy hg1 (fun k e => by injection e with e; exact e.symm) : KeptX (fun k => k = gc) W0 w1).keep hkW (by have := HGC.out; omega)
  have hn1 := hnW.cur hcW hg1
  have hx1 : KeptX (fun k => k = gc) w w1 := hxW.trans (KeptX.of_grownBy hg1 (fun k e => by injection e with e; exact e.symm))
  obtain ⟨m0, rfl⟩ := Int.eq_ofNat_of_zero_le hq0
  have hm0 : m0 ≤ 3 := by omega
  clear hcW hkW hnW hxW hg1 hq0 hq1
  go_wp2
  go_loopw [3, 4] (fun v i wr => ∃ (m : Nat) (ps : List Int), m ≤ 3 ∧ i = .int .i64 m ∧ Nums wr (w.heap.size + 1) 3 .i64 v ps ∧ Keep wr w.heap.size #[.slice none 0 0] 44 ∧ Cur wr gc A n c (T + 2 + 2 * (3 - m)) ∧ KeptX (fun k => k = gc) w wr ∧ Hid (1 ≤ ps.length ∧ ps.length + m ≤ 4 ∧ ps.getD 0 0 = 0 ∧ ∀ x ∈ ps, 0 ≤ x ∧ x ≤ 2)) (fun _ i _ => (intOf i).toNat)
  case atStart => exact ⟨m0, [0], hm0, rfl, hn1, hk1, hc1.more (by omega), hx1, put ⟨by simp, by simp; omega, rfl, by simp⟩⟩
  case round =>
    clear hn1 hk1 hc1 hx1
    obtain ⟨m, ps, hm3, rfl, hn, hk, hcur, hx, hps⟩ := hrel
    have hkl := hk.lt
    have hsz := hx.size
    rcases (show m = 0 ∨ 0 < m by omega) with h0 | h0
    · subst h0
      rcases hn.to_room with ⟨_, h⟩ | ⟨p, cp, rfl, hpB, hroom, hcp, hcm⟩
      · have := hps.out.1; rw [h] at this; simp at this
      have hpars : Pars wr p ps.length cp ps := ⟨hroom, rfl, hcp, hps.out.1, by have := hps.out.2.1; omega, hps.out.2.2.2⟩
      have HP0 := put hps.out.2.2.1
      have HPV := put hps.out.2.2.2
      have hnp : 1 ≤ ps.length ∧ ps.length ≤ 4 := ⟨hps.out.1, by have := hps.out.2.1; omega⟩
      have hP : PSt w gc A n c (T + 10) wr.heap.size p ps.length cp ps (wr.alloc (.cells #[.slice none 0 0] 44)) (.slice none 0 0) [] :=
        ⟨(hcur.more (by omega)).alloc _, hk.alloc _, Keep.new _ _ _, Fns.nil _ _ _, hpars.keptX (X := fun _ => False) ((KeptX.refl _ wr).alloc _) (fun x => x), hx.alloc _, by omega, by omega⟩
      clear hn hroom hpars hps hcur hk
      obtain ⟨np, hnpe⟩ : ∃ np, ps.length = np := ⟨_, rfl⟩
      rw [hnpe] at hP hnp ⊢
      have HNP := put hnpe
      clear hnpe
      have hnp1 := hnp.1
      have hnp4 := hnp.2
      clear hnp hcp
      generalize hgp : wr.heap.size = gp at hP hkl hsz
      go_wp2
      go_loopw [24] (fun i wz => ∃ (j : Nat) (fv : Value) (fs : List C4), j ≤ np ∧ i = .int .i64 j ∧ Hid (fs.length = j) ∧ PSt w gc A n c (T + 10 + 40000 * j) gp p np cp ps wz fv fs) (fun i _ => np - (intOf i).toNat)
      case atStart => exact ⟨0, _, [], Nat.zero_le _, rfl, rfl, hP⟩
      case round =>
        clear hP hx
        obtain ⟨j, fv, fs, hj, rfl, hfl, hP⟩ := hrel
        have y0 := hP.box.cell 0
        have r0 := hP.res.cell 0
        have rf := hP.res.frozen 0
        simp at y0 r0
        obtain ⟨Af, df, hfv⟩ : ∃ A d, fv = .slice A fs.length d := by
          rcases hP.fns.shape with ⟨rfl, rfl⟩ | ⟨g, d, rfl⟩
          · exact ⟨none, 0, rfl⟩
          · exact ⟨_, _, rfl⟩
        subst hfv
        by_cases hlt : j < np
        · have hcell := hP.pars.row.cell j (by rw [hP.pars.len]; exact hlt)
          have hbd := hP.pars.getD hlt
          generalize ps.getD j 0 = pj at hcell hbd
          obtain ⟨hb0, hb2⟩ := hbd
          go_wp2_with fail
          refine (pick_any gc A n c _ 3 _ hP.cur (by omega) (by omega) (by omega)).mono ?_
          rintro e w1 ⟨q1, hq10, hq11, rfl, hc1, hg1⟩
          have hP1 := hP.cursor HGC.out hg1 hc1
          have hw1 : IntKind.i64.wrap (pj + q1) = pj + q1 := IntWalk.i64_in _ ⟨by omega, by omega⟩
          clear hP y0 r0 rf hcell hc1 hg1
          go_wp2_with fail
          refine (l1Least_any 6 (pj + q1) w1).mono ?_
          rintro e w1' ⟨rfl, rfl⟩
          obtain ⟨vv, hvv⟩ : ∃ vv, min 6 (pj + q1) = vv := ⟨_, rfl⟩
          rw [hvv]
          have HV := put (show 0 ≤ vv ∧ vv ≤ 6 by omega)
          clear hvv
          have hP2 := hP1.alloc (.cells #[.int .i64 pj, .int .i64 vv, .slice none 0 0, .slice none 0 0] 58)
          have hgc := HGC.out
          have hgf : w.heap.size ≤ w1.heap.size := hP1.kept.size
          have hbox : gp ≠ w1.heap.size := by have := hP1.box.lt; omega
          have hres : w.heap.size ≠ w1.heap.size := by have := hP1.res.lt; omega
          have hfv : ∀ k, (Value.slice Af fs.length df).ownBlock = some k → k ≠ w1.heap.size := fun k hk => by have := (World.ownsRow.lt hP1.fns.own k hk).2; omega
          have HFV := put hfv
          clear hfv
          go_wp2_with fail
          refine (pick_any gc A n c _ 2 _ hP2.cur (by omega) (by omega) (by omega)).mono ?_
          rintro e w2 ⟨q2, hq20, hq21, rfl, hc2, hg2⟩
          have hP3 := hP2.cursor HGC.out hg2 hc2
          have hf3 : Keep w2 w1.heap.size #[.int .i64 pj, .int .i64 vv, .slice none 0 0, .slice none 0 0] 58 := (KeptX.of_grownBy hg2 (fun k e => by injection e with e; exact e.symm) : KeptX (fun k => k = gc) _ w2).keep (Keep.new _ _ _) (by omega)
          obtain ⟨ok3, ho3⟩ := hP3.start HGC.out hf3 hgf
          obtain ⟨dd, hdd⟩ : ∃ dd : Nat, 1 + q2 = dd := ⟨(1 + q2).toNat, by omega⟩
          have hdd2 : dd ≤ 2 := by omega
          have hw2 : IntKind.i64.wrap (1 + q2) = (dd : Int) := by rw [hdd]; exact IntWalk.i64_in _ ⟨by omega, by omega⟩
          have hcost := cost_le hdd2
          have HOK := put ok3
          have HO3 := put ho3
          clear hP1 hP2 hc2 hg2 ok3 ho3 hdd
          go_wp2_with fail
          refine (stmts_any dd dd (PSt.fix w gc A n c p np cp ps w2 w1.heap.size pj vv) _ [] false rfl hdd2 HOK.out HO3.out (by simp) (by omega) HV.out.1 HV.out.2 HP0.out).mono ?_
          rintro e w3 ⟨v, xs, sv', cs', rfl, hout, hx3, _, h12, hx1⟩
          have hx1' := hx1 rfl
          obtain ⟨hP4, hk4, hl4⟩ := hP3.drawn HGC.out hgf hbox hres HFV.out hf3 hout hx1' hx3 h12 (fun k hk => by omega)
          have z2 : w3.cell? ⟨w1.heap.size, 2, none⟩ = some (.slice none 0 0) := hout.box.cell 2
          have zf2 : w3.frozen? ⟨w1.heap.size, 2, none⟩ = false := hout.box.frozen 2
          obtain ⟨Av, mv, cv, hv⟩ : ∃ A m c, v = .slice A m c := by obtain ⟨A, c, h, _⟩ := hout.blk.reads; exact ⟨A, _, c, h⟩
          obtain ⟨As, ms, cs2, hsv⟩ : ∃ A m c, sv' = .slice A m c := by obtain ⟨A, c, h⟩ := hout.sts.slice; exact ⟨A, _, c, h⟩
          subst hv hsv
          have y0 := hP4.box.cell 0
          have k0 := hk4.cell 0
          have k1 := hk4.cell 1
          have k2 := hk4.cell 2
          have k3 := hk4.cell 3
          simp only [List.getElem?_toArray, List.getElem?_cons_zero, List.getElem?_cons_succ] at y0 k0 k1 k2 k3
          have hsz4 := hP4.kept.size
          have HP4 := put (hP4.alloc (.cells #[.int .i64 pj, .int .i64 vv, .slice Av mv cv, .slice As ms cs2] 58))
          have HL4 := put (hl4.keptX ((KeptX.refl (fun _ => False) _).alloc (.cells #[.int .i64 pj, .int .i64 vv, .slice Av mv cv, .slice As ms cs2] 58)) (fun _ _ _ _ hx => hx.elim) (fun _ _ _ _ hx => hx.elim))
          have hss : (w3.setCell ⟨w1.heap.size, 2, none⟩ (.slice Av mv cv)).heap.size = w3.heap.size := by simp [World.setCell]
          have KN := Keep.new (w3.setCell ⟨w1.heap.size, 2, none⟩ (.slice Av mv cv)) #[.int .i64 pj, .int .i64 vv, .slice Av mv cv, .slice As ms cs2] 58
          rw [hss] at KN
          have hB4 := put (show w.heap.size ≤ ((w3.setCell ⟨w1.heap.size, 2, none⟩ (.slice Av mv cv)).alloc (.cells #[.int .i64 pj, .int .i64 vv, .slice Av mv cv, .slice As ms cs2] 58)).heap.size by rw [World.size_alloc]; omega)
          have HKN := put KN
          clear KN hss
          have HFL := hfl
          have hfl5 : fs.length ≤ 4 := by have := hfl.out; omega
          clear hP3 hP4 hk4 hl4 hout hf3 HOK HO3 hfl
          go_wp2_with (at_builtin; refine wpList_append_func rfl _ _ rfl w.heap.size 1 _ fs rfl HP4.out.fns hB4.out w3.heap.size ⟨pj, vv, .slice Av mv cv, .slice As ms cs2⟩ rfl HKN.out HL4.out (by omega) ?_; intro v6 w6 hn6 hg6 _; have HP6 := put (HP4.out.pushed HGC.out hn6 hg6); have kb6 := HP4.out.boxKept hg6; have y6 := kb6.cell 0; have f6 := kb6.frozen 0; simp only [List.getElem?_toArray, List.getElem?_cons_zero] at y6; obtain ⟨A6, m6, c6, hv6⟩ : ∃ A m c, v6 = .slice A m c := Fns.slice3 hn6; subst hv6; clear hn6 hg6 kb6 HP4 HL4 HFV)
          refine ⟨⟨_, _, _, _, _, _, _, _, _, _, _, _, _, _, _, _, _, _, _, _, _, _, _, _, _, _, _, ?rel, rfl⟩, ?measure⟩
          case rel => exact ⟨j + 1, _, _, by omega, by go_num, put (by rw [List.length_append]; have := HFL.out; simp; omega), HP6.out.more (by omega)⟩
          case measure => simp [intOf]; omega
        · obtain rfl : j = np := by omega
          have q0 : (wr.setCell ⟨w.heap.size, 0, none⟩ (.slice Af fs.length df)).cell? ⟨w.heap.size, 0, none⟩ = some (.slice Af fs.length df) := by simpa using (hP.res.set 0 (.slice Af fs.length df)).cell 0
          have HR := put ((hP.more (by omega)).done (T := T + 250000) (by have := hfl.out; omega) (by have := hfl.out; omega) HGC.out)
          go_wp2
          exact bodyPost_ret (v := .agg #[.slice Af fs.length df]) (by simp [results, Try.results114, go_sem, q0]) rfl HR.out
    · go_wp2_with fail
      refine (among_any gc A n c _ _ (hcur.alloc _) (by omega) wr.heap.size 5 [0, 0, 0, 1, 2] 0 2 (by refine Room.lit ?_ ?_ <;> rfl) rfl hcur.lt (by decide) (by decide) (by show ∀ x ∈ _, _; decide)).mono ?_
      rintro e w2 ⟨kd, hk0, hk2, rfl, hc2, hg2⟩
      have hn2 := (hn.alloc _).cur (hcur.alloc _) hg2
      have hx2 : KeptX (fun k => k = gc) _ w2 := KeptX.of_grownBy hg2 (fun k e => by injection e with e; exact e.symm)
      have hkp2 : Keep w2 w.heap.size #[.slice none 0 0] 44 := hx2.keep (hk.alloc _) (by have := HGC.out; omega)
      have hxx := (hx.alloc _).trans hx2
      have hl2 := hkp2.lt
      have HPS := hps
      have hpl : ps.length ≤ 4 := by have := hps.out.2.1; omega
      clear hn hk hcur hx hps hg2 hx2
      go_wp2_with (at_builtin; refine wpList_append_one rfl _ _ 22 rfl (w.heap.size + 1) 3 .i64 8 Try.info3 Try.underlying22 (by decide) _ ps rfl w2 ((Below.refl _ w2).alloc (by omega) _) (by simp; omega) (hn2.alloc _) w2.heap.size kd rfl (by simp) (by omega) ?_; intro v5 w5 hn5 hb5 _)
      have hgc := HGC.out
      have hk5 : Keep w5 w.heap.size #[.slice none 0 0] 44 := (hb5.block _ (by omega)).trans hkp2
      have hc5 := hc2.below hb5 (by omega)
      have hx5 : KeptX (fun k => k = gc) w w5 := ⟨hb5.os.trans hxx.os, hb5.tape.trans hxx.tape, hb5.output.trans hxx.output, Nat.le_trans hxx.size hb5.size, fun k hk' hne => (hb5.block k (by omega)).trans (hxx.block k hk' hne)⟩
      go_roundw
      case rel => exact ⟨m - 1, ps ++ [kd], by omega, by congr 1; omega, hn5, hk5, hc5.more (by omega), hx5, put ⟨by simp, by have := HPS.out.2.1; simp; omega, by
        have h1 := HPS.out.1
        exact (getD_snoc h1).trans HPS.out.2.2.1, fun x hx' => by
          rcases List.mem_append.1 hx' with h | h
          · exact HPS.out.2.2.2 x h
          · simp at h; subst h; exact ⟨hk0, hk2⟩⟩⟩
      case measure => simp [intOf]; omega

end Go.Proofs.Ytfdijeeilfhjeaa
namespace Go.Proofs.Ytfdijeeilfhjeaa
open Go.RowKit Exs

/-- A function in a variable of its own: so many statements. -/
structure KF (w : World) (B g : Nat) (c : C4) (k : Nat) : Prop where
  box : Keep w g #[.int .i64 c.p, .int .i64 c.v, c.b, c.s] 58
  body : ∃ xs, Nums w B 3 .i64 c.b xs ∧ 1 ≤ xs.length ∧ xs.length ≤ 100
  sts : ∃ cs, Sts w B c.s cs ∧ cs.length = k
theorem KF.leads {w : World} {B g : Nat} {c : C4} {k : Nat} (h : KF w B g c k) (hk : k ≤ 100) : LeadsF w B 1 c := by
  obtain ⟨cs, h1, h2⟩ := h.sts
  exact ⟨h.body, cs, h1, by omega⟩
theorem KF.keptX {w w' : World} {B g : Nat} {c : C4} {k : Nat} {X : Nat → Prop} (h : KF w B g c k) (hk : KeptX X w w') (ht : TagX w X) (hg : ¬ X g) (hs : ∀ k, c.s.ownBlock = some k → ¬ X k) : KF w' B g c k := by
  obtain ⟨xs, h1, h2⟩ := h.body
  obtain ⟨cs, h3, h4⟩ := h.sts
  exact ⟨hk.keep h.box hg, ⟨xs, h1.keptX hk ht, h2⟩, cs, h3.keptX hk ht hs, h4⟩
theorem KF.alloc {w : World} {B g : Nat} {c : C4} {k : Nat} (h : KF w B g c k) (o : Obj) : KF (w.alloc o) B g c k :=
  h.keptX (X := fun _ => False) ((KeptX.refl _ w).alloc o) (fun _ _ _ _ hx => hx.elim) (fun x => x) (fun _ _ x => x)
theorem KF.sLt {w : World} {B g : Nat} {c : C4} {k : Nat} (h : KF w B g c k) {i : Nat} (hi : c.s.ownBlock = some i) : B ≤ i ∧ i < w.heap.size := by
  obtain ⟨cs, h3, _⟩ := h.sts
  exact World.ownsRow.lt h3.own i hi
theorem KF.sTag {w : World} {B g : Nat} {c : C4} {k : Nat} (h : KF w B g c k) {i : Nat} (hi : c.s.ownBlock = some i) : ∃ ce, w.heap[i]? = some (.cells ce 106 (0, 0)) := by
  obtain ⟨cs, h3, _⟩ := h.sts
  exact h3.tag hi.symm

/-- A function of one statement, as it is written down. -/
theorem KF.lit (W : World) (B : Nat) (hB : B ≤ W.heap.size) (op x : Int) :
    KF ((((W.alloc (.cells #[.int .i64 op, .int .i64 x] 107)).alloc (.cells #[.int .i64 2, .int .i64 0, .slice (some ⟨W.heap.size, 0, none⟩) 1 1, .slice none 0 0, .slice none 0 0] 106)).alloc (.cells #[.int .i64 0] 3)).alloc (.cells #[.int .i64 0, .int .i64 0, .slice (some ⟨W.heap.size + 2, 0, none⟩) 1 1, .slice (some ⟨W.heap.size + 1, 0, none⟩) 1 1] 58))
      B (W.heap.size + 3) ⟨0, 0, .slice (some ⟨W.heap.size + 2, 0, none⟩) 1 1, .slice (some ⟨W.heap.size + 1, 0, none⟩) 1 1⟩ 1 := by
  have ht := Toks.lit W B hB op x
  have hs : Sts ((W.alloc (.cells #[.int .i64 op, .int .i64 x] 107)).alloc (.cells #[.int .i64 2, .int .i64 0, .slice (some ⟨W.heap.size, 0, none⟩) 1 1, .slice none 0 0, .slice none 0 0] 106)) B (.slice (some ⟨W.heap.size + 1, 0, none⟩) 1 1) [⟨2, 0, .slice (some ⟨W.heap.size, 0, none⟩) 1 1, .slice none 0 0, .slice none 0 0⟩] := by
    have := World.ownsRow_lit (W.alloc (.cells #[.int .i64 op, .int .i64 x] 107)) (base := B) (e := 106) (size := 5) #[.int .i64 2, .int .i64 0, .slice (some ⟨W.heap.size, 0, none⟩) 1 1, .slice none 0 0, .slice none 0 0] 1 (by simp; omega) (by unfold maxLen; omega) rfl
    rw [World.size_alloc] at this
    refine ⟨this, fun c hc => ?_⟩
    simp at hc
    subst hc
    exact ⟨⟨_, ht.alloc _, by simp⟩, ⟨[], Nums.nil _ _ _ _, by simp⟩, [], Nums.nil _ _ _ _, by simp⟩
  have hn := Nums.lit ((W.alloc (.cells #[.int .i64 op, .int .i64 x] 107)).alloc (.cells #[.int .i64 2, .int .i64 0, .slice (some ⟨W.heap.size, 0, none⟩) 1 1, .slice none 0 0, .slice none 0 0] 106)) B (by simp; omega) 0
  have hk := Keep.new (((W.alloc (.cells #[.int .i64 op, .int .i64 x] 107)).alloc (.cells #[.int .i64 2, .int .i64 0, .slice (some ⟨W.heap.size, 0, none⟩) 1 1, .slice none 0 0, .slice none 0 0] 106)).alloc (.cells #[.int .i64 0] 3)) #[.int .i64 0, .int .i64 0, .slice (some ⟨W.heap.size + 2, 0, none⟩) 1 1, .slice (some ⟨W.heap.size + 1, 0, none⟩) 1 1] 58
  simp only [World.size_alloc, Nat.add_assoc, Nat.reduceAdd] at hn hk
  exact ⟨hk, ⟨[0], hn.alloc _, by simp, by simp⟩, _, hs.keptX (X := fun _ => False) (((KeptX.refl _ _).alloc _).alloc _) (fun _ _ _ _ hx => hx.elim) (fun _ _ x => x), rfl⟩
/-- The first function. -/
theorem KF.main (W : World) (B : Nat) (hB : B ≤ W.heap.size) (x : Int) :
    KF ((((W.alloc (.cells #[.int .i64 0, .int .i64 1, .int .i64 2] 3)).alloc (.cells #[.int .i64 1, .int .i64 x] 107)).alloc (.cells #[.int .i64 3, .int .i64 1, .slice none 0 0, .slice none 0 0, .slice none 0 0, .int .i64 3, .int .i64 2, .slice none 0 0, .slice none 0 0, .slice none 0 0, .int .i64 4, .int .i64 0, .slice (some ⟨W.heap.size + 1, 0, none⟩) 1 1, .slice none 0 0, .slice none 0 0] 106)).alloc (.cells #[.int .i64 0, .int .i64 0, .slice (some ⟨W.heap.size, 0, none⟩) 3 3, .slice (some ⟨W.heap.size + 2, 0, none⟩) 3 3] 58))
      B (W.heap.size + 3) ⟨0, 0, .slice (some ⟨W.heap.size, 0, none⟩) 3 3, .slice (some ⟨W.heap.size + 2, 0, none⟩) 3 3⟩ 3 := by
  have hn : Nums (W.alloc (.cells #[.int .i64 0, .int .i64 1, .int .i64 2] 3)) B 3 .i64 (.slice (some ⟨W.heap.size, 0, none⟩) 3 3) [0, 1, 2] :=
    World.ownsRow_lit W #[.int .i64 0, .int .i64 1, .int .i64 2] 3 hB (by unfold maxLen; omega) rfl
  have ht := Toks.lit (W.alloc (.cells #[.int .i64 0, .int .i64 1, .int .i64 2] 3)) B (by simp; omega) 1 x
  have hs := World.ownsRow_lit ((W.alloc (.cells #[.int .i64 0, .int .i64 1, .int .i64 2] 3)).alloc (.cells #[.int .i64 1, .int .i64 x] 107)) (base := B) (e := 106) (size := 5) #[.int .i64 3, .int .i64 1, .slice none 0 0, .slice none 0 0, .slice none 0 0, .int .i64 3, .int .i64 2, .slice none 0 0, .slice none 0 0, .slice none 0 0, .int .i64 4, .int .i64 0, .slice (some ⟨W.heap.size + 1, 0, none⟩) 1 1, .slice none 0 0, .slice none 0 0] 3 (by simp; omega) (by unfold maxLen; omega) rfl
  have hk := Keep.new (((W.alloc (.cells #[.int .i64 0, .int .i64 1, .int .i64 2] 3)).alloc (.cells #[.int .i64 1, .int .i64 x] 107)).alloc (.cells #[.int .i64 3, .int .i64 1, .slice none 0 0, .slice none 0 0, .slice none 0 0, .int .i64 3, .int .i64 2, .slice none 0 0, .slice none 0 0, .slice none 0 0, .int .i64 4, .int .i64 0, .slice (some ⟨W.heap.size + 1, 0, none⟩) 1 1, .slice none 0 0, .slice none 0 0] 106)) #[.int .i64 0, .int .i64 0, .slice (some ⟨W.heap.size, 0, none⟩) 3 3, .slice (some ⟨W.heap.size + 2, 0, none⟩) 3 3] 58
  simp only [World.size_alloc, Nat.add_assoc, Nat.reduceAdd] at ht hs hk
  have hS : Sts _ B (.slice (some ⟨W.heap.size + 2, 0, none⟩) 3 3) [⟨3, 1, .slice none 0 0, .slice none 0 0, .slice none 0 0⟩, ⟨3, 2, .slice none 0 0, .slice none 0 0, .slice none 0 0⟩, ⟨4, 0, .slice (some ⟨W.heap.size + 1, 0, none⟩) 1 1, .slice none 0 0, .slice none 0 0⟩] := ⟨hs, fun c hc => by
    simp at hc
    rcases hc with rfl | rfl | rfl
    · exact leads_new _ _ _ _
    · exact leads_new _ _ _ _
    · exact ⟨⟨_, ht.alloc _, by simp⟩, ⟨[], Nums.nil _ _ _ _, by simp⟩, [], Nums.nil _ _ _ _, by simp⟩⟩
  exact ⟨hk, ⟨[0, 1, 2], ((hn.alloc _).alloc _).alloc _, by simp, by simp⟩, _, hS.keptX (X := fun _ => False) ((KeptX.refl _ _).alloc _) (fun _ _ _ _ hx => hx.elim) (fun _ _ x => x), rfl⟩

/-- While the program is made. -/
structure KSt (w : World) (gc : Nat) (A : Option Addr) (n c T : Nat) (g4 g5 g6 : Nat) (c4 c5 c6 : C4) (k5 : Nat) (wr : World) : Prop where
  cur : Cur wr gc A n c T
  res : Keep wr w.heap.size #[.slice none 0 0] 44
  kept : KeptX (fun k => k = gc) w wr
  f4 : KF wr w.heap.size g4 c4 1
  f5 : KF wr w.heap.size g5 c5 k5
  f6 : KF wr w.heap.size g6 c6 3
  n4 : w.heap.size < g4
  n5 : w.heap.size < g5
  n6 : w.heap.size < g6
  d45 : g4 ≠ g5
  d56 : g5 ≠ g6
  s64 : ∀ k, c6.s.ownBlock = some k → c4.s.ownBlock ≠ some k
  s65 : ∀ k, c6.s.ownBlock = some k → c5.s.ownBlock ≠ some k
  s54 : ∀ k, c5.s.ownBlock = some k → c4.s.ownBlock ≠ some k
section
variable {w : World} {gc : Nat} {A : Option Addr} {n c T T' : Nat} {g4 g5 g6 : Nat} {c4 c5 c6 : C4} {k5 : Nat} {wr w' : World}
theorem KSt.cursor (h : KSt w gc A n c T g4 g5 g6 c4 c5 c6 k5 wr) (hgc : gc < w.heap.size) (hg : wr.grownBy w' (some gc)) (hc : Cur w' gc A n c T') : KSt w gc A n c T' g4 g5 g6 c4 c5 c6 k5 w' := by
  have hk : KeptX (fun k => k = gc) wr w' := KeptX.of_grownBy hg (fun k e => by injection e with e; exact e.symm)
  have ht1 : TagX wr (fun k => k = gc) := by
    rintro k ds t fz rfl hh
    obtain ⟨_, _, _, hg', _⟩ := h.cur
    rw [hg'] at hh; injection hh with hh; injection hh with _ hh _
    subst hh
    exact ⟨by decide, by decide⟩
  have h4 := h.n4
  have h5 := h.n5
  have h6 := h.n6
  exact ⟨hc, hk.keep h.res (by omega), h.kept.trans hk, h.f4.keptX hk ht1 (by omega) (fun k hk' e => by have := h.f4.sLt hk'; omega), h.f5.keptX hk ht1 (by omega) (fun k hk' e => by have := h.f5.sLt hk'; omega), h.f6.keptX hk ht1 (by omega) (fun k hk' e => by have := h.f6.sLt hk'; omega), h4, h5, h6, h.d45, h.d56, h.s64, h.s65, h.s54⟩
theorem KSt.alloc (h : KSt w gc A n c T g4 g5 g6 c4 c5 c6 k5 wr) (o : Obj) : KSt w gc A n c T g4 g5 g6 c4 c5 c6 k5 (wr.alloc o) :=
  ⟨h.cur.alloc o, h.res.alloc o, h.kept.alloc o, h.f4.alloc o, h.f5.alloc o, h.f6.alloc o, h.n4, h.n5, h.n6, h.d45, h.d56, h.s64, h.s65, h.s54⟩
theorem KSt.more (h : KSt w gc A n c T g4 g5 g6 c4 c5 c6 k5 wr) (hT : T ≤ T') : KSt w gc A n c T' g4 g5 g6 c4 c5 c6 k5 wr := ⟨h.cur.more hT, h.res, h.kept, h.f4, h.f5, h.f6, h.n4, h.n5, h.n6, h.d45, h.d56, h.s64, h.s65, h.s54⟩
/-- Blocks of the state that may turn by an append to the statements. -/
theorem KSt.sKept (h : KSt w gc A n c T g4 g5 g6 c4 c5 c6 k5 wr) (hgc : gc < w.heap.size) {X : Nat → Prop} (hX : ∀ k, X k → c5.s.ownBlock = some k) (hk : KeptX X wr w') : Cur w' gc A n c T ∧ Keep w' w.heap.size #[.slice none 0 0] 44 ∧ KeptX (fun k => k = gc) w w' ∧ KF w' w.heap.size g4 c4 1 ∧ KF w' w.heap.size g6 c6 3 ∧ Keep w' g5 #[.int .i64 c5.p, .int .i64 c5.v, c5.b, c5.s] 58 ∧ ∃ xs, Nums w' w.heap.size 3 .i64 c5.b xs ∧ 1 ≤ xs.length ∧ xs.length ≤ 100 := by
  have htag : ∀ k, X k → ∃ ce, wr.heap[k]? = some (.cells ce 106 (0, 0)) := fun k hx => h.f5.sTag (hX k hx)
  have ht1 : TagX wr X := by
    intro k ds t fz hx hh
    obtain ⟨ce, hg⟩ := htag k hx
    rw [hg] at hh; injection hh with hh; injection hh with _ hh _
    subst hh
    exact ⟨by decide, by decide⟩
  have hno : ∀ {g : Nat} {cs : Array Value} {t : TypeId}, Keep wr g cs t → t ≠ 106 → ¬ X g := fun hb ht hx => by
    obtain ⟨ce, hg⟩ := htag _ hx
    exact ht (hb.tagNe hg)
  have hlo : ∀ k, X k → w.heap.size ≤ k := fun k hx => (h.f5.sLt (hX k hx)).1
  obtain ⟨xs, hx1, hx2⟩ := h.f5.body
  exact ⟨h.cur.keptX hk (fun k hk' e => by have := hlo k e; omega), hk.keep h.res (hno h.res (by decide)), h.kept.trans' hk (fun i hi e => by have := hlo i e; omega), h.f4.keptX hk ht1 (hno h.f4.box (by decide)) (fun k hk' hx => h.s54 k (hX k hx) hk'), h.f6.keptX hk ht1 (hno h.f6.box (by decide)) (fun k hk' hx => h.s65 k hk' (hX k hx)), hk.keep h.f5.box (hno h.f5.box (by decide)), xs, hx1.keptX hk ht1, hx2⟩
/-- The last statement of the first function turns. -/
theorem KSt.putMain (h : KSt w gc A n c T g4 g5 g6 c4 c5 c6 k5 wr) (hgc : gc < w.heap.size) {g cap : Nat} (hs : c6.s = .slice (some ⟨g, 0, none⟩) 3 cap) :
    KSt w gc A n c T g4 g5 g6 c4 c5 c6 k5 (((((wr.setCell ⟨g, 10, none⟩ (.int .i64 6)).setCell ⟨g, 11, none⟩ (.int .i64 0)).setCell ⟨g, 12, none⟩ (.slice none 0 0)).setCell ⟨g, 13, none⟩ (.slice none 0 0)).setCell ⟨g, 14, none⟩ (.slice none 0 0)) := by
  obtain ⟨cs, hS, hl⟩ := h.f6.sts
  rw [hs] at hS
  have hown : c6.s.ownBlock = some g := by rw [hs]; rfl
  obtain ⟨h1, hk⟩ := hS.put (j := 2) (by omega) ⟨6, 0, .slice none 0 0, .slice none 0 0, .slice none 0 0⟩ (leads_new _ _ _ _)
  change Sts (((((wr.setCell ⟨g, 10, none⟩ (.int .i64 6)).setCell ⟨g, 11, none⟩ (.int .i64 0)).setCell ⟨g, 12, none⟩ (.slice none 0 0)).setCell ⟨g, 13, none⟩ (.slice none 0 0)).setCell ⟨g, 14, none⟩ (.slice none 0 0)) _ _ _ at h1
  change KeptX _ wr (((((wr.setCell ⟨g, 10, none⟩ (.int .i64 6)).setCell ⟨g, 11, none⟩ (.int .i64 0)).setCell ⟨g, 12, none⟩ (.slice none 0 0)).setCell ⟨g, 13, none⟩ (.slice none 0 0)).setCell ⟨g, 14, none⟩ (.slice none 0 0)) at hk
  generalize (((((wr.setCell ⟨g, 10, none⟩ (.int .i64 6)).setCell ⟨g, 11, none⟩ (.int .i64 0)).setCell ⟨g, 12, none⟩ (.slice none 0 0)).setCell ⟨g, 13, none⟩ (.slice none 0 0)).setCell ⟨g, 14, none⟩ (.slice none 0 0)) = w' at h1 hk ⊢
  obtain ⟨ce, htag⟩ := h.f6.sTag hown
  have ht1 : TagX wr (fun k => k = g) := by
    rintro k ds t fz rfl hh
    rw [htag] at hh; injection hh with hh; injection hh with _ hh _
    subst hh
    exact ⟨by decide, by decide⟩
  have hno : ∀ {j : Nat} {cs : Array Value} {t : TypeId}, Keep wr j cs t → t ≠ 106 → ¬ j = g := fun hb ht hx => by
    subst hx
    exact ht (hb.tagNe htag)
  have hlo := (h.f6.sLt hown).1
  obtain ⟨xs, hx1, hx2⟩ := h.f6.body
  exact ⟨h.cur.keptX hk (fun k hk' e => by omega), hk.keep h.res (hno h.res (by decide)), h.kept.trans' hk (fun i hi e => by omega), h.f4.keptX hk ht1 (hno h.f4.box (by decide)) (fun k hk' hx => h.s64 k (by rw [hown, hx]) hk'), h.f5.keptX hk ht1 (hno h.f5.box (by decide)) (fun k hk' hx => h.s65 k (by rw [hown, hx]) hk'), ⟨hk.keep h.f6.box (hno h.f6.box (by decide)), ⟨xs, hx1.keptX hk ht1, hx2⟩, _, by rw [hs]; exact h1, by rw [List.length_set]; exact hl⟩, h.n4, h.n5, h.n6, h.d45, h.d56, h.s64, h.s65, h.s54⟩
/-- The third function has grown by a statement. -/
theorem KSt.grow (h : KSt w gc A n c T g4 g5 g6 c4 c5 c6 k5 wr) (hgc : gc < w.heap.size) {o o' : Obj} {v8 : Value} {cs' : List C5} {k' : Nat} (hs : Sts w' w.heap.size v8 cs') (hl : cs'.length = k') (hg : ((wr.alloc o).alloc o').grownBy w' c5.s.ownBlock) (hat : v8.ownBlock = c5.s.ownBlock ∨ v8.ownBlock = some ((wr.alloc o).alloc o').heap.size) :
    KSt w gc A n c T g4 g5 g6 c4 ⟨c5.p, c5.v, .slice (some ⟨w'.heap.size, 0, none⟩) 2 2, v8⟩ c6 k' (((w'.setCell ⟨g5, 3, none⟩ v8).setCell ⟨g5, 2, none⟩ (.slice (some ⟨w'.heap.size, 0, none⟩) 2 2)).alloc (.cells #[.int .i64 0, .int .i64 1] 3)) := by
  have hA := (h.alloc o).alloc o'
  obtain ⟨hcur, hres, hkept, hf4, hf6, hb5, _⟩ := hA.sKept hgc (X := fun k => c5.s.ownBlock = some k) (fun k e => e) (KeptX.of_grownBy hg (fun k e => e))
  have hS : KeptX (fun k => k = g5) w' ((w'.setCell ⟨g5, 3, none⟩ v8).setCell ⟨g5, 2, none⟩ (.slice (some ⟨w'.heap.size, 0, none⟩) 2 2)) := KeptX.set (KeptX.set (KeptX.refl (fun k => k = g5) w') (.inl rfl) 3 v8) (.inl rfl) 2 _
  have hbx := (hb5.set 3 v8).set 2 (.slice (some ⟨w'.heap.size, 0, none⟩) 2 2)
  have hsz : ((w'.setCell ⟨g5, 3, none⟩ v8).setCell ⟨g5, 2, none⟩ (.slice (some ⟨w'.heap.size, 0, none⟩) 2 2)).heap.size = w'.heap.size := by simp [World.setCell]
  generalize ((w'.setCell ⟨g5, 3, none⟩ v8).setCell ⟨g5, 2, none⟩ (.slice (some ⟨w'.heap.size, 0, none⟩) 2 2)) = w9 at hS hbx hsz ⊢
  have hT : ∀ k ds t fz, k = g5 → w'.heap[k]? = some (.cells ds t fz) → t = 58 := by
    rintro k ds t fz rfl hh
    unfold Keep at hb5
    rw [hb5] at hh; injection hh with hh; injection hh with _ hh _
    exact hh.symm
  have ht1 : TagX w' (fun k => k = g5) := fun k ds t fz hx hh => by rw [hT k ds t fz hx hh]; exact ⟨by decide, by decide⟩
  have hno : ∀ {k : Nat} {ce : Array Value}, w'.heap[k]? = some (.cells ce 106 (0, 0)) → ¬ k = g5 := fun hh e => absurd (hT _ _ _ _ e hh) (by decide)
  have hs9 : Sts w9 w.heap.size v8 cs' := hs.keptX hS ht1 (fun k hk => by obtain ⟨ce, hh⟩ := hs.tag hk.symm; exact hno hh)
  have hn9 := World.ownsRow_lit w9 (base := w.heap.size) (e := 3) (size := 1) #[.int .i64 0, .int .i64 1] 2 (by have := hkept.size; omega) (by unfold maxLen; omega) rfl
  rw [hsz] at hn9
  have h5 := h.n5
  have hlt : ∀ k, c5.s.ownBlock = some k → k < wr.heap.size := fun k hk => (h.f5.sLt hk).2
  have hsz2 : ((wr.alloc o).alloc o').heap.size = wr.heap.size + 2 := by simp only [World.size_alloc]
  rw [hsz2] at hat
  refine ⟨(hcur.keptX hS (fun k hk' e => by omega)).alloc _, (hS.keep hres (by omega)).alloc _, (hkept.trans' hS (fun i hi e => by omega)).alloc _, (hf4.keptX hS ht1 (fun e => h.d45 e) (fun k hk => by obtain ⟨ce, hh⟩ := hf4.sTag hk; exact hno hh)).alloc _, ⟨?_, ⟨[0, 1], hn9, by simp, by simp⟩, _, ?_, hl⟩, (hf6.keptX hS ht1 (fun e => h.d56 e.symm) (fun k hk => by obtain ⟨ce, hh⟩ := hf6.sTag hk; exact hno hh)).alloc _, h.n4, h.n5, h.n6, h.d45, h.d56, h.s64, ?_, ?_⟩
  · have := hbx.alloc (.cells #[.int .i64 0, .int .i64 1] 3)
    simpa using this
  · exact hs9.keptX (X := fun _ => False) ((KeptX.refl _ w9).alloc _) (fun _ _ _ _ hx => hx.elim) (fun _ _ x => x)
  · intro k hk e
    rcases hat with e' | e'
    · exact h.s65 k hk (e'.symm.trans e)
    · have := (h.f6.sLt hk).2
      have e2 : v8.ownBlock = some k := e
      rw [e'] at e2
      injection e2 with e2
      omega
  · intro k hk e
    have e2 : v8.ownBlock = some k := hk
    rcases hat with e' | e'
    · exact h.s54 k (e'.symm.trans e2) e
    · have := (h.f4.sLt e).2
      rw [e'] at e2
      injection e2 with e2
      omega
/-- The end: the three functions in a row. -/
theorem KSt.done (h : KSt w gc A n c T g4 g5 g6 c4 c5 c6 k5 wr) (hgc : gc < w.heap.size) (hk5 : k5 ≤ 100) :
    GivesP gc A n c T w (.returned (.agg #[.slice (some ⟨wr.heap.size, 0, none⟩) 3 3])) ((wr.setCell ⟨w.heap.size, 0, none⟩ (.slice (some ⟨wr.heap.size, 0, none⟩) 3 3)).alloc (.cells #[.int .i64 c6.p, .int .i64 c6.v, c6.b, c6.s, .int .i64 c4.p, .int .i64 c4.v, c4.b, c4.s, .int .i64 c5.p, .int .i64 c5.v, c5.b, c5.s] 58)) := by
  have hS : KeptX (fun k => k = w.heap.size) wr (wr.setCell ⟨w.heap.size, 0, none⟩ (.slice (some ⟨wr.heap.size, 0, none⟩) 3 3)) := KeptX.set (KeptX.refl (fun k => k = w.heap.size) wr) (.inl rfl) 0 _
  have hsz : (wr.setCell ⟨w.heap.size, 0, none⟩ (.slice (some ⟨wr.heap.size, 0, none⟩) 3 3)).heap.size = wr.heap.size := by simp [World.setCell]
  have hK9 : KeptX (fun k => k = gc) w (wr.setCell ⟨w.heap.size, 0, none⟩ (.slice (some ⟨wr.heap.size, 0, none⟩) 3 3)) := h.kept.set (.inr (Nat.le_refl _)) 0 _
  generalize wr.setCell ⟨w.heap.size, 0, none⟩ (.slice (some ⟨wr.heap.size, 0, none⟩) 3 3) = w9 at hS hsz hK9 ⊢
  have hb := h.res
  have hT : ∀ k ds t fz, k = w.heap.size → wr.heap[k]? = some (.cells ds t fz) → t = 44 := by
    rintro k ds t fz rfl hh
    unfold Keep at hb
    rw [hb] at hh; injection hh with hh; injection hh with _ hh _
    exact hh.symm
  have ht1 : TagX wr (fun k => k = w.heap.size) := fun k ds t fz hx hh => by rw [hT k ds t fz hx hh]; exact ⟨by decide, by decide⟩
  have hno : ∀ {k : Nat} {ce : Array Value}, wr.heap[k]? = some (.cells ce 106 (0, 0)) → ¬ k = w.heap.size := fun hh e => absurd (hT _ _ _ _ e hh) (by decide)
  have n4 := h.n4
  have n5 := h.n5
  have n6 := h.n6
  have f4 := h.f4.keptX hS ht1 (by omega) (fun k hk => by obtain ⟨ce, hh⟩ := h.f4.sTag hk; exact hno hh)
  have f5 := h.f5.keptX hS ht1 (by omega) (fun k hk => by obtain ⟨ce, hh⟩ := h.f5.sTag hk; exact hno hh)
  have f6 := h.f6.keptX hS ht1 (by omega) (fun k hk => by obtain ⟨ce, hh⟩ := h.f6.sTag hk; exact hno hh)
  have hrow := World.ownsRow_lit w9 (base := w.heap.size) (e := 58) (size := 4) #[.int .i64 c6.p, .int .i64 c6.v, c6.b, c6.s, .int .i64 c4.p, .int .i64 c4.v, c4.b, c4.s, .int .i64 c5.p, .int .i64 c5.v, c5.b, c5.s] 3 (by have := h.kept.size; omega) (by unfold maxLen; omega) rfl
  rw [hsz] at hrow
  refine ⟨_, [c6, c4, c5], rfl, ⟨hrow, fun x hx => ?_⟩, by simp, by simp, (h.cur.keptX hS (fun k hk' e => by omega)).alloc _, ?_⟩
  · simp at hx
    rcases hx with rfl | rfl | rfl
    · exact (f6.alloc _).leads (by omega)
    · exact (f4.alloc _).leads (by omega)
    · exact (f5.alloc _).leads hk5
  · have hk := hK9.alloc (.cells #[.int .i64 c6.p, .int .i64 c6.v, c6.b, c6.s, .int .i64 c4.p, .int .i64 c4.v, c4.b, c4.s, .int .i64 c5.p, .int .i64 c5.v, c5.b, c5.s] 58)
    exact ⟨hk.os, hk.tape, hk.output, hk.size, fun k hk' hne => hk.block k hk' (fun e => hne (by rw [e]))⟩
theorem KF.slices {w : World} {B g : Nat} {c : C4} {k : Nat} (h : KF w B g c k) : ∃ A1 m1 d1 A2 m2 d2, c = ⟨c.p, c.v, .slice A1 m1 d1, .slice A2 m2 d2⟩ := by
  obtain ⟨xs, h1, _⟩ := h.body
  obtain ⟨cs, h2, _⟩ := h.sts
  obtain ⟨A1, d1, e1, _⟩ := h1.reads
  obtain ⟨A2, d2, e2⟩ := h2.slice
  exact ⟨A1, _, d1, A2, _, d2, by rw [← e1, ← e2]⟩
end

end Go.Proofs.Ytfdijeeilfhjeaa
namespace Go.Proofs.Ytfdijeeilfhjeaa
open Go.RowKit Exs

theorem KSt.box5 {w : World} {gc : Nat} {A : Option Addr} {n c T : Nat} {g4 g5 g6 : Nat} {c4 c5 c6 : C4} {k5 : Nat} {wr w' : World} (h : KSt w gc A n c T g4 g5 g6 c4 c5 c6 k5 wr) {o o' : Obj} (hg : ((wr.alloc o).alloc o').grownBy w' c5.s.ownBlock) : Keep w' g5 #[.int .i64 c5.p, .int .i64 c5.v, c5.b, c5.s] 58 := by
  have hk : KeptX (fun k => some k = c5.s.ownBlock) _ w' := KeptX.of_grownBy hg (fun k e => e.symm)
  refine hk.keep ((h.f5.box.alloc _).alloc _) (fun e => ?_)
  obtain ⟨ce, hh⟩ := h.f5.sTag e.symm
  exact absurd (h.f5.box.tagNe hh) (by decide)
/-- The three functions, as they are written down. -/
def kw (W : World) (q r : Int) : World :=
  let a := (((W.alloc (.cells #[.int .i64 10, .int .i64 0] 107)).alloc (.cells #[.int .i64 2, .int .i64 0, .slice (some ⟨W.heap.size, 0, none⟩) 1 1, .slice none 0 0, .slice none 0 0] 106)).alloc (.cells #[.int .i64 0] 3)).alloc (.cells #[.int .i64 0, .int .i64 0, .slice (some ⟨W.heap.size + 2, 0, none⟩) 1 1, .slice (some ⟨W.heap.size + 1, 0, none⟩) 1 1] 58)
  let b := (((a.alloc (.cells #[.int .i64 1, .int .i64 q] 107)).alloc (.cells #[.int .i64 2, .int .i64 0, .slice (some ⟨W.heap.size + 4, 0, none⟩) 1 1, .slice none 0 0, .slice none 0 0] 106)).alloc (.cells #[.int .i64 0] 3)).alloc (.cells #[.int .i64 0, .int .i64 0, .slice (some ⟨W.heap.size + 6, 0, none⟩) 1 1, .slice (some ⟨W.heap.size + 5, 0, none⟩) 1 1] 58)
  (((b.alloc (.cells #[.int .i64 0, .int .i64 1, .int .i64 2] 3)).alloc (.cells #[.int .i64 1, .int .i64 r] 107)).alloc (.cells #[.int .i64 3, .int .i64 1, .slice none 0 0, .slice none 0 0, .slice none 0 0, .int .i64 3, .int .i64 2, .slice none 0 0, .slice none 0 0, .slice none 0 0, .int .i64 4, .int .i64 0, .slice (some ⟨W.heap.size + 9, 0, none⟩) 1 1, .slice none 0 0, .slice none 0 0] 106)).alloc (.cells #[.int .i64 0, .int .i64 0, .slice (some ⟨W.heap.size + 8, 0, none⟩) 3 3, .slice (some ⟨W.heap.size + 10, 0, none⟩) 3 3] 58)

theorem kw_st {w W : World} {gc : Nat} {A : Option Addr} {n c T : Nat} (hc : Cur W gc A n c T) (hr : Keep W w.heap.size #[.slice none 0 0] 44) (hk : KeptX (fun k => k = gc) w W) (q r : Int) :
    KSt w gc A n c T (W.heap.size + 3) (W.heap.size + 7) (W.heap.size + 11) ⟨0, 0, .slice (some ⟨W.heap.size + 2, 0, none⟩) 1 1, .slice (some ⟨W.heap.size + 1, 0, none⟩) 1 1⟩ ⟨0, 0, .slice (some ⟨W.heap.size + 6, 0, none⟩) 1 1, .slice (some ⟨W.heap.size + 5, 0, none⟩) 1 1⟩ ⟨0, 0, .slice (some ⟨W.heap.size + 8, 0, none⟩) 3 3, .slice (some ⟨W.heap.size + 10, 0, none⟩) 3 3⟩ 1 (kw W q r) := by
  have hl := hr.lt
  have f4 := KF.lit W w.heap.size hk.size 10 0
  obtain ⟨a, ha⟩ : ∃ a, a = (((W.alloc (.cells #[.int .i64 10, .int .i64 0] 107)).alloc (.cells #[.int .i64 2, .int .i64 0, .slice (some ⟨W.heap.size, 0, none⟩) 1 1, .slice none 0 0, .slice none 0 0] 106)).alloc (.cells #[.int .i64 0] 3)).alloc (.cells #[.int .i64 0, .int .i64 0, .slice (some ⟨W.heap.size + 2, 0, none⟩) 1 1, .slice (some ⟨W.heap.size + 1, 0, none⟩) 1 1] 58) := ⟨_, rfl⟩
  have hca : Cur a gc A n c T := by rw [ha]; exact (((hc.alloc _).alloc _).alloc _).alloc _
  have hra : Keep a w.heap.size #[.slice none 0 0] 44 := by rw [ha]; exact (((hr.alloc _).alloc _).alloc _).alloc _
  have hka : KeptX (fun k => k = gc) w a := by rw [ha]; exact (((hk.alloc _).alloc _).alloc _).alloc _
  have hsa : a.heap.size = W.heap.size + 4 := by rw [ha]; simp only [World.size_alloc]
  rw [← ha] at f4
  have f5 := KF.lit a w.heap.size hka.size 1 q
  simp only [hsa, Nat.add_assoc, Nat.reduceAdd] at f5
  obtain ⟨b, hb⟩ : ∃ b, b = (((a.alloc (.cells #[.int .i64 1, .int .i64 q] 107)).alloc (.cells #[.int .i64 2, .int .i64 0, .slice (some ⟨W.heap.size + 4, 0, none⟩) 1 1, .slice none 0 0, .slice none 0 0] 106)).alloc (.cells #[.int .i64 0] 3)).alloc (.cells #[.int .i64 0, .int .i64 0, .slice (some ⟨W.heap.size + 6, 0, none⟩) 1 1, .slice (some ⟨W.heap.size + 5, 0, none⟩) 1 1] 58) := ⟨_, rfl⟩
  have hcb : Cur b gc A n c T := by rw [hb]; exact (((hca.alloc _).alloc _).alloc _).alloc _
  have hrb : Keep b w.heap.size #[.slice none 0 0] 44 := by rw [hb]; exact (((hra.alloc _).alloc _).alloc _).alloc _
  have hkb : KeptX (fun k => k = gc) w b := by rw [hb]; exact (((hka.alloc _).alloc _).alloc _).alloc _
  have hab : KeptX (fun _ => False) a b := by rw [hb]; exact ((((KeptX.refl _ a).alloc _).alloc _).alloc _).alloc _
  have f4b := f4.keptX hab (fun _ _ _ _ hx => hx.elim) (fun x => x) (fun _ _ x => x)
  have hsb : b.heap.size = W.heap.size + 8 := by rw [hb]; simp only [World.size_alloc, hsa]
  rw [← hb] at f5
  have f6 := KF.main b w.heap.size hkb.size r
  simp only [hsb, Nat.add_assoc, Nat.reduceAdd] at f6
  have hkw : kw W q r = (((b.alloc (.cells #[.int .i64 0, .int .i64 1, .int .i64 2] 3)).alloc (.cells #[.int .i64 1, .int .i64 r] 107)).alloc (.cells #[.int .i64 3, .int .i64 1, .slice none 0 0, .slice none 0 0, .slice none 0 0, .int .i64 3, .int .i64 2, .slice none 0 0, .slice none 0 0, .slice none 0 0, .int .i64 4, .int .i64 0, .slice (some ⟨W.heap.size + 9, 0, none⟩) 1 1, .slice none 0 0, .slice none 0 0] 106)).alloc (.cells #[.int .i64 0, .int .i64 0, .slice (some ⟨W.heap.size + 8, 0, none⟩) 3 3, .slice (some ⟨W.heap.size + 10, 0, none⟩) 3 3] 58) := by rw [hb, ha]; rfl
  rw [hkw]
  refine ⟨(((hcb.alloc _).alloc _).alloc _).alloc _, (((hrb.alloc _).alloc _).alloc _).alloc _, (((hkb.alloc _).alloc _).alloc _).alloc _, (((f4b.alloc _).alloc _).alloc _).alloc _, (((f5.alloc _).alloc _).alloc _).alloc _, f6, by omega, by omega, by omega, by omega, by omega, ?_, ?_, ?_⟩
  all_goals (
    intro k h1 h2
    simp [Value.ownBlock] at h1 h2
    omega)

set_option maxHeartbeats 4000000 in
set_option maxRecDepth 100000 in
theorem known_any (gc : Nat) (A : Option Addr) (n c T : Nat) (w : World) (hc : Cur w gc A n c T) (hT : T ≤ 300000) :
    Calls Try.prog 113 #[.pointer (some ⟨gc, 0, none⟩)] w (GivesP gc A n c (T + 100) w) := by
  have HGC := put hc.lt
  have hcW := hc.alloc (.cells #[.slice none 0 0] 44)
  have hkW := Keep.new w #[.slice none 0 0] 44
  have hxW : KeptX (fun k => k = gc) w (w.alloc (.cells #[.slice none 0 0] 44)) := (KeptX.refl _ w).alloc _
  go_enter Try.func113, Try.ntmps113
  go_wp2_with fail
  generalize w.alloc (.cells #[.slice none 0 0] 44) = W0 at hcW hkW hxW ⊢
  refine (pick_any gc A n c T 9 _ hcW (by omega) (by omega) (by omega)).mono ?_
  rintro e w1 ⟨q, hq0, hq1, rfl, hc1, hg1⟩
  have hx0 : KeptX (fun k => k = gc) W0 w1 := KeptX.of_grownBy hg1 (fun k e => by injection e with e; exact e.symm)
  have hk1 : Keep w1 w.heap.size #[.slice none 0 0] 44 := hx0.keep hkW (by have := HGC.out; omega)
  have hx1 : KeptX (fun k => k = gc) w w1 := hxW.trans hx0
  have hw1 : IntKind.i64.wrap (40 + q) = 40 + q := IntWalk.i64_in _ ⟨by omega, by omega⟩
  have HS := put (kw_st hc1 hk1 hx1 q (40 + q))
  clear hcW hkW hxW hx0 hg1 hc1 hk1 hx1
  go_wp2_with fail
  refine (one_any gc A n c _ 2 _ HS.out.cur (by omega) (by omega) (by omega)).mono ?_
  rintro e w2 ⟨b1, rfl, hc2, hg2⟩
  have HS2 := put (HS.out.cursor HGC.out hg2 hc2)
  clear hc2 hg2 HS
  have HS3 : KSt w gc A n c (T + 2 + 2) (w1.heap.size + 1 + 1 + 1) (w1.heap.size + 1 + 1 + 1 + 1 + 1 + 1 + 1) (w1.heap.size + 1 + 1 + 1 + 1 + 1 + 1 + 1 + 1 + 1 + 1 + 1) _ _ _ 1 w2 := HS2.out
  obtain ⟨c4, c5, c6, hK⟩ : ∃ c4 c5 c6, KSt w gc A n c (T + 2 + 2) (w1.heap.size + 1 + 1 + 1) (w1.heap.size + 1 + 1 + 1 + 1 + 1 + 1 + 1) (w1.heap.size + 1 + 1 + 1 + 1 + 1 + 1 + 1 + 1 + 1 + 1 + 1) c4 c5 c6 1 w2 := ⟨_, _, _, HS3⟩
  clear HS2 HS3
  generalize w1.heap.size + 1 + 1 + 1 + 1 + 1 + 1 + 1 + 1 + 1 + 1 + 1 = g6 at hK ⊢
  generalize w1.heap.size + 1 + 1 + 1 + 1 + 1 + 1 + 1 = g5 at hK ⊢
  generalize w1.heap.size + 1 + 1 + 1 = g4 at hK ⊢
  obtain ⟨A61, m61, d61, A62, m62, d62, e6⟩ := hK.f6.slices
  generalize c6.p = p6 at e6
  generalize c6.v = v6 at e6
  subst e6
  go_upto_if 33 with fail
  go_cut [] (fun wx => KSt w gc A n c (T + 4) g4 g5 g6 c4 c5 ⟨p6, v6, .slice A61 m61 d61, .slice A62 m62 d62⟩ 1 wx)
  case first =>
    cases b1 with
    | false =>
      go_wp2
      go_meet
      exact hK
    | true =>
      obtain ⟨cs, hS, hl⟩ := hK.f6.sts
      obtain ⟨g, cap, hs⟩ : ∃ g cap, (Value.slice A62 m62 d62) = .slice (some ⟨g, 0, none⟩) 3 cap := by
        rcases hS.shape with ⟨_, h⟩ | ⟨g, c, h⟩
        · rw [h] at hl; simp at hl
        · exact ⟨g, c, by rw [hl] at h; exact h⟩
      injection hs with e1 e2 e3
      subst e1 e2 e3
      have HP := put (hK.putMain HGC.out rfl)
      obtain ⟨x, hx, q0, q1, q2, q3, q4, qf⟩ := hS.at_ (j := 2) (by omega)
      have y3 := hK.f6.box.cell 3
      simp only [List.getElem?_toArray, List.getElem?_cons_zero, List.getElem?_cons_succ] at y3
      have qf0 := qf 10
      have qf1 := qf 11
      have qf2 := qf 12
      have qf3 := qf 13
      have qf4 := qf 14
      simp only [Nat.reduceMul, Nat.reduceAdd] at q0 q1 q2 q3 q4
      generalize x.v1 = p1 at q2
      generalize x.v2 = p2 at q3
      generalize x.v3 = p3 at q4
      generalize x.k = p4 at q0
      generalize x.n = p5 at q1
      clear hS hl qf hx hK
      go_wp2
      go_meet
      exact HP.out
  case rest =>
    have hK := hcut
    go_wp2_with fail
    refine (one_any gc A n c _ 2 _ hK.cur (by omega) (by omega) (by omega)).mono ?_
    rintro e w4 ⟨b2, rfl, hc4, hg4⟩
    have hK4 := hK.cursor HGC.out hg4 hc4
    clear hK hc4 hg4 hcut
    go_upto_if 39 with fail
    go_cut [] (fun wx => ∃ (c5' : C4) (k5 : Nat), k5 ≤ 2 ∧ KSt w gc A n c (T + 8) g4 g5 g6 c4 c5' ⟨p6, v6, .slice A61 m61 d61, .slice A62 m62 d62⟩ k5 wx)
    case first =>
      cases b2 with
      | false =>
        go_wp2
        go_meet
        exact ⟨_, _, by omega, hK4.more (by omega)⟩
      | true =>
        obtain ⟨A51, m51, d51, A52, m52, d52, e5⟩ := hK4.f5.slices
        generalize c5.p = p5 at e5
        generalize c5.v = v5 at e5
        subst e5
        obtain ⟨cs, hS, hl⟩ := hK4.f5.sts
        have y3 := hK4.f5.box.cell 3
        simp only [List.getElem?_toArray, List.getElem?_cons_zero, List.getElem?_cons_succ] at y3
        have hlt5 := hK4.f5.box.lt
        have hS2 := put (hS.keptX (X := fun _ => False) (((KeptX.refl _ _).alloc (.cells #[.int .i64 1, .int .i64 50] 107)).alloc (.cells #[.int .i64 4, .int .i64 0, .slice (some ⟨w4.heap.size, 0, none⟩) 1 1, .slice none 0 0, .slice none 0 0] 106)) (fun _ _ _ _ hx => hx.elim) (fun _ _ x => x))
        have hKN := Keep.new (w4.alloc (.cells #[.int .i64 1, .int .i64 50] 107)) #[.int .i64 4, .int .i64 0, .slice (some ⟨w4.heap.size, 0, none⟩) 1 1, .slice none 0 0, .slice none 0 0] 106
        rw [World.size_alloc] at hKN
        have HKN := put hKN
        have hB4 := hK4.kept.size
        have HLE := put (show Leads ((w4.alloc (.cells #[.int .i64 1, .int .i64 50] 107)).alloc (.cells #[.int .i64 4, .int .i64 0, .slice (some ⟨w4.heap.size, 0, none⟩) 1 1, .slice none 0 0, .slice none 0 0] 106)) w.heap.size ⟨4, 0, .slice (some ⟨w4.heap.size, 0, none⟩) 1 1, .slice none 0 0, .slice none 0 0⟩ from ⟨⟨_, (Toks.lit w4 w.heap.size hB4 1 50).alloc _, by simp⟩, ⟨[], Nums.nil _ _ _ _, by simp⟩, [], Nums.nil _ _ _ _, by simp⟩)
        clear hKN hS
        go_wp2_with (at_builtin; refine wpList_append_stmt rfl _ _ rfl w.heap.size _ cs rfl hS2.out (by simp; omega) (w4.heap.size + 1) ⟨4, 0, .slice (some ⟨w4.heap.size, 0, none⟩) 1 1, .slice none 0 0, .slice none 0 0⟩ rfl HKN.out HLE.out (by omega) ?_; intro v8 w8 hs8 hg8 hat8; have kb8 := hK4.box5 hg8; have y38 := kb8.cell 3; have f38 := kb8.frozen 3; have y28 := kb8.cell 2; have f28 := kb8.frozen 2; simp only [List.getElem?_toArray, List.getElem?_cons_zero, List.getElem?_cons_succ] at y38 y28; have hlt8 := kb8.lt; obtain ⟨A8, m8, c8, hv8⟩ : ∃ A8 m8 c8, v8 = .slice A8 m8 c8 := (by obtain ⟨A, c, h⟩ := hs8.slice; exact ⟨A, _, c, h⟩); subst hv8)
        have HG := put (hK4.grow HGC.out (k' := 2) hs8 (by simp [hl]) hg8 hat8)
        go_meet
        exact ⟨_, _, by omega, HG.out.more (by omega)⟩
    case rest =>
      obtain ⟨c5', k5, hk5, hK⟩ := hcut
      clear hK4
      obtain ⟨A51, m51, d51, A52, m52, d52, e5⟩ := hK.f5.slices
      generalize c5'.p = p5 at e5
      generalize c5'.v = v5 at e5
      subst e5
      obtain ⟨A41, m41, d41, A42, m42, d42, e4⟩ := hK.f4.slices
      generalize c4.p = p4 at e4
      generalize c4.v = v4 at e4
      subst e4
      have x0 := hK.f4.box.cell 0
      have x1 := hK.f4.box.cell 1
      have x2 := hK.f4.box.cell 2
      have x3 := hK.f4.box.cell 3
      have y0 := hK.f5.box.cell 0
      have y1 := hK.f5.box.cell 1
      have y2 := hK.f5.box.cell 2
      have y3 := hK.f5.box.cell 3
      have z0 := hK.f6.box.cell 0
      have z1 := hK.f6.box.cell 1
      have z2 := hK.f6.box.cell 2
      have z3 := hK.f6.box.cell 3
      have r0 := hK.res.cell 0
      have rf := hK.res.frozen 0
      have hl := hK.res.lt
      simp only [List.getElem?_toArray, List.getElem?_cons_zero, List.getElem?_cons_succ] at x0 x1 x2 x3 y0 y1 y2 y3 z0 z1 z2 z3 r0
      have HD := put ((hK.more (by omega)).done (T := T + 100) HGC.out (by omega))
      have q0 := (hK.res.set 0 (.slice (some ⟨wc.heap.size, 0, none⟩) 3 3)).alloc (.cells #[.int .i64 p6, .int .i64 v6, .slice A61 m61 d61, .slice A62 m62 d62, .int .i64 p4, .int .i64 v4, .slice A41 m41 d41, .slice A42 m42 d42, .int .i64 p5, .int .i64 v5, .slice A51 m51 d51, .slice A52 m52 d52] 58)
      have q1 := q0.cell 0
      simp only [List.setIfInBounds_toArray, List.set_cons_zero, List.getElem?_toArray, List.getElem?_cons_zero] at q1
      have HQ := put q1
      clear hK q0 q1
      go_wp2
      generalize (wc.setCell ⟨w.heap.size, 0, none⟩ (.slice (some ⟨wc.heap.size, 0, none⟩) 3 3)).alloc (.cells #[.int .i64 p6, .int .i64 v6, .slice A61 m61 d61, .slice A62 m62 d62, .int .i64 p4, .int .i64 v4, .slice A41 m41 d41, .slice A42 m42 d42, .int .i64 p5, .int .i64 v5, .slice A51 m51 d51, .slice A52 m52 d52] 58) = WF at HD HQ ⊢
      exact bodyPost_ret (v := .agg #[.slice (some ⟨wc.heap.size, 0, none⟩) 3 3]) (by have q1 := HQ.out; simp [results, Try.results113, go_sem, q1]) rfl HD.out

end Go.Proofs.Ytfdijeeilfhjeaa
namespace Go.Proofs.Ytfdijeeilfhjeaa
open Go.RowKit Exs

theorem row_more {w : World} {B B' : Nat} {e : TypeId} {size n : Nat} {v : Value} {xs : List Value} (h : w.ownsRow B e size v n xs) (hB : B' ≤ B) : w.ownsRow B' e size v n xs := by
  refine ⟨h.1, ?_⟩
  rcases h.2 with h0 | ⟨g, cap, cur, hv, hb, r⟩
  · exact .inl h0
  · exact .inr ⟨g, cap, cur, hv, by omega, r⟩
theorem Leads.base {w : World} {B B' : Nat} {c : C5} (h : Leads w B c) (hB : B' ≤ B) : Leads w B' c := by
  obtain ⟨⟨ts, h1, l1⟩, ⟨xs, h2, l2⟩, ys, h3, l3⟩ := h
  exact ⟨⟨ts, row_more h1 hB, l1⟩, ⟨xs, row_more h2 hB, l2⟩, ys, row_more h3 hB, l3⟩
theorem Sts.base {w : World} {B B' : Nat} {v : Value} {cs : List C5} (h : Sts w B v cs) (hB : B' ≤ B) : Sts w B' v cs := ⟨row_more h.own hB, fun c hc => (h.leads c hc).base hB⟩
theorem LeadsF.base {w : World} {B B' lo : Nat} {c : C4} (h : LeadsF w B lo c) (hB : B' ≤ B) : LeadsF w B' lo c := by
  obtain ⟨⟨xs, h1, l1⟩, cs, h2, l2⟩ := h
  exact ⟨⟨xs, row_more h1 hB, l1⟩, cs, h2.base hB, l2⟩
theorem Fns.base {w : World} {B B' lo : Nat} {v : Value} {cs : List C4} (h : Fns w B lo v cs) (hB : B' ≤ B) : Fns w B' lo v cs := ⟨row_more h.own hB, fun c hc => (h.leads c hc).base hB⟩

/-- What was drawn is put into the result's variable. -/
theorem GivesP.put {w w1 w2 : World} {gc : Nat} {A : Option Addr} {n c T : Nat} {v : Value} {fs : List C4} (hgc : gc < w.heap.size) (hr : Keep w1 w.heap.size #[.slice none 0 0] 44) (hk : KeptX (fun k => k = gc) w w1)
    (hf : Fns w2 w1.heap.size 1 v fs) (h1 : 1 ≤ fs.length) (h5 : fs.length ≤ 5) (hc : Cur w2 gc A n c T) (hg : w1.grownBy w2 (some gc)) :
    Keep w2 w.heap.size #[.slice none 0 0] 44 ∧ GivesP gc A n c T w (.returned (.agg #[v])) (w2.setCell ⟨w.heap.size, 0, none⟩ v) := by
  have hkg : KeptX (fun k => k = gc) w1 w2 := KeptX.of_grownBy hg (fun k e => by injection e with e; exact e.symm)
  have hr2 := hkg.keep hr (by omega)
  have hlt := hr.lt
  have hS : KeptX (fun k => k = w.heap.size) w2 (w2.setCell ⟨w.heap.size, 0, none⟩ v) := KeptX.set (KeptX.refl (fun k => k = w.heap.size) w2) (.inl rfl) 0 v
  have hT : ∀ k ds t fz, k = w.heap.size → w2.heap[k]? = some (.cells ds t fz) → t = 44 := by
    rintro k ds t fz rfl hh
    unfold Keep at hr2
    rw [hr2] at hh; injection hh with hh; injection hh with _ hh _
    exact hh.symm
  have ht1 : TagX w2 (fun k => k = w.heap.size) := fun k ds t fz hx hh => by rw [hT k ds t fz hx hh]; exact ⟨by decide, by decide⟩
  refine ⟨hr2, v, fs, rfl, (hf.base hk.size).keptX hS ht1 (fun k ds t fz hx hh => by rw [hT k ds t fz hx hh]; decide) (fun g hg' e => ?_), h1, h5, hc.keptX hS (fun k hk' e => by omega), ?_⟩
  · have := (World.ownsRow.lt hf.own g hg').1
    omega
  · have hk' := (hk.trans hkg).set (g := w.heap.size) (.inr (Nat.le_refl _)) 0 v
    exact ⟨hk'.os, hk'.tape, hk'.output, hk'.size, fun k hk2 hne => hk'.block k hk2 (fun e => hne (by rw [e]))⟩

set_option maxHeartbeats 1000000 in
set_option maxRecDepth 100000 in
theorem program_any (gc : Nat) (A : Option Addr) (n c T : Nat) (w : World) (hc : Cur w gc A n c T) (hT : T ≤ 299000) :
    Calls Try.prog 93 #[.pointer (some ⟨gc, 0, none⟩)] w (GivesP gc A n c (T + 250002) w) := by
  have HGC := put hc.lt
  have hcW := hc.alloc (.cells #[.slice none 0 0] 44)
  have hkW := Keep.new w #[.slice none 0 0] 44
  have hxW : KeptX (fun k => k = gc) w (w.alloc (.cells #[.slice none 0 0] 44)) := (KeptX.refl _ w).alloc _
  go_enter Try.func93, Try.ntmps93
  go_wp2_with fail
  generalize w.alloc (.cells #[.slice none 0 0] 44) = W0 at hcW hkW hxW ⊢
  refine (one_any gc A n c T 4 _ hcW (by omega) (by omega) (by omega)).mono ?_
  rintro e w1 ⟨b, rfl, hc1, hg1⟩
  have hx0 : KeptX (fun k => k = gc) W0 w1 := KeptX.of_grownBy hg1 (fun k e => by injection e with e; exact e.symm)
  have hk1 : Keep w1 w.heap.size #[.slice none 0 0] 44 := hx0.keep hkW (by have := HGC.out; omega)
  have hx1 : KeptX (fun k => k = gc) w w1 := hxW.trans hx0
  clear hcW hkW hxW hx0 hg1
  cases b with
  | true =>
    go_wp2_with fail
    refine (known_any gc A n c _ _ hc1 (by omega)).mono ?_
    rintro e w2 ⟨v, fs, rfl, hf, h1, h5, hc2, hg2⟩
    obtain ⟨hr2, hG⟩ := GivesP.put HGC.out hk1 hx1 hf h1 h5 (hc2.more (show T + 2 + 100 ≤ T + 250002 by omega)) hg2
    obtain ⟨Av, mv, dv, hv⟩ := hf.slice3
    subst hv
    have r0 := hr2.cell 0
    have rf := hr2.frozen 0
    simp only [List.getElem?_toArray, List.getElem?_cons_zero] at r0
    have q0 := (hr2.set 0 (.slice Av mv dv)).cell 0
    simp only [List.setIfInBounds_toArray, List.set_cons_zero, List.getElem?_toArray, List.getElem?_cons_zero] at q0
    have HG := put hG
    have HQ := put q0
    clear hf hc2 hg2 hr2 q0 hG
    go_wp2
    generalize w2.setCell ⟨w.heap.size, 0, none⟩ (.slice Av mv dv) = WF at HG HQ ⊢
    exact bodyPost_ret (v := .agg #[.slice Av mv dv]) (by have q1 := HQ.out; simp [results, Try.results93, go_sem, q1]) rfl HG.out
  | false =>
    go_wp2_with fail
    refine (prog_any gc A n c _ _ hc1 (by omega)).mono ?_
    rintro e w2 ⟨v, fs, rfl, hf, h1, h5, hc2, hg2⟩
    obtain ⟨hr2, hG⟩ := GivesP.put HGC.out hk1 hx1 hf h1 h5 (hc2.more (show T + 2 + 250000 ≤ T + 250002 by omega)) hg2
    obtain ⟨Av, mv, dv, hv⟩ := hf.slice3
    subst hv
    have r0 := hr2.cell 0
    have rf := hr2.frozen 0
    simp only [List.getElem?_toArray, List.getElem?_cons_zero] at r0
    have q0 := (hr2.set 0 (.slice Av mv dv)).cell 0
    simp only [List.setIfInBounds_toArray, List.set_cons_zero, List.getElem?_toArray, List.getElem?_cons_zero] at q0
    have HG := put hG
    have HQ := put q0
    clear hf hc2 hg2 hr2 q0 hG
    go_wp2
    generalize w2.setCell ⟨w.heap.size, 0, none⟩ (.slice Av mv dv) = WF at HG HQ ⊢
    exact bodyPost_ret (v := .agg #[.slice Av mv dv]) (by have q1 := HQ.out; simp [results, Try.results93, go_sem, q1]) rfl HG.out

end Go.Proofs.Ytfdijeeilfhjeaa

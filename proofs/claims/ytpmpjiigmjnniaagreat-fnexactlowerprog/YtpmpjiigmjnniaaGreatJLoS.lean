/-
  The program's lowStmtOf: given what it makes of its blocks.
-/
import Derived.Test.YtpmpjiigmjnniaaGreatJAppN
import Derived.Deep.RegionLaw
namespace Go.Proofs.YtpmpjiigmjnniaaGreat
open Go.RowKit Exs

theorem insAt_own {W : World} {B : Nat} {S : Nat → Prop} {v : Value} {ts : List Token} (h : Inss W B v ts) (hs : ∀ b, B ≤ b → b < W.heap.size → S b) : InsAt W S v ts := ⟨h.under (Nat.zero_le _), fun b hb => hs b (h.own_lt hb).1 (h.own_lt hb).2⟩

set_option maxHeartbeats 8000000 in
set_option maxRecDepth 100000 in
theorem stt_step (f : Fc) (A1 : Option Addr) (n1 c1 : Nat) (A2 : Option Addr) (n2 c2 : Nat) (hf0 : LowOk f n2) (As : Option Addr) (ns cs g : Nat) (hns : ns ≤ 1048576) (HB : LstC f A1 n1 c1 A2 n2 c2 As ns cs g) : SttC f A1 n1 c1 A2 n2 c2 As ns cs g := by
  intro q s w hs hfu hf hsr
  have hqn : q < n2 := by have := (List.getElem?_eq_some_iff.1 hs).1; have := hf0.len; omega
  have hn2 : n2 ≤ 1000 := hf0.few
  rw [loSt_at hs]
  obtain ⟨b, off, s', B1, m1, d1, B2, m2, d2, B3, m3, d3, hA2, hbb, g0, g1, g2, g3, g4, r1, r2, r3, hx⟩ := hf.stmts.at_ hqn
  obtain rfl : s = s' := by have := hx.out; rw [hs] at this; injection this
  subst hA2
  have hnest := hf0.nest q s hs
  have hsmS := hf0.small.2.2 s (mem_of_at hs)
  have hm1 : m1 ≤ 12 := by have := hf0.ex q s hs; rw [r1.1] at this; exact this
  have hm2 : m2 ≤ 1048576 := by have := hsmS.2.1; rw [r2.1] at this; exact this
  have hm3 : m3 ≤ 1048576 := by have := hsmS.2.2; rw [r3.1] at this; exact this
  have E1 := put r1.1
  have CE := put (fun W (hW : Below w.heap.size w W) => lowExpr_any B1 m1 d1 s.ex W ((r1.below hW).more hW.size) (by omega))
  have CT := put (fun W (hW : Below w.heap.size w W) => HB s.th B2 m2 d2 (q + 1) W (fun n h => by have := hnest n (.inl h); omega) (by omega) (hf.now hW) (r2.now hW) hm2 (hsr.now hW))
  have CR := put (fun W (hW : Below w.heap.size w W) => HB s.el B3 m3 d3 (q + 1) W (fun n h => by have := hnest n (.inr h); omega) (by omega) (hf.now hW) (r3.now hW) hm3 (hsr.now hW))
  have CX := put (fun W (hW : Below w.heap.size w W) => index_any As ns cs (sitesL f) (q : Int) W (hsr.now hW) hns)
  obtain ⟨kd, hkd⟩ : ∃ kd, s.kind = kd := ⟨_, rfl⟩
  rw [hkd] at g0
  have HK := put hkd
  unfold fcV at CT CR ⊢
  have hb0 : Below w.heap.size w ((w.alloc (.cells #[.int .i64 f.params, .int .i64 f.vars, .slice A1 n1 c1, .slice (some ⟨b, off, none⟩) n2 c2] 59)).alloc (.cells #[.int .i64 kd, .int .i64 s.n, .slice B1 m1 d1, .slice B2 m2 d2, .slice B3 m3 d3] 80)) := ((Below.refl _ _).alloc (Nat.le_refl _) _).alloc (by simp) _
  have kf0 : Keep ((w.alloc (.cells #[.int .i64 f.params, .int .i64 f.vars, .slice A1 n1 c1, .slice (some ⟨b, off, none⟩) n2 c2] 59)).alloc (.cells #[.int .i64 kd, .int .i64 s.n, .slice B1 m1 d1, .slice B2 m2 d2, .slice B3 m3 d3] 80)) w.heap.size #[.int .i64 f.params, .int .i64 f.vars, .slice A1 n1 c1, .slice (some ⟨b, off, none⟩) n2 c2] 59 := (Keep.new w _ _).alloc _
  have ks0 : Keep ((w.alloc (.cells #[.int .i64 f.params, .int .i64 f.vars, .slice A1 n1 c1, .slice (some ⟨b, off, none⟩) n2 c2] 59)).alloc (.cells #[.int .i64 kd, .int .i64 s.n, .slice B1 m1 d1, .slice B2 m2 d2, .slice B3 m3 d3] 80)) (w.heap.size + 1) #[.int .i64 kd, .int .i64 s.n, .slice B1 m1 d1, .slice B2 m2 d2, .slice B3 m3 d3] 80 := by
    have := Keep.new (w.alloc (.cells #[.int .i64 f.params, .int .i64 f.vars, .slice A1 n1 c1, .slice (some ⟨b, off, none⟩) n2 c2] 59)) #[.int .i64 kd, .int .i64 s.n, .slice B1 m1 d1, .slice B2 m2 d2, .slice B3 m3 d3] 80
    rwa [World.size_alloc] at this
  have hs0 : ((w.alloc (.cells #[.int .i64 f.params, .int .i64 f.vars, .slice A1 n1 c1, .slice (some ⟨b, off, none⟩) n2 c2] 59)).alloc (.cells #[.int .i64 kd, .int .i64 s.n, .slice B1 m1 d1, .slice B2 m2 d2, .slice B3 m3 d3] 80)).heap.size = w.heap.size + 1 + 1 := by simp
  clear hs hfu hf hf0 HB r1 r2 r3 hx hnest hsmS hkd hsr
  go_enter Tryz.func71, Tryz.ntmps71
  go_wp2_with fail
  generalize hW : (w.alloc (.cells #[.int .i64 f.params, .int .i64 f.vars, .slice A1 n1 c1, .slice (some ⟨b, off, none⟩) n2 c2] 59)).alloc (.cells #[.int .i64 kd, .int .i64 s.n, .slice B1 m1 d1, .slice B2 m2 d2, .slice B3 m3 d3] 80) = W0 at hb0 kf0 ks0 hs0 ⊢
  clear hW g0 g1 g2 g3 g4
  refine (CE.out W0 hb0).mono ?_
  rintro e w1 ⟨rfl, hroom, hb1⟩
  have hl1 : (lowE s.ex).length = m1 := by rw [lowE_length, E1.out]
  have nu8 : Inss w1 w.heap.size (.slice (some ⟨W0.heap.size, 0, none⟩) m1 m1) (lowE s.ex) := hroom.inss hb0.size hl1 (by omega)
  have kf1 := kf0.below hb1
  have ks1 := ks0.below hb1
  have b1 := hb0.trans (hb1.mono hb0.size)
  have hW0 : w.heap.size + 1 + 1 ≤ w1.heap.size := by have := hb1.size; omega
  obtain ⟨g8, hg8⟩ : ∃ g8, W0.heap.size = g8 := ⟨_, rfl⟩
  clear hroom hb1 kf0 ks0 hb0 CE hs0
  have x0 := ks1.cell 0; have x1 := ks1.cell 1; have x2 := ks1.cell 2; have x3 := ks1.cell 3; have x4 := ks1.cell 4
  have y0 := kf1.cell 0; have y1 := kf1.cell 1; have y2 := kf1.cell 2; have y3 := kf1.cell 3
  simp at x0 x1 x2 x3 x4 y0 y1 y2 y3
  rw [hg8] at nu8 ⊢
  clear hg8
  by_cases k7 : kd = 7
  · subst k7
    have HL := put (show stmtO f (loB (loSt f g)) s q = .ifs (lowE s.ex) (loB (loSt f g) s.th) (loB (loSt f g) s.el) .nil by unfold stmtO; rw [if_pos HK.out])
    go_wp2
    go_region_law (first
      | (go_simp; go_at_call 50; refine (CR.out w6 b6).mono ?_; rintro e w7 ⟨A7, n7, c7, rfl, hn7, h7, hb7⟩; replace hn7 := put hn7)
      | (go_simp; go_at_call 50; refine (CT.out w1.drew b1.drew).mono ?_; rintro e w6 ⟨A6, n6, c6, rfl, hn6, h6, hb6⟩; replace hn6 := put hn6; have b6 : Below w.heap.size w w6 := b1.drew.trans (hb6.mono b1.size); have kf6 := (show Keep w1.drew w.heap.size _ _ from kf1).below hb6; have ks6 := (show Keep w1.drew (w.heap.size + 1) _ _ from ks1).below hb6; have x0' := ks6.cell 0; have x1' := ks6.cell 1; have x2' := ks6.cell 2; have x3' := ks6.cell 3; have x4' := ks6.cell 4; have y0' := kf6.cell 0; have y1' := kf6.cell 1; have y2' := kf6.cell 2; have y3' := kf6.cell 3; simp at x0' x1' x2' x3' x4' y0' y1' y2' y3'))
    all_goals (
      have b16 : Below w1.heap.size w1 w6 := (Below.refl w1.heap.size w1).drew.trans hb6
      have h6' := HoldsLo.kept (W' := w7) (fun b hb => hb7.block b hb.2) _ _ _ h6
      have HU := put (show HV w7 (Btw w w7) [.iface 132 (.agg #[.slice (some ⟨g8, 0, none⟩) m1 m1, .slice A6 n6 c6, .slice A7 n7 c7])] (.ifs (lowE s.ex) (loB (loSt f g) s.th) (loB (loSt f g) s.el) .nil) from
        ⟨_, A6, n6, c6, A7, n7, c7, [], rfl, insAt_own ((nu8.below b16).below hb7) (fun b h1 h2 => ⟨h1, h2⟩), hn6.out, hn7.out,
          HoldsLo.more (fun b hb => ⟨Nat.le_trans b1.size hb.1, Nat.lt_of_lt_of_le hb.2 hb7.size⟩) _ _ _ h6', HoldsLo.more (fun b hb => ⟨Nat.le_trans b6.size hb.1, hb.2⟩) _ _ _ h7, rfl⟩)
      have b7 := b6.trans (hb7.mono b6.size)
      clear nu8 h6 h7 h6' b16 hb6 hb7 kf1 ks1 kf6 ks6
      go_wp2
      go_ret
      exact ⟨_, _, rfl, by rw [HL.out]; exact HU.out, b7⟩)
  by_cases k8 : kd = 8
  · subst k8
    have HL := put (show stmtO f (loB (loSt f g)) s q = .whl (lowE s.ex) (loB (loSt f g) s.th) .nil by unfold stmtO; rw [if_neg (by rw [HK.out]; decide), if_pos HK.out])
    go_wp2_with fail
    refine (CT.out w1 b1).mono ?_
    rintro e w2 ⟨A', n', c', rfl, hn', hh, hb2⟩
    replace hn' := put hn'
    have HU := put (show HV w2 (Btw w w2) [.iface 134 (.agg #[.slice (some ⟨g8, 0, none⟩) m1 m1, .slice A' n' c'])] (.whl (lowE s.ex) (loB (loSt f g) s.th) .nil) from
      ⟨_, A', n', c', [], rfl, insAt_own (nu8.below hb2) (fun b h1 h2 => ⟨h1, h2⟩), hn'.out, HoldsLo.more (fun b hb => ⟨by have := hb.1; have := b1.size; omega, hb.2⟩) _ _ _ hh, rfl⟩)
    have b2 := b1.trans (hb2.mono b1.size)
    clear nu8 hh hb2 kf1 ks1
    go_wp2
    go_ret
    exact ⟨_, _, rfl, by rw [HL.out]; exact HU.out, b2⟩
  by_cases k3 : kd = 3
  · subst k3
    have HL := put (show stmtO f (loB (loSt f g)) s q = .plain [(12, ixOf (sitesL f) q)] .nil by unfold stmtO; rw [if_neg (by rw [HK.out]; decide), if_neg (by rw [HK.out]; decide), if_pos HK.out])
    go_wp2_with fail
    refine (CX.out w1 b1).mono ?_
    rintro e w2 ⟨rfl, rfl⟩
    have hI := Inss.lit1 w1 12 (ixOf (sitesL f) q)
    have b2 := b1.alloc b1.size (.cells #[.int .i64 12, .int .i64 (ixOf (sitesL f) q)] 83)
    have HU := put (show HV (w1.alloc (.cells #[.int .i64 12, .int .i64 (ixOf (sitesL f) q)] 83)) (Btw w (w1.alloc (.cells #[.int .i64 12, .int .i64 (ixOf (sitesL f) q)] 83))) [.iface 130 (.slice (some ⟨w1.heap.size, 0, none⟩) 1 1)] (.plain [(12, ixOf (sitesL f) q)] .nil) from
      ⟨_, [], rfl, insAt_own hI (fun b h1 h2 => ⟨by have := b1.size; omega, h2⟩), rfl⟩)
    clear hI nu8 kf1 ks1
    go_wp2
    go_ret
    exact ⟨_, _, rfl, by rw [HL.out]; exact HU.out, b2⟩
  · have HL := put (show stmtO f (loB (loSt f g)) s q = .plain (lowE s.ex ++ doesL kd s.n) .nil by unfold stmtO; rw [if_neg (by rw [HK.out]; exact k7), if_neg (by rw [HK.out]; exact k8), if_neg (by rw [HK.out]; exact k3)]; unfold doesL; rw [HK.out])
    have q7 : (kd == 7) = false := beq_of k7
    have q8 : (kd == 8) = false := beq_of k8
    have q3 : (kd == 3) = false := beq_of k3
    clear k7 k8 k3
    go_wp2_with fail
    refine (lowDoes_any kd s.n _ _ _ w1).mono ?_
    rintro e w2 ⟨v2, rfl, nu2, hb2⟩
    have nu8' := nu8.below hb2
    have b2 := b1.trans (hb2.mono b1.size)
    have hd2 : (doesL kd s.n).length ≤ 1000000 := by unfold doesL; (repeat' split) <;> simp
    have hle : (lowE s.ex).length ≤ 1000000 := by omega
    clear nu8 hb2 kf1 ks1 x0 x1 x2 x3 x4 y0 y1 y2 y3
    go_wp2_with (at_builtin; refine wpList_append_inssG rfl _ _ rfl w.heap.size _ (lowE s.ex) rfl b2.size nu8' w1.heap.size v2 (doesL kd s.n) rfl nu2 hle hd2 ?_)
    intro v' w3 hn' hb3 _
    have HU := put (show HV w3 (Btw w w3) [.iface 130 v'] (.plain (lowE s.ex ++ doesL kd s.n) .nil) from ⟨v', [], rfl, insAt_own hn' (fun b h1 h2 => ⟨h1, h2⟩), rfl⟩)
    have b3 := b2.trans hb3
    clear hn' hb3 nu8'
    go_wp2
    go_ret
    exact ⟨_, _, rfl, by rw [HL.out]; exact HU.out, b3⟩

end Go.Proofs.YtpmpjiigmjnniaaGreat

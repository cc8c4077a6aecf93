/-
  The program's heights: contract.
-/
import Derived.Test.YtpbkkjiikhjanaaGreatDoorJWys
import Derived.ScopeJumps
import Derived.WalkMore
namespace Go.Proofs.YtpbkkjiikhjanaaGreatDoor
open Go.RowKit Exs Ht

theorem least_of {p : Nat → Prop} : (∃ n, p n) → ∃ n, p n ∧ ∀ m, p m → n ≤ m := by
  rintro ⟨n, hn⟩
  induction n using Nat.strongRecOn with
  | _ n ih =>
    by_cases h : ∃ m, m < n ∧ p m
    · obtain ⟨m, hm, hp⟩ := h; exact ih m hm hp
    · exact ⟨n, hn, fun m hm => Nat.le_of_not_lt fun hlt => h ⟨m, hlt, hm⟩⟩
open Classical in
noncomputable def leastN (p : Nat → Prop) : Nat := if h : ∃ n, p n then Classical.choose (least_of h) else 0
theorem leastN_is {p : Nat → Prop} (h : ∃ n, p n) : p (leastN p) ∧ ∀ m, p m → leastN p ≤ m := by
  unfold leastN
  rw [dif_pos h]
  exact Classical.choose_spec (least_of h)

theorem wp_mono' {P : Program} {a : Act} {w : World} {Q Q' : Exit → Act → World → Prop} {c : Code} (h : c.wp P Q a w) (hq : ∀ e a w, Q e a w → Q' e a w) : c.wp P Q' a w := fun b k cs => by
  obtain ⟨e, a', w', h1, h2⟩ := h b k cs
  exact ⟨e, a', w', hq _ _ _ h1, h2⟩

/-- A scope in which the run jumps back to a label, with a count that no part of the frame tells. -/
theorem wp_scope_ghost {P : Program} {a : Act} {w : World} {Q : Exit → Act → World → Prop} {c rest : Code} (l : Nat) (J : Nat → Act → World → Prop) (hf : findLabel c l = some (Code.skip.seq rest))
    (first : (∀ n a w, J n a w → rest.wp P (Exit.jump l (fun a' w' => ∃ n, J n a' w') Q) a w) → c.wp P (Exit.jump l (fun a' w' => ∃ n, J n a' w') Q) a w)
    (pass0 : ∀ n a w (JJ : Act → World → Prop), J n a w → (∀ n' a' w', J n' a' w' → n' < n → JJ a' w') → rest.wp P (Exit.jump l JJ Q) a w) : (Code.scope c).wp P Q a w := by
  have pass : ∀ n a w, J n a w → rest.wp P (Exit.jump l (fun a' w' => ∃ n', J n' a' w' ∧ n' < n) Q) a w := fun n a w h => pass0 n a w _ h fun n' _ _ h' hl => ⟨n', h', hl⟩
  refine wp_scope_jumps l (fun a w => ∃ n, J n a w) (fun a w => leastN fun n => J n a w) hf (first fun n a w h => wp_mono' (pass n a w h) fun e a' w' he => ?_) fun a w h => ?_
  · cases e <;> first | exact he | (obtain ⟨h1, n', h2, _⟩ := he; exact ⟨h1, n', h2⟩)
  · obtain ⟨h1, h2⟩ := leastN_is h
    refine wp_seq (wp_skip ?_)
    refine wp_mono' (pass _ a w h1) fun e a' w' he => ?_
    cases e <;> first | exact he | (obtain ⟨e1, n', h3, h4⟩ := he; exact ⟨e1, ⟨n', h3⟩, Nat.lt_of_le_of_lt ((leastN_is ⟨n', h3⟩).2 n' h3) h4⟩)

structure WMem (V wr : World) (g k : Nat) (hs : List Int) (v : Value) (ts : List Token) : Prop where
  room : Room wr g 3 k .i64 hs
  ways : Ways wr (g + 1) v ts
  bel : Below g V wr
theorem WMem.below {V wr W : World} {g k : Nat} {hs : List Int} {v : Value} {ts : List Token} (h : WMem V wr g k hs v ts) (hg : g ≤ V.heap.size) (hb : Below wr.heap.size wr W) : WMem V W g k hs v ts :=
  ⟨h.room.below hb h.room.lt, h.ways.below hb, h.bel.trans (hb.mono (by have := h.bel.size; omega))⟩
theorem WMem.set {V wr : World} {g k : Nat} {hs : List Int} {v : Value} {ts : List Token} (h : WMem V wr g k hs v ts) (hl : hs.length ≤ k) (i : Nat) (x : Int) : WMem V (wr.setCell ⟨g, i, none⟩ (.int .i64 x)) g k (hs.set i x) v ts :=
  ⟨h.room.set hl x, h.ways.other (Nat.lt_succ_self g), h.bel.setCell (Nat.le_refl _) _⟩
theorem WMem.app {V W w1 : World} {g k : Nat} {hs : List Int} {v v' : Value} {ts ts' : List Token} (h : WMem V W g k hs v ts) (hn : Ways w1 (g + 1) v' ts') (hgr : W.grownBy w1 v.ownBlock) : WMem V w1 g k hs v' ts' := by
  have hb : Below (g + 1) W w1 := ⟨hgr.os, hgr.tape, hgr.output, hgr.size, fun j hj => hgr.block j (by have := h.room.lt; omega) fun e => by have := h.ways.own_lt e.symm; omega⟩
  exact ⟨h.room.below hb (Nat.lt_succ_self g), hn, h.bel.trans (hb.mono (Nat.le_succ g))⟩
theorem Ways.shape {w : World} {B : Nat} {v : Value} {ts : List Token} (h : Ways w B v ts) : ∃ A c, v = .slice A ts.length c := by
  rcases h.2 with ⟨rfl, h0⟩ | ⟨g, cap, cur, rfl, _⟩
  · exact ⟨none, 0, by rw [h0]⟩
  · exact ⟨_, _, rfl⟩
theorem Ways.cut' {w : World} {B g cap n : Nat} {ts : List Token} (h : Ways w B (.slice (some ⟨g, 0, none⟩) n cap) ts) (m : Nat) (hm : m ≤ n) : Ways w B (.slice (some ⟨g, 0, none⟩) m cap) (ts.take m) := by
  obtain ⟨A, c, hv⟩ := h.shape
  injection hv with h1 h2 h3
  subst h2
  exact h.cut m hm
theorem after_quiet {W1 w3 : World} {q : Nat} {cs : Array Value} {t : TypeId} (hb3 : Below ((W1.drewN q).alloc (.cells cs t)).heap.size ((W1.drewN q).alloc (.cells cs t)) w3) : Below W1.heap.size W1 w3 ∧ Keep w3 W1.heap.size cs t :=
  ⟨((below_drewN (Below.refl _ W1) q).alloc (Nat.le_refl _) (.cells cs t)).trans (hb3.mono (by simp [World.drewN])), (Keep.new (W1.drewN q) cs t).below hb3⟩
theorem ways_eq {ws : List (Nat × Int)} {l : List Int} {H : Int} (hp : ∀ y ∈ l, 0 ≤ y) : (ws ++ (l.map Int.toNat).map fun q => (q, H)).map wayT = ws.map wayT ++ l.map fun y => (y, H) := by
  rw [List.map_append, List.map_map, List.map_map]
  congr 1
  apply List.map_congr_left
  intro y hy
  simp only [Function.comp, wayT]
  rw [Int.toNat_of_nonneg (hp y hy)]
theorem start_ways {cs : List Cd} {s : Cd} {n2 : Nat} (hro : rowsF n2 0 s.rows = true) : (0, 0) :: padT s.rows = ((0, 0) :: (gr cs s).pads.map fun p => (p, 0)).map wayT := by
  rw [List.map_cons]
  congr 1
  show padT s.rows = List.map wayT (List.map _ (List.map _ s.rows))
  rw [List.map_map, List.map_map]
  unfold padT
  apply List.map_congr_left
  intro r hr
  have := rowsF_mem hro r hr
  simp only [Function.comp, wayT]
  rw [Int.toNat_of_nonneg this.1]

set_option maxHeartbeats 4000000 in
set_option maxRecDepth 100000 in
theorem heightsIn_any (A : Option Addr) (n c : Nat) (cs : List Cd) (s : Cd) (A1 : Option Addr) (n1 c1 : Nat) (A2 : Option Addr) (n2 c2 : Nat) (A3 : Option Addr) (n3 c3 : Nat) (w : World) (hr : ReadsC w w.heap.size A n cs) (hs : IsCd w w.heap.size s A1 n1 A2 n2 A3 n3) (_ : n ≤ 5) (hi : cdB s = true) (hp : ∀ c ∈ cs, cdB c = true) (hnm : namedB cs s = true) (hgo : goesB s = true) (hro : rowsF s.ins.length 0 s.rows = true) (hkd : Kinds w) (hpos : 0 < w.heap.size) :
    Calls Tryz.prog 117 #[.agg #[.slice A n c], cdV s A1 n1 c1 A2 n2 c2 A3 n3 c3] w fun e w' => ∃ v, e = .returned (.tuple #[v, .bool (htAns (hts (gr cs s))).2]) ∧ Nums w' w.heap.size 3 .i64 v (htAns (hts (gr cs s))).1 ∧ Below w.heap.size w w' := by
  have WF := put (gr_wf hp hi hgo hro)
  have HNM := put hnm
  have HP := put hp
  have HRO := put hro
  have hi0 := hi
  have hs0 := hs
  clear hp hnm hgo hro
  have hb := ((Below.refl w.heap.size w).alloc (Nat.le_refl _) (Obj.cells #[.slice A n c] 36)).alloc (by simp) (Obj.cells #[.int .i64 s.params, .int .i64 s.vars, .slice A1 n1 c1, .slice A2 n2 c2, .slice A3 n3 c3] 82)
  have k1 := (Keep.new w #[.slice A n c] 36).alloc (Obj.cells #[.int .i64 s.params, .int .i64 s.vars, .slice A1 n1 c1, .slice A2 n2 c2, .slice A3 n3 c3] 82)
  have k2 := Keep.new (w.alloc (Obj.cells #[.slice A n c] 36)) #[.int .i64 s.params, .int .i64 s.vars, .slice A1 n1 c1, .slice A2 n2 c2, .slice A3 n3 c3] 82
  rw [World.size_alloc] at k2
  have hsz := cdB_iff s |>.1 hi
  rw [hs.sites.1, hs.ins.1, hs.rows.1] at hsz
  have HSZ := put hsz
  have l1 : n1 ≤ 4 := by omega
  have l2 : n2 ≤ 300 := by omega
  have l3 : n3 ≤ 300 := by omega
  clear hsz hi
  unfold cdV
  have GN := put (show (gr cs s).n = n2 from hs.ins.1)
  have l0 : 1 ≤ n2 := by have := HSZ.out; omega
  have hbN := hb.alloc hb.size (.cells #[.int .i64 (-1)] 3)
  have kN := Keep.new ((w.alloc (Obj.cells #[.slice A n c] 36)).alloc (Obj.cells #[.int .i64 s.params, .int .i64 s.vars, .slice A1 n1 c1, .slice A2 n2 c2, .slice A3 n3 c3] 82)) #[.int .i64 (-1)] 3
  rw [World.size_alloc, World.size_alloc] at kN
  replace k1 := k1.alloc (.cells #[.int .i64 (-1)] 3)
  replace k2 := k2.alloc (.cells #[.int .i64 (-1)] 3)
  have hins := hs.ins.now hbN
  have hrd := hr.now hbN
  have hcd := hs0.now hbN
  have EN := put hr.1
  have HKD := put (hkd.below hbN hpos)
  have VS : (((w.alloc (Obj.cells #[.slice A n c] 36)).alloc (Obj.cells #[.int .i64 s.params, .int .i64 s.vars, .slice A1 n1 c1, .slice A2 n2 c2, .slice A3 n3 c3] 82)).alloc (.cells #[.int .i64 (-1)] 3)).heap.size = w.heap.size + 1 + 1 + 1 := by simp
  have SW := put (start_ways (cs := cs) (s := s) HRO.out)
  clear hr hs hs0 hkd hb
  generalize hV : ((w.alloc (Obj.cells #[.slice A n c] 36)).alloc (Obj.cells #[.int .i64 s.params, .int .i64 s.vars, .slice A1 n1 c1, .slice A2 n2 c2, .slice A3 n3 c3] 82)).alloc (.cells #[.int .i64 (-1)] 3) = V at hbN kN k1 k2 hins hrd hcd HKD VS
  have HV := put hV
  clear hV
  go_enter Tryz.func117, Tryz.ntmps117
  go_wp2
  refine wp_scope_ghost 0 (fun m a' w' => ∃ (hs : List Int) (ws : List (Nat × Int)) (v : Value) (us : List Value), a' = { tmps := #[.agg #[.slice A n c], .agg #[.int .i64 s.params, .int .i64 s.vars, .slice A1 n1 c1, .slice A2 n2 c2, .slice A3 n3 c3], .pointer (some ⟨w.heap.size, 0, none⟩), .pointer (some ⟨w.heap.size + 1, 0, none⟩), .slice none 0 0, .bool false, .slice (some ⟨w.heap.size + 1 + 1 + 1, 0, none⟩) n2 n2, v, us.getD 0 undef, us.getD 1 undef, us.getD 2 undef, us.getD 3 undef, us.getD 4 undef, us.getD 5 undef, us.getD 6 undef, us.getD 7 undef, us.getD 8 undef, us.getD 9 undef, us.getD 10 undef, us.getD 11 undef, us.getD 12 undef, us.getD 13 undef, us.getD 14 undef, us.getD 15 undef, us.getD 16 undef, us.getD 17 undef, us.getD 18 undef, us.getD 19 undef, us.getD 20 undef, us.getD 21 undef, us.getD 22 undef, us.getD 23 undef, us.getD 24 undef, us.getD 25 undef, us.getD 26 undef, us.getD 27 undef, us.getD 28 undef, us.getD 29 undef, us.getD 30 undef, us.getD 31 undef, us.getD 32 undef, us.getD 33 undef, us.getD 34 undef, us.getD 35 undef, us.getD 36 undef, us.getD 37 undef, us.getD 38 undef, us.getD 39 undef, us.getD 40 undef, us.getD 41 undef, us.getD 42 undef, us.getD 43 undef, us.getD 44 undef, us.getD 45 undef, us.getD 46 undef, us.getD 47 undef, us.getD 48 undef, us.getD 49 undef, us.getD 50 undef, us.getD 51 undef, us.getD 52 undef, us.getD 53 undef, us.getD 54 undef, us.getD 55 undef, us.getD 56 undef, us.getD 57 undef, us.getD 58 undef, us.getD 59 undef, us.getD 60 undef, us.getD 61 undef, us.getD 62 undef, us.getD 63 undef, us.getD 64 undef, us.getD 65 undef, us.getD 66 undef, us.getD 67 undef, us.getD 68 undef, us.getD 69 undef, us.getD 70 undef, us.getD 71 undef, us.getD 72 undef, us.getD 73 undef, us.getD 74 undef, us.getD 75 undef, us.getD 76 undef, us.getD 77 undef, us.getD 78 undef, us.getD 79 undef, us.getD 80 undef, us.getD 81 undef, us.getD 82 undef, us.getD 83 undef, us.getD 84 undef, us.getD 85 undef, us.getD 86 undef, us.getD 87 undef, us.getD 88 undef, us.getD 89 undef, us.getD 90 undef, us.getD 91 undef], defers := [] } ∧ Hid (Ht.Im (gr cs s) hs ws) ∧ WMem V w' (w.heap.size + 1 + 1 + 1) n2 hs v (ws.map wayT) ∧ m = 2 * miss hs + ws.length) rfl ?_ ?_
  · intro hrest
    go_wp2_with fail
    rw [HV.out]
    refine (repeat_any (-1) n2 (w.heap.size + 1 + 1) V kN l0 l2).mono ?_
    rintro e w1 ⟨rfl, hroom, hb1⟩
    rw [VS] at hroom hb1 ⊢
    have z := (k2.below' hb1 (by omega))
    have z0 := z.cell 0
    have z1 := z.cell 1
    have z2 := z.cell 2
    have z3 := z.cell 3
    have z4 := z.cell 4
    simp at z0 z1 z2 z3 z4
    have hcon := waysInto_any s A1 n1 c1 A2 n2 c2 A3 n3 c3 w1 (hcd.now (by rw [VS]; exact hb1)) hi0
    unfold cdV at hcon
    go_wp2_with fail
    refine hcon.mono ?_
    rintro e w2 ⟨v, rfl, hways, hb2⟩
    have hr2 := hroom.below hb2 hroom.lt
    have hg1 := hroom.lt
    clear z z0 z1 z2 z3 z4 hcon
    go_wp2
    go_step3
    rename_i hK
    refine hK _ _ (hrest _ _ _ ⟨List.replicate n2 (-1), (0, 0) :: (gr cs s).pads.map fun p => (p, 0), v, [_, _, _, _, _, _, _, _, _, _, _, _, _, _, _, _, _, _, _, _, _, _, _, _, _, _, _, _, _, _, _, _, _, _, _, _, _, _, _, _, _, _, _, _, _, _, _, _, _, _, _, _, _, _, _, _, _, _, _, _, _, _, _, _, _, _, _, _, _, _, _, _, _, _, _, _, _, _, _, _, _, _, _, _, _, _, _, _, _, _, _, _], rfl, ?_, ⟨hr2, ?_, ?_⟩, rfl⟩)
    · have := Ht.Im.start (gr cs s)
      rw [GN.out] at this
      exact put this
    · rw [← SW.out]
      exact hways.more hg1
    · exact hb1.trans (hb2.mono (by omega))
  · rintro m a' wo JJ ⟨hs, ws, v, us, rfl, IM, hm, rfl⟩ hJ
    have HJ := put hJ
    clear hJ
    have hbV : Below V.heap.size V wo := by rw [VS]; exact hm.bel
    have hlen : hs.length = n2 := by rw [IM.out.len, GN.out]
    have hVG : w.heap.size + 1 + 1 + 1 ≤ V.heap.size := by omega
    have hgl : w.heap.size + 1 + 1 + 1 < wo.heap.size := hm.room.lt
    have hwl : ws.length ≤ 1000 := by
      have h1 := IM.out.size
      have h2 : (gr cs s).pads.length = n3 := by show (List.map _ _).length = n3; rw [List.length_map]; exact hcd.rows.1
      rw [GN.out, h2] at h1
      omega
    have bwr : Below w.heap.size w wo := hbN.trans (hbV.mono hbN.size)
    rcases List.eq_nil_or_concat ws with rfl | ⟨ws', ⟨t, h⟩, rfl⟩
    · obtain ⟨Aw, cw, hv⟩ := hm.ways.shape
      rw [List.length_map, List.length_nil] at hv
      subst hv
      have HY := put (hts_of (IM.out.end_ WF.out))
      have hnum := Nums.of_room (B := w.heap.size) hm.room (by omega) (by omega) (by unfold maxLen; omega)
      rw [hlen] at hnum
      clear IM
      go_wp2
      simp only [Exit.jump]
      go_ret2
      rw [HY.out]
      exact ⟨_, rfl, hnum, bwr⟩
    · rw [List.concat_eq_append] at IM hm hwl HJ
      obtain ⟨h0, h41, hrch, htn, gg, hgg, hg0, hg1⟩ := IM.out.top WF.out
      obtain ⟨L, hL⟩ : ∃ L, ws'.length = L := ⟨_, rfl⟩
      have hwL : (List.map wayT (ws' ++ [(t, h)])).length = L + 1 := by simp [hL]
      obtain ⟨gw, cap, hv, hgw, hgwl, hcap, hcm, hcell⟩ := hm.ways.form (by rw [hwL]; omega)
      rw [hwL] at hv hcap
      subst hv
      obtain ⟨e1, e2⟩ := hcell L (wayT (t, h)) (by rw [List.getElem?_map, List.getElem?_append_right (by omega), hL, Nat.sub_self]; rfl)
      simp only [wayT] at e1 e2
      rw [GN.out] at htn
      have hcut := hm.ways.cut' L (by omega)
      rw [List.map_append, List.take_append_of_le_length (by simp [hL]), List.take_of_length_le (by simp [hL])] at hcut
      have hA := (Below.refl wo.heap.size wo).alloc (Nat.le_refl _) (.cells #[.int .i64 (t : Int), .int .i64 h] 171)
      have kb := Keep.new wo #[.int .i64 (t : Int), .int .i64 h] 171
      have hmC := (WMem.mk hm.room hcut hm.bel).below hVG hA
      have bw1 := bwr.alloc bwr.size (.cells #[.int .i64 (t : Int), .int .i64 h] 171)
      have hLb : L ≤ 1000 := by simp at hwl; omega
      have OW := put (fun (b : Nat) e => hcut.own_lt (b := b) e)
      clear hm hcut hcell hwL hA
      go_wp2
      generalize hW1 : wo.alloc (.cells #[.int .i64 (t : Int), .int .i64 h] 171) = W1 at kb hmC bw1 ⊢
      have hsz1 : W1.heap.size = wo.heap.size + 1 := by rw [← hW1]; simp
      clear hW1 e1 e2
      have cg := hmC.room.at hgg
      have y0 := kb.cell 0
      have y1 := kb.cell 1
      simp at y0 y1
      have htI : (t : Int) < (n2 : Int) := by omega
      by_cases hq : gg = h
      · subst hq
        have IMA := put (IM.out.again hgg)
        go_quiet (fail)
        go_wp2
        go_step3
        refine ⟨rfl, HJ.out _ _ _ ⟨hs, ws', _, [_, _, _, _, _, _, _, _, _, _, _, _, _, _, _, _, _, _, _, _, _, _, _, _, _, _, _, _, _, _, _, _, _, _, _, _, _, _, _, _, _, _, _, _, _, _, _, _, _, _, _, _, _, _, _, _, _, _, _, _, _, _, _, _, _, _, _, _, _, _, _, _, _, _, _, _, _, _, _, _, _, _, _, _, _, _, _, _, _, _, _, _], rfl, IMA, hmC.below hVG (below_drewN (Below.refl _ _) _), rfl⟩ (by simp)⟩
      · have hqb := beq_of hq
        have hbV1 : Below V.heap.size V W1 := by rw [VS]; exact hmC.bel
        obtain ⟨b, off, op, x, rfl, hb', i1, i2, hxt⟩ := (hins.below hbV1).at_ htn
        have HI : Hid (insB op x = true) := put (HSZ.out.2 _ (mem_of_at hxt.out))
        have HCALL := put (show op = 7 → x < (n : Int) from fun e => by
          have h1 := (namedB_iff cs s).1 HNM.out _ (mem_of_at hxt.out)
          subst e
          have h2 : x < (cs.length : Int) := of_decide_eq_true (show decide _ = true from h1)
          rw [EN.out] at h2
          exact h2)
        have TK := put (gr_tk (cs := cs) hxt.out)
        have PT := put (gr_pt (cs := cs) hxt.out)
        have NX := put (gr_nx (cs := cs) hxt.out)
        obtain ⟨tb0, tb1⟩ := tkI_is HP.out op x
        have pb : 0 ≤ kP op ∧ kP op ≤ 1 := by rcases kP_is op with e | ⟨e, _⟩ <;> omega
        obtain ⟨pb0, pb1⟩ := pb
        have CON := put (fun W (hW : Below W1.heap.size W1 W) => insTakes_any A n c cs op x W ((hrd.now hbV1).now hW) ((HKD.out.below hbV1 (by omega)).below hW (by omega)) (by have := hW.size; omega) HI.out HCALL.out)
        have z3 := (k2.below hbV1).cell 3
        have z0 := (k1.below hbV1).cell 0
        have zz0 : ∀ q, ((W1.drewN q).alloc (.cells #[.int .i64 op, .int .i64 x] 129)).cell? ⟨w.heap.size, 0, none⟩ = some (.slice A n c) := fun q => (((k1.below hbV1).below (below_drewN (Below.refl _ W1) q)).alloc (.cells #[.int .i64 op, .int .i64 x] 129)).cell 0
        simp at z3 z0
        obtain ⟨T, hT⟩ : ∃ T, tkI cs op x = T := ⟨_, rfl⟩
        rw [hT] at tb0 tb1 TK CON
        clear hT
        go_quiet (fail)
        go_wp2_with fail
        refine (CON.out _ ((below_drewN (Below.refl _ W1) _).alloc (Nat.le_refl _) _)).mono ?_
        rintro e w3 ⟨rfl, hb3⟩
        obtain ⟨hB3, kn⟩ := after_quiet hb3
        rw [hsz1] at kn
        replace hsz1 : wo.heap.size + 1 ≤ W1.heap.size := by omega
        have kb3 := kb.below hB3
        have hm3 := hmC.below hVG hB3
        have bw3 := bw1.trans (hB3.mono bw1.size)
        clear hb3 y0 y1 cg z3 z0 i1 i2 kb hmC CON zz0
        have cg := hm3.room.at hgg
        have fg := hm3.room.frozen t
        have y0 := kb3.cell 0
        have y1 := kb3.cell 1
        have n0 := kn.cell 0
        have n1' := kn.cell 1
        simp at y0 y1 n0 n1'
        by_cases hbad : gg ≠ -1 ∨ 40 < h ∨ h < T
        · have HN := put (hts_none (IM.out.bad WF.out hgg hq (by rw [TK.out]; exact hbad)))
          by_cases a1 : gg = -1
          · subst a1
            by_cases a2 : 40 < h
            · go_wp2
              simp only [Exit.jump]
              go_ret2
              rw [HN.out]
              exact ⟨_, rfl, Nums.nil _ _ _ _, bw3⟩
            · have a3 : h < T := by rcases hbad with h1 | h1 | h1 <;> first | exact absurd rfl h1 | exact absurd h1 a2 | exact h1
              replace a2 : h ≤ 40 := by omega
              go_wp2
              simp only [Exit.jump]
              go_ret2
              rw [HN.out]
              exact ⟨_, rfl, Nums.nil _ _ _ _, bw3⟩
          · have a2 : (gg != -1) = true := by simp [a1]
            go_wp2
            simp only [Exit.jump]
            go_ret2
            rw [HN.out]
            exact ⟨_, rfl, Nums.nil _ _ _ _, bw3⟩
        · have a1 : gg = -1 := Classical.byContradiction fun e => hbad (.inl e)
          have a2 : h ≤ 40 := by omega
          have a3 : T ≤ h := by omega
          clear hbad
          subst a1
          have IMN := put (IM.out.new WF.out hgg a2 (by rw [TK.out]; exact a3))
          rw [TK.out, PT.out, NX.out] at IMN
          have MS := put (miss_set hgg (by decide) h0)
          have hs3 := hB3.size
          have hm4 := hm3.set (by omega) t h
          have kn4 := kn.other (g' := w.heap.size + 1 + 1 + 1) (by omega) t (.int .i64 h)
          have kb4 := kb3.other (g' := w.heap.size + 1 + 1 + 1) (by omega) t (.int .i64 h)
          have bw4 := bw3.setCell (p := ⟨w.heap.size + 1 + 1 + 1, t, none⟩) (show w.heap.size ≤ w.heap.size + 1 + 1 + 1 by omega) (.int .i64 h)
          have hsz4 : w3.heap.size ≤ (w3.setCell ⟨w.heap.size + 1 + 1 + 1, t, none⟩ (.int .i64 h)).heap.size := by rw [size_set]; exact Nat.le_refl _
          have x0 := kn4.cell 0
          have x1 := kn4.cell 1
          have x2 := kb4.cell 0
          have x3 := kb4.cell 1
          simp at x0 x1 x2 x3
          have HLN := put (nxL_length op x (t : Int))
          have HPOS := put (nxL_pos (a := (t : Int)) HI.out (by omega))
          clear hm3 kb3
          go_wp2_with fail
          generalize hW4 : w3.setCell ⟨w.heap.size + 1 + 1 + 1, t, none⟩ (.int .i64 h) = W4 at hm4 kn4 kb4 bw4 hsz4 ⊢
          clear hW4 x0 x1 x2 x3 y0 y1 n0 n1' cg fg
          refine (goesOn_any op x (t : Int) W4 (by omega) (by omega)).mono ?_
          rintro e w5 ⟨vn, rfl, nu, hb5⟩
          have hm5 := hm4.below hVG hb5
          have kn5 := kn4.below hb5
          have kb5 := kb4.below hb5
          have hs5 := hb5.size
          have NB := put (fun (b : Nat) e => nu.own_lt (b := b) e)
          obtain ⟨An, cn, hvn, _⟩ := nu.reads
          subst hvn
          clear hm4 kn4 kb4 hb5 bw4
          generalize nxL op x (t : Int) = l at HLN HPOS IMN NX nu NB ⊢
          obtain ⟨ln, hln⟩ : ∃ ln, l.length = ln := ⟨_, rfl⟩
          rw [hln] at HLN nu NB ⊢
          have hl2 := HLN.out
          have hop := insB_range HI.out
          obtain ⟨jn, rfl⟩ : ∃ jn : Nat, op = (jn : Int) := ⟨op.toNat, by omega⟩
          have hjn : jn < 19 := by omega
          have hjI : (jn : Int) < 19 := by omega
          obtain ⟨H, hH⟩ : ∃ H, h - T + kP (jn : Int) = H := ⟨_, rfl⟩
          have hw1 : IntKind.i64.wrap (h - T) = h - T := IntWalk.i64_in _ ⟨by omega, by omega⟩
          have hw2 : IntKind.i64.wrap H = H := IntWalk.i64_in _ ⟨by omega, by omega⟩
          rw [hH] at IMN
          have OB0 := put (show ∀ b, (Value.slice (some ⟨gw, 0, none⟩) L cap).ownBlock = some b → b < wo.heap.size from fun b e => (OW.out b e).2)
          have HLW := put (show (ws'.map wayT).length ≤ 1000 by rw [List.length_map]; omega)
          have HLW2 := put hL
          have hk5 := kn5.lt
          clear hgg hbV1 hxt
          go_wp2
          go_loopw [7, 80] (fun v i wr => ∃ j : Nat, j ≤ ln ∧ i = .int .i64 j ∧ WMem V wr (w.heap.size + 1 + 1 + 1) n2 (hs.set t h) v (ws'.map wayT ++ (l.take j).map fun y => (y, H)) ∧ Nums wr W4.heap.size 3 .i64 (.slice An ln cn) l ∧ Keep wr (wo.heap.size + 1) #[.int .i64 (jn : Int), .int .i64 x] 129 ∧ Keep wr wo.heap.size #[.int .i64 (t : Int), .int .i64 h] 171 ∧ Hid (∀ b, v.ownBlock = some b → b < wo.heap.size ∨ w5.heap.size ≤ b) ∧ w5.heap.size ≤ wr.heap.size) (fun _ i _ => ln - (intOf i).toNat)
          case atStart => exact ⟨0, Nat.zero_le _, rfl, by simpa using hm5, nu, kn5, kb5, put (fun b e => .inl (OB0.out b e)), Nat.le_refl _⟩
          case round =>
            clear hm5 nu kn5 kb5
            obtain ⟨j, hj, rfl, hm, nu, kn, kb, OB, hsw⟩ := hrel
            by_cases hlt : j < ln
            · obtain ⟨A', c', hv', hrl⟩ := nu.reads
              rw [hln] at hv' hrl
              injection hv' with hv1 hv2 hv3
              subst hv1 hv3
              obtain ⟨bl, ol, y, rfl, hbl, ey, hy⟩ := hrl.at_ hlt
              have HMORE := put (show (l.take (j + 1)).map (fun y => (y, H)) = (l.take j).map (fun y => (y, H)) ++ [(y, H)] by rw [takeA_more hy.out]; simp)
              have hbVr : Below V.heap.size V wr := by rw [VS]; exact hm.bel
              have c2 := (HKD.out.below hbVr (by omega) jn hjn).2.2.1
              have y1 := kb.cell 1
              have n0 := kn.cell 0
              simp at y1 n0
              have hB := (Below.refl wr.heap.size wr).alloc (Nat.le_refl _) (.cells #[.int .i64 y, .int .i64 H] 171)
              have hmB := hm.below hVG hB
              have hmD : WMem V (wr.alloc (.cells #[.int .i64 y, .int .i64 H] 171)).drew (w.heap.size + 1 + 1 + 1) n2 (hs.set t h) _ _ := ⟨hmB.room, hmB.ways, hmB.bel.drew⟩
              have HLEN := put (show (ws'.map wayT ++ (l.take j).map fun y => (y, H)).length ≤ 1000000 by have := HLW.out; simp at this ⊢; omega)
              have hgw2 : w.heap.size + 1 + 1 + 1 + 1 ≤ wr.heap.size := hm.room.lt
              have NBB := put (fun (b : Nat) e => NB.out b e)
              clear hB hrl hv2 hm
              go_wp2
              go_region_law (first | (refine step_appendW rfl (.tmp 84) (.tmp 97) rfl (w.heap.size + 1 + 1 + 1 + 1) _ (ws'.map wayT ++ (l.take j).map fun y => (y, H)) (by first | rfl | go_simp) (show w.heap.size + 1 + 1 + 1 + 1 ≤ (wr.alloc (.cells #[.int .i64 y, .int .i64 H] 171)).heap.size by rw [World.size_alloc]; omega) hmD.ways wr.heap.size y H (by first | rfl | go_simp) ((Keep.new wr #[.int .i64 y, .int .i64 H] 171).cell 0) ((Keep.new wr #[.int .i64 y, .int .i64 H] 171).cell 1) HLEN.out ?_; intro v6 w6 hn6 hg6 hst6))
              all_goals (
                have hm6 := hmD.app hn6 hg6
                have hz6 : wr.heap.size + 1 ≤ w6.heap.size := by have := hg6.size; simpa using this
                have kn6 := (kn.alloc (.cells #[.int .i64 y, .int .i64 H] 171)).grown (W := (wr.alloc (.cells #[.int .i64 y, .int .i64 H] 171)).drew) hg6 (fun e => by have := OB.out _ e.symm; omega)
                have kb6 := (kb.alloc (.cells #[.int .i64 y, .int .i64 H] 171)).grown (W := (wr.alloc (.cells #[.int .i64 y, .int .i64 H] 171)).drew) hg6 (fun e => by have := OB.out _ e.symm; omega)
                have nu6 := Nums.grown (w := (wr.alloc (.cells #[.int .i64 y, .int .i64 H] 171)).drew) (nu.alloc (.cells #[.int .i64 y, .int .i64 H] 171)) hg6 (fun b e e2 => by have h1 := NBB.out b e; have h2 := OB.out b e2.symm; omega)
                go_wp2
                go_roundw
                case rel =>
                  refine ⟨j + 1, by omega, by go_num, by rw [HMORE.out, ← List.append_assoc]; exact hm6, nu6, kn6, kb6, put (fun b e => ?_), by omega⟩
                  rcases hst6 b e with h1 | h1
                  · exact OB.out b h1
                  · have : wr.heap.size + 1 ≤ b := by simpa using h1
                    omega
                case measure => simp [intOf]; omega)
            · have hfin := put (show l.take j = l from List.take_of_length_le (by omega))
              rw [hfin.out] at hm
              have hWE := put (ways_eq (ws := ws') (H := H) HPOS.out)
              rw [← hWE.out] at hm
              clear hfin
              go_wp2
              go_step3
              refine ⟨rfl, HJ.out _ _ _ ⟨hs.set t h, _, _, [_, _, _, _, _, _, _, _, _, _, _, _, _, _, _, _, _, _, _, _, _, _, _, _, _, _, _, _, _, _, _, _, _, _, _, _, _, _, _, _, _, _, _, _, _, _, _, _, _, _, _, _, _, _, _, _, _, _, _, _, _, _, _, _, _, _, _, _, _, _, _, _, _, _, _, _, _, _, _, _, _, _, _, _, _, _, _, _, _, _, _, _], rfl, IMN, hm, rfl⟩ ?_⟩
              have := MS.out
              simp [hln]
              omega

end Go.Proofs.YtpbkkjiikhjanaaGreatDoor

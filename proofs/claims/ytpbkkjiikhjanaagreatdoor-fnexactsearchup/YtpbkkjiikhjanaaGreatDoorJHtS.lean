/-
  The reference's heights: contract.
-/
import Derived.Test.YtpbkkjiikhjanaaGreatDoorJAppN
namespace Go.Proofs.YtpbkkjiikhjanaaGreatDoor
open Go.RowKit Exs Ht

/-- What a walk along the ways holds in memory: the heights in block g, the places met behind it. -/
structure HMem (V wr : World) (g n2 : Nat) (hs : List Int) (v : Value) (met : List Nat) : Prop where
  room : Room wr g 3 n2 .i64 hs
  nums : Nums wr (g + 1) 3 .i64 v (ints met)
  bel : Below g V wr

theorem HMem.below {V wr W : World} {g n2 : Nat} {hs : List Int} {v : Value} {met : List Nat} (h : HMem V wr g n2 hs v met) (hg : g ≤ V.heap.size) (hb : Below wr.heap.size wr W) : HMem V W g n2 hs v met :=
  ⟨h.room.below hb h.room.lt, h.nums.belowNew hb, h.bel.trans (hb.mono (by have := h.bel.size; omega))⟩
theorem HMem.set {V wr : World} {g n2 : Nat} {hs : List Int} {v : Value} {met : List Nat} (h : HMem V wr g n2 hs v met) (hl : hs.length ≤ n2) (i : Nat) (x : Int) : HMem V (wr.setCell ⟨g, i, none⟩ (.int .i64 x)) g n2 (hs.set i x) v met :=
  ⟨h.room.set hl x, h.nums.other (Nat.lt_succ_self g), h.bel.setCell (Nat.le_refl _) _⟩
/-- The block of a row of one's own. -/
theorem Nums.own_lt {w : World} {B : Nat} {e : TypeId} {k : IntKind} {v : Value} {xs : List Int} (h : Nums w B e k v xs) {b : Nat} (hb : v.ownBlock = some b) : B ≤ b ∧ b < w.heap.size := by
  rcases h.2 with ⟨rfl, _⟩ | ⟨g, cap, cur, rfl, hB, hg, _⟩
  · cases hb
  · obtain rfl : g = b := by simpa [Value.ownBlock] using hb
    exact ⟨hB, (Array.getElem?_eq_some_iff.1 hg).1⟩
theorem HMem.app {V W w1 : World} {g n2 : Nat} {hs : List Int} {v v' : Value} {met : List Nat} {p : Nat} (h : HMem V W g n2 hs v met) (hn : Nums w1 (g + 1) 3 .i64 v' (ints met ++ [(p : Int)])) (hgr : W.grownBy w1 v.ownBlock) : HMem V w1 g n2 hs v' (met ++ [p]) := by
  have hb : Below (g + 1) W w1 := ⟨hgr.os, hgr.tape, hgr.output, hgr.size, fun k hk => hgr.block k (by have := h.room.lt; omega) fun e => by have := h.nums.own_lt e.symm; omega⟩
  exact ⟨h.room.below hb (Nat.lt_succ_self g), by rw [ints_snoc]; exact hn, h.bel.trans (hb.mono (Nat.le_succ g))⟩
theorem Keep.grown {W w1 : World} {k : Nat} {cs : Array Value} {t : TypeId} {o : Option Nat} (h : Keep W k cs t) (hgr : W.grownBy w1 o) (hk : some k ≠ o) : Keep w1 k cs t := (hgr.block k h.lt hk).trans h
theorem Nums.grown {w w' : World} {B : Nat} {e : TypeId} {k : IntKind} {v : Value} {xs : List Int} {o : Option Nat} (h : Nums w B e k v xs) (hg : w.grownBy w' o) (ho : ∀ b, v.ownBlock = some b → some b ≠ o) : Nums w' B e k v xs := by
  obtain ⟨h1, h2⟩ := h
  refine ⟨h1, ?_⟩
  rcases h2 with h2 | ⟨g', cap, cur, rfl, hg', hh, r⟩
  · exact Or.inl h2
  · exact Or.inr ⟨g', cap, cur, rfl, hg', (hg.block g' (Array.getElem?_eq_some_iff.1 hh).1 (ho g' (by simp [Value.ownBlock]))).trans hh, r⟩

/-- What l5Heights answers. -/
def htAns (o : Option (List Int)) : List Int × Bool := match o with | some hs => (hs, true) | none => ([], false)
theorem Keep.below' {w w' : World} {B g : Nat} {cs : Array Value} {t : TypeId} (h : Keep w g cs t) (hb : Below B w w') (hg : g < B) : Keep w' g cs t := (hb.block g hg).trans h
theorem replicate_more (k : Nat) : List.replicate (k + 1) (-1 : Int) = List.replicate k (-1) ++ [-1] := by
  rw [List.replicate_succ']

set_option maxHeartbeats 4000000 in
set_option maxRecDepth 100000 in
theorem l5Heights_any (A : Option Addr) (n c : Nat) (cs : List Cd) (s : Cd) (A1 : Option Addr) (n1 c1 : Nat) (A2 : Option Addr) (n2 c2 : Nat) (A3 : Option Addr) (n3 c3 : Nat) (w : World) (hr : ReadsC w w.heap.size A n cs) (hs : IsCd w w.heap.size s A1 n1 A2 n2 A3 n3) (_ : n ≤ 5) (hi : cdB s = true) (hp : ∀ c ∈ cs, cdB c = true) (hnm : namedB cs s = true) (hgo : goesB s = true) (hro : rowsF s.ins.length 0 s.rows = true) :
    Calls Tryz.prog 107 #[.agg #[.slice A n c], cdV s A1 n1 c1 A2 n2 c2 A3 n3 c3] w fun e w' => ∃ v, e = .returned (.tuple #[v, .bool (htAns (hts (gr cs s))).2]) ∧ Nums w' w.heap.size 3 .i64 v (htAns (hts (gr cs s))).1 ∧ Below w.heap.size w w' := by
  have WF := put (gr_wf hp hi hgo hro)
  have HNM := put hnm
  have HP := put hp
  have HRO := put hro
  clear hp hnm hgo hro
  have hb := ((Below.refl w.heap.size w).alloc (Nat.le_refl _) (Obj.cells #[.slice A n c] 36)).alloc (by simp) (Obj.cells #[.int .i64 s.params, .int .i64 s.vars, .slice A1 n1 c1, .slice A2 n2 c2, .slice A3 n3 c3] 82)
  have k1 := (Keep.new w #[.slice A n c] 36).alloc (Obj.cells #[.int .i64 s.params, .int .i64 s.vars, .slice A1 n1 c1, .slice A2 n2 c2, .slice A3 n3 c3] 82)
  have k2 := Keep.new (w.alloc (Obj.cells #[.slice A n c] 36)) #[.int .i64 s.params, .int .i64 s.vars, .slice A1 n1 c1, .slice A2 n2 c2, .slice A3 n3 c3] 82
  rw [World.size_alloc] at k2
  have hsz := cdB_iff s |>.1 hi
  rw [hs.sites.1, hs.ins.1, hs.rows.1] at hsz
  have HSZ := put hsz
  have l1 : n1 ≤ 4 := by omega
  have l2 : n2 ≤ 300 := by omega
  have l3 : n3 ≤ 300 := by omega
  clear hsz hi
  unfold cdV
  have GN := put (show (gr cs s).n = n2 from hs.ins.1)
  have GP := put (show (gr cs s).pads.length = n3 by show (List.map _ _).length = n3; rw [List.length_map]; exact hs.rows.1)
  have hins := hs.ins.now hb
  have hrows := hs.rows.now hb
  have hrd := hr.now hb
  have l0 : 1 ≤ n2 := by have := HSZ.out; omega
  have hmk := fun W => run_make_row' (P := Tryz.prog) 26 3 (.int .i64 0) 8 Tryz.underlying26 Tryz.info3 rfl .i64 .i64 n2 (by omega) (by omega) W
  have EN := put hr.1
  have VS : ((w.alloc (Obj.cells #[.slice A n c] 36)).alloc (Obj.cells #[.int .i64 s.params, .int .i64 s.vars, .slice A1 n1 c1, .slice A2 n2 c2, .slice A3 n3 c3] 82)).heap.size = w.heap.size + 1 + 1 := by simp
  clear hr hs
  go_enter Tryz.func107, Tryz.ntmps107
  go_wp2
  generalize hW : (w.alloc (Obj.cells #[.slice A n c] 36)).alloc (Obj.cells #[.int .i64 s.params, .int .i64 s.vars, .slice A1 n1 c1, .slice A2 n2 c2, .slice A3 n3 c3] 82) = V at hb k1 k2 hins hrows hrd VS ⊢
  clear hW
  have hVG : w.heap.size + 1 + 1 ≤ V.heap.size := by omega
  have hbw := hb
  clear hb
  -- the heights are made: -1 everywhere
  go_loopw [24] (fun i wr => ∃ k : Nat, k ≤ n2 ∧ i = .int .i64 k ∧ Room wr (w.heap.size + 1 + 1) 3 n2 .i64 (List.replicate k (-1)) ∧ Below (w.heap.size + 1 + 1) V wr) (fun i _ => n2 - (intOf i).toNat)
  case atStart => exact ⟨0, Nat.zero_le _, rfl, by have := Room.made V 3 n2 .i64; rwa [VS] at this, (Below.refl _ _).alloc (by omega) _⟩
  case round =>
    clear hmk
    obtain ⟨k, hk, rfl, hroom, hbel⟩ := hrel
    by_cases hlt : k < n2
    · obtain ⟨c0, hc0⟩ := hroom.at_ k hlt
      have hfr := hroom.frozen k
      have hpush := hroom.push (by simpa using hlt) (-1)
      rw [List.length_replicate, ← replicate_more] at hpush
      have HPU := put hpush
      clear hpush
      go_wp2
      go_roundw
      case rel => exact ⟨k + 1, by omega, by go_num, HPU.out, hbel.setCell (Nat.le_refl _) _⟩
      case measure => simp [intOf]; omega
    obtain rfl : k = n2 := by omega
    obtain ⟨c0, hc0⟩ := hroom.at_ 0 l0
    have hfr := hroom.frozen 0
    have hs0 := put (Sp0.start WF.out)
    rw [GN.out] at hs0
    have hset := hroom.set (i := 0) (by simp) 0
    have hsz1 : w.heap.size + 1 + 1 + 1 ≤ wr.heap.size := hroom.lt
    have hm0 : HMem V ((wr.setCell ⟨w.heap.size + 1 + 1, 0, none⟩ (.int .i64 0)).alloc (.cells #[.int .i64 0] 3)) (w.heap.size + 1 + 1) k ((List.replicate k (-1)).set 0 0) (.slice (some ⟨wr.heap.size, 0, none⟩) 1 1) [0] :=
      ⟨hset.below ((Below.refl _ _).alloc (Nat.le_refl _) _) hset.lt, by
        have := (Nums.one (w := wr.setCell ⟨w.heap.size + 1 + 1, 0, none⟩ (.int .i64 0)) (t := 3) 0).more (show w.heap.size + 1 + 1 + 1 ≤ _ by rw [size_set]; exact hsz1)
        rw [size_set] at this
        exact this, (hbel.setCell (Nat.le_refl _) _).alloc (by rw [size_set]; omega) _⟩
    clear hset hroom
    generalize (List.replicate k (-1 : Int)).set 0 0 = hs1 at hs0 hm0
    have q4 := (k2.below' hm0.bel (by omega)).cell 4
    simp at q4
    go_wp2
    generalize hW2 : (wr.setCell ⟨w.heap.size + 1 + 1, 0, none⟩ (.int .i64 0)).alloc (.cells #[.int .i64 0] 3) = W2 at hm0 q4 ⊢
    clear hW2 hc0 hfr hbel hlt hk
    -- the pads
    go_loopw [8, 37] (fun v i wr => ∃ (j : Nat) (hs : List Int) (met : List Nat), j ≤ n3 ∧ i = .int .i64 j ∧ Hid (Sp0 (gr cs s) hs met j) ∧ HMem V wr (w.heap.size + 1 + 1) k hs v met) (fun _ i _ => n3 - (intOf i).toNat)
    case atStart => exact ⟨0, hs1, [0], Nat.zero_le _, rfl, hs0, hm0⟩
    case round =>
      clear hs0 hm0 q4 hsz1
      obtain ⟨j, hs, met, hj, rfl, SP, hm⟩ := hrel
      have hbV : Below V.heap.size V wr := by rw [VS]; exact hm.bel
      have hlen : hs.length = k := by rw [SP.out.len, GN.out]
      have hml : met.length ≤ k := by have := SP.out.size; rw [GN.out] at this; omega
      have hgl : w.heap.size + 1 + 1 < wr.heap.size := hm.room.lt
      by_cases hlt : j < n3
      · obtain ⟨b, off, x, y, z, rfl, hb', g1, g2, g3, hx⟩ := (hrows.below hbV).at_ hlt
        have hzz : 0 ≤ z ∧ z < (s.ins.length : Int) := rowsF_mem HRO.out _ (mem_of_at hx.out)
        obtain ⟨z0, z1⟩ := hzz
        obtain ⟨p, rfl⟩ : ∃ p : Nat, z = (p : Int) := ⟨z.toNat, by omega⟩
        have hpk : p < k := by have := GN.out; have h2 : (gr cs s).n = s.ins.length := rfl; omega
        have hpad : (gr cs s).pads[j]? = some p := by show (List.map _ s.rows)[j]? = _; rw [List.getElem?_map, hx.out]; simp
        obtain ⟨h, hh⟩ : ∃ h, hs[p]? = some h := ⟨_, List.getElem?_eq_getElem (by rw [hlen]; exact hpk)⟩
        have hA := (Below.refl wr.heap.size wr).alloc (Nat.le_refl _) (.cells #[.int .i64 x, .int .i64 y, .int .i64 (p : Int)] 85)
        have kb := Keep.new wr #[.int .i64 x, .int .i64 y, .int .i64 (p : Int)] 85
        have hmA := hm.below hVG hA
        have c1 := hmA.room.at hh
        have f1 := hmA.room.frozen p
        clear z0 z1 hA
        by_cases h0 : h < 0
        · have SN := put (SP.out.new hpad hh h0)
          have hB := ((Below.refl wr.heap.size wr).alloc (Nat.le_refl _) (.cells #[.int .i64 x, .int .i64 y, .int .i64 (p : Int)] 85)).alloc (by simp) (.cells #[.int .i64 (p : Int)] 3)
          have hmB := hm.below hVG hB
          have kB := kb.alloc (.cells #[.int .i64 (p : Int)] 3)
          have OWN := put (fun (b : Nat) e => hm.nums.own_lt (b := b) e)
          have HML := put (show (ints met).length ≤ 1000000 by rw [ints_length]; omega)
          clear hB hh hm SP
          go_wp2_with (at_builtin; refine wpList_append1 rfl _ _ rfl (w.heap.size + 1 + 1 + 1) _ (ints met) rfl (by simp; omega) hmB.nums (wr.heap.size + 1) (p : Int) rfl (by simp) HML.out ?_; intro v' w1 hn1 hg1 _; have hm1 := hmB.app hn1 hg1; have u2 := (kB.grown hg1 (fun e => by have := OWN.out _ e.symm; omega)).cell 2; simp at u2; obtain ⟨c2, hc2⟩ := hm1.room.at_ p hpk; have f2 := hm1.room.frozen p)
          go_roundw
          case rel => exact ⟨j + 1, hs.set p 0, met ++ [p], by omega, by go_num, SN, hm1.set (by omega) p 0⟩
          case measure => simp [intOf]; omega
        · have h0 : 0 ≤ h := by omega
          have SN := put (SP.out.old hpad hh h0)
          have hmS := (hm.set (by omega) p 0).below hVG ((Below.refl _ _).alloc (Nat.le_refl _) (.cells #[.int .i64 x, .int .i64 y, .int .i64 (p : Int)] 85))
          clear hh hm SP
          go_wp2
          go_roundw
          case rel => exact ⟨j + 1, hs.set p 0, met, by omega, by go_num, SN, hmS⟩
          case measure => simp [intOf]; omega
      · have S1 := put (SP.out.sp (by rw [GP.out]; omega))
        clear SP
        go_wp2
        -- the places met, one behind the other
        go_loopw [8, 11] (fun v i wr => ∃ (q : Nat) (hs : List Int) (met : List Nat), q ≤ met.length ∧ i = .int .i64 q ∧ Hid (Sp (gr cs s) hs met q) ∧ HMem V wr (w.heap.size + 1 + 1) k hs v met) (fun _ i _ => k - (intOf i).toNat)
        case atStart => exact ⟨0, hs, met, Nat.zero_le _, rfl, S1, hm⟩
        case round =>
          clear S1 hm hml hlen hbV hgl hj hlt
          obtain ⟨q, hs, met, hq, rfl, SP, hm⟩ := hrel
          have hbV : Below V.heap.size V wr := by rw [VS]; exact hm.bel
          have hlen : hs.length = k := by rw [SP.out.len, GN.out]
          have hml : met.length ≤ k := by have := SP.out.size; rw [GN.out] at this; omega
          have hgl : w.heap.size + 1 + 1 < wr.heap.size := hm.room.lt
          obtain ⟨Am, cm, hv, hrm⟩ := hm.nums.reads
          rw [ints_length] at hrm hv
          subst hv
          by_cases hlt : q < met.length
          · obtain ⟨b0, off0, x0, rfl, hb0, e0, hx0⟩ := hrm.at_ hlt
            obtain ⟨a, rfl, hma⟩ := ints_at hx0.out
            obtain ⟨h, hha, h0, h40, _⟩ := SP.out.height hma
            have hak : a < k := by rw [← hlen]; exact (List.getElem?_eq_some_iff.1 hha).1
            obtain ⟨b, off, op, x, rfl, hb', g1, g2, hxt⟩ := (hins.below hbV).at_ hak
            have hib := HSZ.out.2 _ (mem_of_at hxt.out)
            have HI : Hid (insB op x = true) := put hib
            have HCALL := put (show op = 7 → x < (n : Int) from fun e => by
              have h1 := (namedB_iff cs s).1 HNM.out _ (mem_of_at hxt.out)
              subst e
              have h2 : x < (cs.length : Int) := of_decide_eq_true (show decide _ = true from h1)
              rw [EN.out] at h2
              exact h2)
            have TK := put (gr_tk (cs := cs) hxt.out)
            have PT := put (gr_pt (cs := cs) hxt.out)
            have NX := put (gr_nx (cs := cs) hxt.out)
            obtain ⟨tb0, tb1⟩ := tkI_is HP.out op x
            have pb : 0 ≤ kP op ∧ kP op ≤ 1 := by rcases kP_is op with e | ⟨e, _⟩ <;> omega
            obtain ⟨pb0, pb1⟩ := pb
            have CON := put (fun W (hW : Below wr.heap.size wr W) => l5Takes_any A n c cs op x W ((hrd.now hbV).now hW) HI.out HCALL.out)
            obtain ⟨T, hT⟩ : ∃ T, tkI cs op x = T := ⟨_, rfl⟩
            obtain ⟨P, hP⟩ : ∃ P, kP op = P := ⟨_, rfl⟩
            rw [hT] at tb0 tb1 TK CON
            rw [hP] at pb0 pb1 PT CON
            clear hT hP hib
            have hakI : (a : Int) < (k : Int) := by omega
            have hakJ : (0 : Int) ≤ (a : Int) := by omega
            have kk1 := k1.below hbV
            have kk2 := k2.below hbV
            have y0 := kk1.cell 0
            have z3 := kk2.cell 3
            simp at y0 z3
            go_wp2
            go_region_law (first
              | (go_simp; go_at_call 110; refine (CON.out wr.drew (Below.refl wr.heap.size wr).drew).mono ?_; rintro e w1 ⟨rfl, hb4⟩))
            all_goals (
              have hb5 : Below wr.heap.size wr w1 := (Below.refl wr.heap.size wr).drew.trans hb4
              have hm1 := hm.below hVG hb5
              clear hb4 e0 y0 z3
              have ch := hm1.room.at hha
              have hw1 : IntKind.i64.wrap (h - T) = h - T := IntWalk.i64_in _ ⟨by omega, by omega⟩
              have hw2 : IntKind.i64.wrap (h - T + P) = h - T + P := IntWalk.i64_in _ ⟨by omega, by omega⟩
              by_cases hbad : h < T ∨ 40 < h - T + P
              · have HN := put (hts_none (SP.out.bad WF.out hma hha (by rw [TK.out, PT.out]; exact hbad)))
                have b1 : Below w.heap.size w w1 := (hbw.trans (hbV.mono hbw.size)).trans (hb5.mono (by omega))
                rcases hbad with hbad | hbad
                · go_wp2
                  go_ret2
                  rw [HN.out]
                  exact ⟨_, rfl, Nums.nil _ _ _ _, b1⟩
                · by_cases hbd : h < T
                  · go_wp2
                    go_ret2
                    rw [HN.out]
                    exact ⟨_, rfl, Nums.nil _ _ _ _, b1⟩
                  · have hbd : T ≤ h := by omega
                    go_wp2
                    go_ret2
                    rw [HN.out]
                    exact ⟨_, rfl, Nums.nil _ _ _ _, b1⟩
              have hf1 : T ≤ h := by omega
              have hf2 : h - T + P ≤ 40 := by omega
              have SI := put (SP.out.enter hma hha (by rw [TK.out]; exact hf1) (by rw [TK.out, PT.out]; exact hf2))
              clear hbad
              obtain ⟨H, hH⟩ : ∃ H, h - T + P = H := ⟨_, rfl⟩
              have hH0 : 0 ≤ H := by omega
              have z3 := ((k2.below hbV).below hb5).cell 3
              have g1' := (hb5.cell (p := ⟨b, _, none⟩) (World.block_lt_of_cell? _ _ g1)).trans g1
              have g2' := (hb5.cell (p := ⟨b, _, none⟩) (World.block_lt_of_cell? _ _ g2)).trans g2
              simp at z3
              clear g1 g2
              have OB0 := put (show ∀ b, (Value.slice (some ⟨b0, off0, none⟩) met.length cm).ownBlock = some b → b < w1.heap.size from fun b e => (hm1.nums.own_lt e).2)
              have hs1g : w.heap.size + 1 + 1 < w1.heap.size := hm1.room.lt
              have bw1 : Below w.heap.size w w1 := (hbw.trans (hbV.mono hbw.size)).trans (hb5.mono (by omega))
              go_wp2_with fail
              refine (l5Next_any op x (a : Int) w1 (by omega) (by omega)).mono ?_
              rintro e w2 ⟨vn, rfl, nu, hb6⟩
              have hm2 := hm1.below hVG hb6
              have hs2 := hb6.size
              have bw2 : Below w.heap.size w w2 := bw1.trans (hb6.mono bw1.size)
              have HLN := put (nxL_length op x (a : Int))
              have HPOS := put (nxL_pos (a := (a : Int)) HI.out (by omega))
              obtain ⟨An, cn, hvn, _⟩ := nu.reads
              subst hvn
              have NB := put (fun (b : Nat) e => nu.own_lt (b := b) e)
              clear hm1 hm ch g1' g2' z3 hb6 hb5 hrm hx0 SP hbV hlt hq
              generalize nxL op x (a : Int) = l at HLN HPOS NX nu NB ⊢
              obtain ⟨ln, hln⟩ : ∃ ln, l.length = ln := ⟨_, rfl⟩
              rw [hln] at HLN nu NB ⊢
              have hl2 := HLN.out
              try rw [hH]
              clear hw1 hw2
              go_wp2
              go_loopw [8, 103] (fun v i wr' => ∃ (j : Nat) (hs : List Int) (met : List Nat), j ≤ ln ∧ i = .int .i64 j ∧ Hid (SpIn (gr cs s) hs met q a h j) ∧ HMem V wr' (w.heap.size + 1 + 1) k hs v met ∧ Nums wr' w1.heap.size 3 .i64 (.slice An ln cn) l ∧ Hid (∀ b, v.ownBlock = some b → b < w1.heap.size ∨ w2.heap.size ≤ b) ∧ w2.heap.size ≤ wr'.heap.size) (fun _ i _ => ln - (intOf i).toNat)
              case atStart => exact ⟨0, hs, met, Nat.zero_le _, rfl, SI, hm2, nu, put (fun b e => .inl (OB0.out b e)), Nat.le_refl _⟩
              case round =>
                clear hm2 nu SI hlen hml hma hha
                obtain ⟨j, hs, met, hj, rfl, SI, hm, nu, OB, hsw⟩ := hrel
                have hlen : hs.length = k := by rw [SI.out.sp.len, GN.out]
                have hml : met.length ≤ k := by have := SI.out.sp.size; rw [GN.out] at this; omega
                have bwr : Below w.heap.size w wr := by
                  have h1 : Below V.heap.size V wr := by rw [VS]; exact hm.bel
                  exact hbw.trans (h1.mono hbw.size)
                by_cases hlt : j < ln
                · obtain ⟨A', c', hv', hrl⟩ := nu.reads
                  rw [hln] at hv' hrl
                  injection hv' with hv1 hv2 hv3
                  subst hv1 hv3
                  obtain ⟨bl, ol, y, rfl, hbl, ey, hy⟩ := hrl.at_ hlt
                  have hty := toNat_at hy.out
                  rw [← NX.out] at hty
                  have hy0 := HPOS.out y (mem_of_at hy.out)
                  obtain ⟨t, rfl⟩ : ∃ t : Nat, y = (t : Int) := ⟨y.toNat, by omega⟩
                  rw [Int.toNat_natCast] at hty
                  have htk : t < k := by have := WF.out.nx a t (by rw [GN.out]; exact hak) (mem_of_at hty); rwa [GN.out] at this
                  obtain ⟨gg, hgg⟩ : ∃ gg, hs[t]? = some gg := ⟨_, List.getElem?_eq_getElem (by rw [hlen]; exact htk)⟩
                  have cg := hm.room.at hgg
                  have fg := hm.room.frozen t
                  have HE : Hid (h - (gr cs s).tk a + (gr cs s).pt a = H) := put (by rw [TK.out, PT.out]; exact hH)
                  clear hv2 hy0
                  by_cases c1 : gg < 0
                  · have hB := (Below.refl wr.heap.size wr).alloc (Nat.le_refl _) (.cells #[.int .i64 (t : Int)] 3)
                    have hmB := hm.below hVG hB
                    have nuB := nu.alloc (.cells #[.int .i64 (t : Int)] 3)
                    have HML := put (show (ints met).length ≤ 1000000 by rw [ints_length]; omega)
                    have SN := put (SI.out.new WF.out hty hgg c1)
                    rw [HE.out] at SN
                    have OWN := put (fun (b : Nat) e => hm.nums.own_lt (b := b) e)
                    have NBB := put (fun (b : Nat) e => NB.out b e)
                    clear hgg hrl SI
                    have hgw : w.heap.size + 1 + 1 + 1 ≤ wr.heap.size := hm.room.lt
                    clear hm hB
                    go_wp2_with (at_builtin; refine wpList_append1 rfl _ _ rfl (w.heap.size + 1 + 1 + 1) _ (ints met) rfl (by simp; omega) hmB.nums wr.heap.size (t : Int) rfl (by simp) HML.out ?_; intro v' w3 hn3 hg3 hst3; have hm3 := hmB.app hn3 hg3; have nu3 := nuB.grown hg3 (fun b e e2 => by have h1 := NBB.out b e; have h2 := OB.out b e2.symm; omega); have hz3 := hg3.size; rw [World.size_alloc] at hz3; obtain ⟨cc, hcc⟩ := hm3.room.at_ t htk; have ff := hm3.room.frozen t)
                    go_roundw
                    case rel =>
                      refine ⟨j + 1, hs.set t H, met ++ [t], by omega, by go_num, SN, hm3.set (by omega) t H, nu3.other (by omega), put (fun b e => ?_), by rw [size_set]; omega⟩
                      rcases hst3 b e with h1 | h1
                      · exact OB.out b h1
                      · rw [World.size_alloc] at h1; omega
                    case measure => simp [intOf]; omega
                  · have c1 : 0 ≤ gg := by omega
                    by_cases c2 : gg = H
                    · subst c2
                      have SN := put (SI.out.same hty (by rw [HE.out]; exact hgg))
                      clear hgg hrl SI
                      go_wp2
                      go_roundw
                      case rel => exact ⟨j + 1, hs, met, by omega, by go_num, SN, hm, nu, OB, hsw⟩
                      case measure => simp [intOf]; omega
                    · have HN := put (hts_none (SI.out.clash WF.out hty hgg c1 (by rw [HE.out]; exact c2)))
                      have c3 : (gg != H) = true := by simp [c2]
                      clear hgg hrl SI
                      go_wp2
                      go_ret2
                      rw [HN.out]
                      exact ⟨_, rfl, Nums.nil _ _ _ _, bwr⟩
                · have SO := put (SI.out.out (by rw [NX.out, List.length_map, hln]; omega))
                  have hqm : q < met.length := (List.getElem?_eq_some_iff.1 SI.out.is).1
                  clear SI
                  go_wp2
                  go_roundw
                  case rel => exact ⟨q + 1, hs, met, by omega, by go_num, SO, hm⟩
                  case measure => simp [intOf]; omega)
          · have HY := put (hts_of (SP.out.end_ WF.out (by omega)))
            have hnum := Nums.of_room (B := w.heap.size) hm.room (by omega) (by omega) (by unfold maxLen; omega)
            rw [hlen] at hnum
            have bwr : Below w.heap.size w wr := hbw.trans (hbV.mono hbw.size)
            clear SP hrm
            go_wp2
            go_ret2
            rw [HY.out]
            exact ⟨_, rfl, hnum, bwr⟩

end Go.Proofs.YtpbkkjiikhjanaaGreatDoor

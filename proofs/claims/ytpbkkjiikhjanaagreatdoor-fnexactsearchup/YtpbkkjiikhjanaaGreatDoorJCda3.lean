/-
  The reference's fault of a code: contract.
-/
import Derived.Test.YtpbkkjiikhjanaaGreatDoorJCda
namespace Go.Proofs.YtpbkkjiikhjanaaGreatDoor
open Go.RowKit Exs Ht

theorem rowAt_ok {rs : List Row3} {many a : Nat} {k : Int} (hro : rowsF many 0 rs = true) (h : RowAt rs a k) (j : Nat) (r : Row3) (hk : k = (j : Int)) (hj : rs[j]? = some r) : (∃ r ∈ rs, InR r a ∧ (a : Int) < r.2.2) ↔ (a : Int) < r.2.2 := by
  rcases h with ⟨j', r', h1, h2, h3, h4⟩ | ⟨h1, _⟩
  · obtain rfl : j' = j := by omega
    rw [hj] at h3
    injection h3 with e
    subst e
    exact ⟨fun ⟨q, hq, hq1, hq2⟩ => by rw [rowsF_one hro r (mem_of_at hj) q hq a h4 hq1]; exact hq2, fun h => ⟨r, mem_of_at hj, h4, h⟩⟩
  · omega
theorem rowAt_no {rs : List Row3} {a : Nat} {k : Int} (h : RowAt rs a k) (hk : k < 0) : ¬ ∃ r ∈ rs, InR r a ∧ (a : Int) < r.2.2 := by
  rcases h with ⟨j', r', h1, h2, h3, h4⟩ | ⟨_, h2⟩
  · omega
  · rintro ⟨r, hr, h3, _⟩; exact h2 r hr h3

set_option maxHeartbeats 4000000 in
set_option maxRecDepth 100000 in
theorem l5Code_any (A : Option Addr) (n c : Nat) (cs : List Cd) (s : Cd) (A1 : Option Addr) (n1 c1 : Nat) (A2 : Option Addr) (n2 c2 : Nat) (A3 : Option Addr) (n3 c3 : Nat) (w : World) (hr : ReadsC w w.heap.size A n cs) (hs : IsCd w w.heap.size s A1 n1 A2 n2 A3 n3) (hn : n ≤ 5) (hi : cdB s = true) (hp : ∀ c ∈ cs, cdB c = true) :
    Calls Tryz.prog 77 #[.agg #[.slice A n c], cdV s A1 n1 c1 A2 n2 c2 A3 n3 c3] w fun e w' => e = .returned (.int .i64 (cdAns cs s)) ∧ Below w.heap.size w w' := by
  have hb := ((Below.refl w.heap.size w).alloc (Nat.le_refl _) (Obj.cells #[.slice A n c] 36)).alloc (by simp) (Obj.cells #[.int .i64 s.params, .int .i64 s.vars, .slice A1 n1 c1, .slice A2 n2 c2, .slice A3 n3 c3] 82)
  have j2 := (Keep.new w #[.slice A n c] 36).alloc (Obj.cells #[.int .i64 s.params, .int .i64 s.vars, .slice A1 n1 c1, .slice A2 n2 c2, .slice A3 n3 c3] 82)
  have k2 := Keep.new (w.alloc (Obj.cells #[.slice A n c] 36)) #[.int .i64 s.params, .int .i64 s.vars, .slice A1 n1 c1, .slice A2 n2 c2, .slice A3 n3 c3] 82
  rw [World.size_alloc] at k2
  have hsz := cdB_iff s |>.1 hi
  rw [hs.sites.1, hs.ins.1, hs.rows.1] at hsz
  have HSZ := put hsz
  have l1 : n1 ≤ 4 := by omega
  have l2 : n2 ≤ 300 := by omega
  have l3 : n3 ≤ 300 := by omega
  have E := put hs.ins.1
  have LR := put hs.rows.1
  clear hsz
  have C1 := put (fun W hW => l5Named_any A n c cs s A1 n1 c1 A2 n2 c2 A3 n3 c3 W (hr.now hW) (hs.now hW) hn hi)
  have C2 := put (fun W hW => l5SitesGood_any A n c cs s A1 n1 c1 A2 n2 c2 A3 n3 c3 W (hr.now hW) (hs.now hW) hn hi)
  have C3 := put (fun W hW => l5Goes_any s A1 n1 c1 A2 n2 c2 A3 n3 c3 W (hs.now hW) hi)
  have C4 := put (fun W (hW : Below w.heap.size w W) => l5Rows_any A3 n3 c3 s.rows n2 W (hs.rows.now hW) l3 l2)
  have C5 := put (fun W hW h1 h3 h4 => l5Heights_any A n c cs s A1 n1 c1 A2 n2 c2 A3 n3 c3 W (hr.now hW) (hs.now hW) hn hi hp h1 h3 h4)
  have C6 := put (fun W (hW : Below w.heap.size w W) a h1 h2 => l5RowAt_any A3 n3 c3 s.rows n2 a W (hs.rows.now hW) l3 l2 h1 h2)
  have hins := hs.ins
  have hrw := hs.rows
  unfold cdV at C1 C2 C3 C5 ⊢
  clear hi hp hs hr
  go_enter Tryz.func77, Tryz.ntmps77
  go_wp2_with fail
  generalize hW : (w.alloc (Obj.cells #[.slice A n c] 36)).alloc (Obj.cells #[.int .i64 s.params, .int .i64 s.vars, .slice A1 n1 c1, .slice A2 n2 c2, .slice A3 n3 c3] 82) = W0 at hb j2 k2 ⊢
  clear hW
  cases h1 : namedB cs s
  · have HA := put (cdAns_1 h1)
    have HQ := put h1
    refine (C1.out W0 hb).mono ?_
    rintro e w1 ⟨rfl, hb1⟩
    rw [HQ.out]
    go_wp2
    go_ret
    exact ⟨ret_int HA.out.symm, hb.trans (hb1.mono hb.size)⟩
  have H1 := put h1
  clear h1
  refine (C1.out W0 hb).mono ?_
  rintro e w1 ⟨rfl, hb1⟩
  rw [H1.out]
  have b1 := hb.trans (hb1.mono hb.size)
  have k3 := k2.below hb1
  have j3 := j2.below hb1
  clear hb1 hb k2 j2
  have y0 := j3.cell 0
  have z0 := k3.cell 0
  have z1 := k3.cell 1
  have z2 := k3.cell 2
  have z3 := k3.cell 3
  have z4 := k3.cell 4
  simp at y0 z0 z1 z2 z3 z4
  cases h2 : sitesB cs s
  · have HA := put (cdAns_2 H1.out h2)
    have HQ := put h2
    clear h2
    go_wp2_with fail
    refine (C2.out _ b1).mono ?_
    rintro e v1 ⟨rfl, hb1⟩
    rw [HQ.out]
    go_wp2
    go_ret
    exact ⟨ret_int HA.out.symm, b1.trans (hb1.mono b1.size)⟩
  have H2 := put h2
  clear h2
  go_wp2_with fail
  refine (C2.out _ b1).mono ?_
  rintro e w2 ⟨rfl, hb1⟩
  rw [H2.out]
  have b2 := b1.trans (hb1.mono b1.size)
  have k4 := k3.below hb1
  have j4 := j3.below hb1
  clear hb1 y0 z0 z1 z2 z3 z4 k3 j3
  have y0 := j4.cell 0
  have z0 := k4.cell 0
  have z1 := k4.cell 1
  have z2 := k4.cell 2
  have z3 := k4.cell 3
  have z4 := k4.cell 4
  simp at y0 z0 z1 z2 z3 z4
  cases h3 : goesB s
  · have HA := put (cdAns_3 H1.out H2.out h3)
    have HQ := put h3
    clear h3
    go_wp2_with fail
    refine (C3.out _ b2).mono ?_
    rintro e v1 ⟨rfl, hb1⟩
    rw [HQ.out]
    go_wp2
    go_ret
    exact ⟨ret_int HA.out.symm, b2.trans (hb1.mono b2.size)⟩
  have H3 := put h3
  clear h3
  go_wp2_with fail
  refine (C3.out _ b2).mono ?_
  rintro e w3 ⟨rfl, hb1⟩
  rw [H3.out]
  have b3 := b2.trans (hb1.mono b2.size)
  have k5 := k4.below hb1
  have j5 := j4.below hb1
  clear hb1 y0 z0 z1 z2 z3 z4 k4 j4
  have z3 := k5.cell 3
  have z4 := k5.cell 4
  simp at z3 z4
  cases h4 : rowsF n2 0 s.rows
  · have HA := put (cdAns_4 H1.out H2.out H3.out (by rw [E.out]; exact h4))
    have HQ := put h4
    clear h4
    go_wp2_with fail
    refine (C4.out _ b3).mono ?_
    rintro e v1 ⟨rfl, hb1⟩
    rw [HQ.out]
    go_wp2
    go_ret
    exact ⟨ret_int HA.out.symm, b3.trans (hb1.mono b3.size)⟩
  have H4 := put h4
  clear h4
  go_wp2_with fail
  refine (C4.out _ b3).mono ?_
  rintro e w4 ⟨rfl, hb1⟩
  rw [H4.out]
  have b4 := b3.trans (hb1.mono b3.size)
  have k6 := k5.below hb1
  have j6 := j5.below hb1
  clear hb1 z3 z4 k5 j5
  have y0 := j6.cell 0
  have z0 := k6.cell 0
  have z1 := k6.cell 1
  have z2 := k6.cell 2
  have z3 := k6.cell 3
  have z4 := k6.cell 4
  simp at y0 z0 z1 z2 z3 z4
  have ON := put (cdAns_on H1.out H2.out H3.out (by rw [E.out]; exact H4.out))
  have IS := put (fun hs0 (h : hts (gr cs s) = some hs0) => hts_is h)
  have GN := put (show (gr cs s).n = n2 from E.out)
  go_wp2_with fail
  refine (C5.out _ b4 H1.out H3.out (by rw [E.out]; exact H4.out)).mono ?_
  cases hh : hts (gr cs s) with
  | none =>
    have HA := put (ON.out.1 hh)
    clear hh
    rintro e w5 ⟨v, rfl, nu, hb1⟩
    simp only [htAns]
    go_wp2
    go_ret
    exact ⟨ret_int HA.out.symm, b4.trans (hb1.mono b4.size)⟩
  | some hs0 =>
    have HON := put (ON.out.2 hs0 hh)
    have HIS := put (IS.out hs0 hh)
    clear hh
    rintro e w5 ⟨v, rfl, nu, hb1⟩
    simp only [htAns] at nu ⊢
    have b5 := b4.trans (hb1.mono b4.size)
    have k7 := k6.below hb1
    clear hb1 y0 z0 z1 z2 z3 z4 k6 j6
    obtain ⟨Av, cv, rfl, hrv⟩ := nu.reads
    have hlen : hs0.length = n2 := by rw [HIS.out.len, GN.out]
    rw [hlen] at hrv ⊢
    clear nu
    have z3 := k7.cell 3
    simp at z3
    have hins5 := hins.now b5
    have hrw5 := hrw.now b5
    clear hins hrw
    go_wp2
    go_loopw [46] (fun i wr => ∃ k : Nat, k ≤ n2 ∧ i = .int .i64 k ∧ Hid (raisTo s hs0 k) ∧ Below w5.heap.size w5 wr) (fun i _ => n2 - (intOf i).toNat)
    case atStart => exact ⟨0, Nat.zero_le _, rfl, put (fun a t g h => by omega), Below.refl _ _⟩
    case round =>
      obtain ⟨k, hk, rfl, hall, hbel⟩ := hrel
      by_cases hlt : k < n2
      · obtain ⟨b, off, op, x, rfl, hb', hc1, hc2, hxt⟩ := (hins5.below hbel).at_ hlt
        have hb3 := hbel.alloc hbel.size (.cells #[.int .i64 op, .int .i64 x] 129)
        have kn := Keep.new wr #[.int .i64 op, .int .i64 x] 129
        have kc := (k7.below hbel).alloc (.cells #[.int .i64 op, .int .i64 x] 129)
        have z3 := kc.cell 3
        have z4 := kc.cell 4
        simp at z3 z4
        have HST := put (fun g (hg : hs0[k]? = some g) (h0 : 0 ≤ g → raisB op = true → ∃ r ∈ s.rows, InR r k ∧ (k : Int) < r.2.2) => raisTo_more hall.out hxt.out hg h0)
        have HNO := put (fun g (hg : hs0[k]? = some g) (h0 : 0 ≤ g) (h1 : raisB op = true) (h2 : ¬ ∃ r ∈ s.rows, InR r k ∧ (k : Int) < r.2.2) => HON.out.1 fun h' => h2 (h' k _ g hxt.out hg h0 h1))
        go_wp2_with fail
        refine (C6.out _ (b5.trans (hb3.mono b5.size)) k (by omega) H4.out).mono ?_
        rintro e w6 ⟨⟨kk, rfl, HR⟩, hb4⟩
        have HR := put HR
        have hb5 := hb3.trans (hb4.mono hb3.size)
        have kn6 := kn.below hb4
        have kc6 := kc.below hb4
        obtain ⟨bv, ov, gg, rfl, hbv, eg, hg⟩ := (hrv.below hb5).at_ hlt
        clear z3 z4 hc1 hc2 kn kc hb3 hb4
        have x0 := kn6.cell 0
        have z4 := kc6.cell 4
        simp at x0 z4
        by_cases hp : 0 ≤ gg
        · cases hf : raisB op
          · have HF := put hf
            have H2 := put (HST.out gg hg.out (fun _ h => by rw [hf] at h; cases h))
            clear hf HST HNO
            go_wp2_with fail
            refine (l5Raises_any op _).mono ?_
            rintro e w7 ⟨rfl, rfl⟩
            rw [HF.out]
            go_wp2
            go_roundw
            case rel => exact ⟨k + 1, by omega, by go_num, H2, hb5⟩
            case measure => simp [intOf]; omega
          · have HF := put hf
            have HBAD := put (HNO.out gg hg.out hp hf)
            have HGO := put (fun h2 => HST.out gg hg.out fun _ _ => h2)
            clear hf HST HNO
            by_cases hkk : kk < 0
            · have HA := put (HBAD.out (rowAt_no HR.out hkk))
              clear HBAD HGO
              go_wp2_with fail
              refine (l5Raises_any op _).mono ?_
              rintro e w7 ⟨rfl, rfl⟩
              rw [HF.out]
              go_wp2
              go_ret
              exact ⟨ret_int HA.out.symm, b5.trans (hb5.mono b5.size)⟩
            · obtain ⟨j, rfl⟩ : ∃ j : Nat, kk = (j : Int) := ⟨kk.toNat, by omega⟩
              have hj3 : j < n3 := by
                rcases HR.out with ⟨j', r', h1, h2, h3, h4⟩ | ⟨h1, _⟩
                · have := LR.out; omega
                · omega
              obtain ⟨b2, off2, p, y, z, rfl, hb2', d1, d2, d3, hrt⟩ := (hrw5.below hb5).at_ hj3
              have HIF := put (rowAt_ok H4.out HR.out j _ rfl hrt.out)
              by_cases hz : (k : Int) < z
              · have H2 := put (HGO.out (HIF.out.2 hz))
                clear HBAD HGO hkk
                go_wp2_with fail
                refine (l5Raises_any op _).mono ?_
                rintro e w7 ⟨rfl, rfl⟩
                rw [HF.out]
                go_wp2
                go_roundw
                case rel => exact ⟨k + 1, by omega, by go_num, H2, hb5⟩
                case measure => simp [intOf]; omega
              · have HA := put (HBAD.out (fun h => hz (HIF.out.1 h)))
                have hz' : z ≤ (k : Int) := by omega
                clear HBAD HGO hkk hz
                go_wp2_with fail
                refine (l5Raises_any op _).mono ?_
                rintro e w7 ⟨rfl, rfl⟩
                rw [HF.out]
                go_wp2
                go_ret
                exact ⟨ret_int HA.out.symm, b5.trans (hb5.mono b5.size)⟩
        · have hp' : gg < 0 := by omega
          have H2 := put (HST.out gg hg.out (fun h => absurd h hp))
          clear hp HST HNO
          go_wp2
          go_roundw
          case rel => exact ⟨k + 1, by omega, by go_num, H2, hb5⟩
          case measure => simp [intOf]; omega
      · have HRO := put (show raisOk s hs0 from fun a t g ht hg hp hr => hall.out a t g (by have := (List.getElem?_eq_some_iff.1 ht).1; have := E.out; omega) ht hg hp hr)
        have HE := put (fun h => HON.out.2.1 HRO.out h)
        have HZ := put (fun h => HON.out.2.2 HRO.out h)
        have z3 := (k7.below hbel).cell 3
        simp at z3
        clear hall HON
        go_wp2
        go_loopw [83] (fun i wy => ∃ j : Nat, j ≤ n2 ∧ i = .int .i64 j ∧ Hid (∀ (a : Nat) (t : Token) (g : Int), a < j → s.ins[a]? = some t → hs0[a]? = some g → 0 < g → flatB t.1 = false) ∧ Below w5.heap.size w5 wy) (fun i _ => n2 - (intOf i).toNat)
        case atStart => exact ⟨0, Nat.zero_le _, rfl, put (fun a t g h => by omega), hbel⟩
        case round =>
          clear hbel
          obtain ⟨j, hj, rfl, hall, hbel⟩ := hrel
          by_cases hlt2 : j < n2
          · obtain ⟨b, off, op, x, rfl, hb', hc1, hc2, hxt⟩ := (hins5.below hbel).at_ hlt2
            have hb3 := hbel.alloc hbel.size (.cells #[.int .i64 op, .int .i64 x] 129)
            obtain ⟨bv, ov, g, rfl, hbv, eg, hg⟩ := (hrv.below hb3).at_ hlt2
            have HST := put (fun (h0 : 0 < g → flatB op = false) => (show ∀ (a : Nat) (t : Token) (g : Int), a < j + 1 → s.ins[a]? = some t → hs0[a]? = some g → 0 < g → flatB t.1 = false from fun a t g' ha ht hg' hp => by
              by_cases h : a < j
              · exact hall.out a t g' h ht hg' hp
              · obtain rfl : a = j := by omega
                rw [hxt.out] at ht; injection ht with ht; subst ht
                rw [hg.out] at hg'; injection hg' with hg'; subst hg'
                exact h0 hp))
            have HNO := put (fun (h0 : 0 < g) (h1 : flatB op = true) => HE.out fun h => by have := h j _ g hxt.out hg.out h0; rw [h1] at this; cases this)
            clear hxt hg
            have FL := put (flatB_iff op)
            by_cases hgp : 0 < g
            · by_cases hfl : op = 18 ∨ op = 16 ∨ op = 14 ∨ op = 17
              · have HA := put (HNO.out hgp (FL.out.2 hfl))
                clear FL HST HNO
                rcases hfl with rfl | rfl | rfl | rfl
                all_goals
                  go_wp2
                  go_ret
                  exact ⟨ret_int HA.out.symm, b5.trans (hb3.mono b5.size)⟩
              · have H2 := put (HST.out (fun _ => no_of fun h => hfl (FL.out.1 h)))
                have q18 := beq_of (show op ≠ 18 from fun e => hfl (by omega))
                have q16 := beq_of (show op ≠ 16 from fun e => hfl (by omega))
                have q14 := beq_of (show op ≠ 14 from fun e => hfl (by omega))
                have q17 := beq_of (show op ≠ 17 from fun e => hfl (by omega))
                clear FL HST HNO hfl
                go_wp2
                go_roundw
                case rel => exact ⟨j + 1, by omega, by go_num, H2, hb3⟩
                case measure => simp [intOf]; omega
            · have hgp' : g ≤ 0 := by omega
              have H2 := put (HST.out (fun h => absurd h hgp))
              clear FL HST HNO hgp
              by_cases hfl : op = 18 ∨ op = 16 ∨ op = 14 ∨ op = 17
              · rcases hfl with rfl | rfl | rfl | rfl
                all_goals
                  go_wp2
                  go_roundw
                  case rel => exact ⟨j + 1, by omega, by go_num, H2, hb3⟩
                  case measure => simp [intOf]; omega
              · have q18 := beq_of (show op ≠ 18 from fun e => hfl (by omega))
                have q16 := beq_of (show op ≠ 16 from fun e => hfl (by omega))
                have q14 := beq_of (show op ≠ 14 from fun e => hfl (by omega))
                have q17 := beq_of (show op ≠ 17 from fun e => hfl (by omega))
                clear hfl
                go_wp2
                go_roundw
                case rel => exact ⟨j + 1, by omega, by go_num, H2, hb3⟩
                case measure => simp [intOf]; omega
          · have HYES := put (HZ.out (show endOk s hs0 from fun a t g ht hg hp => hall.out a t g (by have := (List.getElem?_eq_some_iff.1 ht).1; have := E.out; omega) ht hg hp))
            go_wp2
            go_ret
            exact ⟨ret_int HYES.out.symm, b5.trans (hbel.mono b5.size)⟩

end Go.Proofs.YtpbkkjiikhjanaaGreatDoor

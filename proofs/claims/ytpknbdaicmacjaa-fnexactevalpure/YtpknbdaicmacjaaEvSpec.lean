/-
  The contract of the reference's EvalPure.
-/
import Derived.Test.YtpknbdaicmacjaaEvWalk
namespace Go.Proofs.Ytpknbdaicmacjaa
open Go.RowKit Exs
set_option linter.unusedVariables false

set_option maxHeartbeats 4000000 in
set_option maxRecDepth 100000 in
theorem specEvalPure_any (A : Option Addr) (n c : Nat) (ts : List Token) (A' : Option Addr) (m c' : Nat) (env : List Int) (w : World) (hr : ReadsT w w.heap.size A n ts) (hr' : Reads w w.heap.size .i64 A' m env)
    (hn : n ≤ 1048576) (hm : m ≤ 1048576) :
    Calls Try.prog 25 #[.slice A n c, .slice A' m c'] w fun e w' => e = .returned (.tuple #[.int .i64 (pureAns ts env).1, .bool (pureAns ts env).2.1, .bool (pureAns ts env).2.2]) ∧ Below w.heap.size w w' := by
  have hml := put hr'.1
  by_cases hm6 : m ≤ 6
  · cases hi : allIn (-2147483648) 2147483647 env with
    | false =>
      have HF := put (pureAns_no (ts := ts) (env := env) (.inr (.inr hi)))
      go_enter Try.func25, Try.ntmps25
      go_wp2_with fail
      refine (l1All_any _ _ _ env _ _ _ hr' hm).mono ?_
      rintro e w1 ⟨rfl, rfl⟩
      go_wp2
      go_ret3
      exact ⟨ret3 (by rw [HF.out]), Below.refl _ _⟩
    | true =>
      cases hg : (highAns ts m []).2 with
      | false =>
        have HF := put (pureAns_no (ts := ts) (env := env) (.inl (by rw [hml.out]; exact hg)))
        go_enter Try.func25, Try.ntmps25
        go_wp2_with fail
        refine (l1All_any _ _ _ env _ _ _ hr' hm).mono ?_
        rintro e w1 ⟨rfl, rfl⟩
        go_wp2_with fail
        refine (specGoodExpr_any _ _ _ ts _ _ _ _ [] _ hr (reads_nil _ _ _) hn (by omega)).mono ?_
        rintro e w2 ⟨rfl, hb2⟩
        go_wp2
        go_ret3
        exact ⟨ret3 (by rw [HF.out]), hb2⟩
      | true =>
        obtain ⟨hs, hl, hv0, hv6⟩ := sane_good hg
        have hs := put hs
        have he : Hid (Small env) := put hi
        rw [hr.1] at hl
        go_enter Try.func25, Try.ntmps25
        go_wp2_with fail
        refine (l1All_any _ _ _ env _ _ _ hr' hm).mono ?_
        rintro e w1 ⟨rfl, rfl⟩
        go_wp2_with fail
        refine (specGoodExpr_any _ _ _ ts _ _ _ _ [] _ hr (reads_nil _ _ _) hn (by omega)).mono ?_
        rintro e w2 ⟨rfl, hb2⟩
        have HG := put hg
        have HI := put hi
        go_wp2_with fail
        clear hg hi
        go_loopw [32] (fun i wr => ∃ k : Nat, k ≤ n ∧ i = .int .i64 k ∧ Hid (asks (ts.take k) = false) ∧ Below w.heap.size w wr) (fun i _ => n - (intOf i).toNat)
        case atStart => exact ⟨0, Nat.zero_le _, rfl, rfl, hb2⟩
        case round =>
          obtain ⟨k, hk, rfl, ha, hbel⟩ := hrel
          by_cases hlt : k < n
          · obtain ⟨b, off, op, x, rfl, hb, hc1, hc2, hx⟩ := (hr.below hbel).at_ hlt
            by_cases h9 : op = 9
            · have HF := put (pureAns_no (ts := ts) (env := env) (.inr (.inl (asks_yes hx.out (by simp [ask, h9])))))
              subst h9
              go_wp2
              go_ret3
              exact ⟨ret3 (by rw [HF.out]), hbel.alloc hbel.size _⟩
            · have h9' := beq_of h9
              by_cases h10 : op = 10
              · have HF := put (pureAns_no (ts := ts) (env := env) (.inr (.inl (asks_yes hx.out (by simp [ask, h10])))))
                subst h10
                go_wp2
                go_ret3
                exact ⟨ret3 (by rw [HF.out]), hbel.alloc hbel.size _⟩
              · have h10' := beq_of h10
                have HN := put (asks_more hx.out ha.out (by simp [ask, h9, h10]))
                go_wp2
                go_roundw
                case rel => exact ⟨k + 1, by omega, by go_num, HN, hbel.alloc hbel.size _⟩
                case measure => simp [intOf]; omega
          · have ha2 : Hid (asks ts = false) := by
              have h5 := ha.out
              rw [List.take_of_length_le (by rw [hr.1]; omega)] at h5
              exact put h5
            have HP := put (pureAns_yes (ts := ts) (env := env) (by rw [hml.out]; exact HG.out) ha2.out HI.out)
            have hn12 := hl
            obtain rfl : n = k := by omega
            clear ha hlt hb2 hk
            have ha := ha2
            have hbel0 := hbel
            clear ha2 hbel
            go_wp2_with fail
            go_loopw [7, 47] (fun pv i wr => ∃ (k : Nat) (xs : List Int), k ≤ n ∧ i = .int .i64 k ∧ xs.length ≤ k ∧ Nums wr w.heap.size 3 .i64 pv xs ∧ Hid (Small xs) ∧ Hid (Sane m ts k xs.length) ∧ Hid (ev env ts [] = ev env (ts.drop k) xs) ∧ Below w.heap.size w wr) (fun _ i _ => n - (intOf i).toNat)
            case atStart => exact ⟨0, [], Nat.zero_le _, rfl, by simp, Nums.nil _ _ _ _, rfl, hs, rfl, hbel0⟩
            case round =>
              obtain ⟨k, xs, hk, rfl, hxk, hown, hsm, hsane, hev, hbel⟩ := hrel
              by_cases hlt : k < n
              · obtain ⟨b, off, op, x, rfl, hb, hc1, hc2, hx⟩ := (hr.below hbel).at_ hlt
                have hbs := hbel.size
                rcases sane_step hsane.out hx.out (asks_at hx.out ha.out) with ⟨rfl, hbx, hsn⟩ | ⟨rfl, h0, h1, hsn⟩ | ⟨h3, h8, h2, hsn⟩
                · have HE := put (hev.out.trans (ev_num hx.out))
                  have HS := put (hsm.out.snoc hbx)
                  have HN := put hsn
                  clear hbx hsn
                  go_wp2_with (at_builtin; refine wpList_append_one rfl _ _ 26 rfl w.heap.size 3 .i64 8 Try.info3 Try.underlying26 (by decide) _ xs rfl w ((hbel.alloc hbel.size _).alloc (by simp; omega) _) (by simp; omega) ((hown.alloc _).alloc _) (wr.heap.size + 1) x rfl (by simp) (by omega) ?_)
                  intro v2 w2 hown2 hbel2 _
                  go_wp2
                  go_roundw
                  case rel => exact ⟨k + 1, xs ++ [x], by omega, by go_num, by simp; omega, hown2, HS, by rw [List.length_append]; exact HN, HE, hbel2⟩
                  case measure => simp [intOf]; omega
                · obtain ⟨j, rfl⟩ := Int.eq_ofNat_of_zero_le h0
                  have hj : j < m := by omega
                  obtain ⟨b', off', y, rfl, hb', hcy, hy⟩ := (hr'.below hbel).at_ hj
                  have hyg : env.getD j 0 = y := by rw [List.getD_eq_getElem?_getD, hy.out]; rfl
                  have HE := put (hev.out.trans (ev_var hx.out))
                  rw [Int.toNat_natCast, hyg] at HE
                  have HS := put (hsm.out.snoc (x := y) ((bound_iff _).2 (by rw [← hyg]; exact he.out.at_ j)))
                  have HN := put hsn
                  have hg1 := World.block_lt_of_cell? _ _ hcy
                  clear hyg hsn h0 h1
                  go_wp2_with (at_builtin; refine wpList_append_one rfl _ _ 26 rfl w.heap.size 3 .i64 8 Try.info3 Try.underlying26 (by decide) _ xs rfl w ((hbel.alloc hbel.size _).alloc (by simp; omega) _) (by simp; omega) ((hown.alloc _).alloc _) (wr.heap.size + 1) y rfl (by simp) (by omega) ?_)
                  intro v2 w2 hown2 hbel2 _
                  go_wp2
                  go_roundw
                  case rel => exact ⟨k + 1, xs ++ [y], by omega, by go_num, by simp; omega, hown2, HS, by rw [List.length_append]; exact HN, HE, hbel2⟩
                  case measure => simp [intOf]; omega
                · obtain ⟨L, hL⟩ : ∃ L, xs.length = L + 2 := ⟨xs.length - 2, by omega⟩
                  obtain ⟨g, cap, rfl, hgB, hgw, hcap, hmx, hcell⟩ := hown.form (by omega)
                  have q1 := hcell L (by omega)
                  have q2 := hcell (L + 1) (by omega)
                  have hown1 := hown.cut L (by omega)
                  have HE0 := put (hev.out.trans (ev_op hx.out h3))
                  rw [show xs.length - 2 = L by omega, show xs.length - 1 = L + 1 by omega] at HE0
                  have bx := hsm.out.at_ L
                  have by_ := hsm.out.at_ (L + 1)
                  have HN := put hsn
                  have HT := put (hsm.out.take L)
                  have HL := put hL
                  rw [hL] at hcap ⊢
                  have hlt2 : (xs.take L).length = L := by rw [List.length_take]; omega
                  have HLT := put hlt2
                  clear hcell hsn hown hev hL hlt2
                  generalize xs.getD L 0 = x1 at *
                  generalize xs.getD (L + 1) 0 = y1 at *
                  have hne1 : ¬ op = 1 := by omega
                  have hne2 : ¬ op = 2 := by omega
                  have hb1 := beq_of hne1
                  have hb2 := beq_of hne2
                  generalize hk : rk op x1 y1 = rb
                  obtain ⟨r, bb⟩ := rb
                  have HK := put hk
                  clear hk
                  rw [HK.out] at HE0
                  unfold maxLen at hmx
                  cases bb with
                  | false =>
                    have HF := put (evAns_none (HE0.out.trans (by simp)))
                    go_wp2_with fail
                    have k1 : IntKind.i64.wrap ((L : Int) + 1) = (L : Int) + 1 := IntWalk.i64_in _ (by omega)
                    have k2 : 0 ≤ (L : Int) + 1 := by omega
                    have k3 : ((L : Int) + 1).toNat = L + 1 := by omega
                    go_quiet ((go_at_call 39; exact quiet_left (l2Reckon_in op x1 y1 _ h3 h8 bx by_ HK.out)))
                    clear k1 k2 k3
                    go_wp2
                    go_ret3
                    exact ⟨ret3 (by rw [HP.out, HF.out]), below_drewN (hbel.alloc hbel.size _) _⟩
                  | true =>
                    have HE := put (HE0.out.trans (by simp; rfl))
                    have HB := put (show bound r = true by have := rk_bound op x1 y1; rw [HK.out] at this; exact this)
                    have HS := put (HT.out.snoc HB.out)
                    go_wp2_with fail
                    have k1 : IntKind.i64.wrap ((L : Int) + 1) = (L : Int) + 1 := IntWalk.i64_in _ (by omega)
                    have k2 : 0 ≤ (L : Int) + 1 := by omega
                    have k3 : ((L : Int) + 1).toNat = L + 1 := by omega
                    go_quiet ((go_at_call 39; exact quiet_left (l2Reckon_in op x1 y1 _ h3 h8 bx by_ HK.out)))
                    clear k1 k2 k3
                    have hbq := below_drewN ((hbel.alloc hbel.size (Obj.cells #[Value.int IntKind.i64 op, Value.int IntKind.i64 x] 29)).alloc (by simp; omega) (Obj.cells #[Value.int IntKind.i64 r] 3)) nq
                    have hoq : Nums (((wr.alloc (Obj.cells #[Value.int IntKind.i64 op, Value.int IntKind.i64 x] 29)).alloc (Obj.cells #[Value.int IntKind.i64 r] 3)).drewN nq) w.heap.size 3 .i64 (Value.slice (some ⟨g, 0, none⟩) L cap) (xs.take L) := (hown1.alloc _).alloc _
                    have hcq := cell_new_drawn (wr.alloc (Obj.cells #[Value.int IntKind.i64 op, Value.int IntKind.i64 x] 29)) (.int .i64 r) 3 nq (wr.heap.size + 1) (by simp)
                    go_wp2_with (at_builtin; refine wpList_append_one rfl _ _ 26 rfl w.heap.size 3 .i64 8 Try.info3 Try.underlying26 (by decide) _ (xs.take L) rfl w hbq hbq.size hoq (wr.heap.size + 1) r rfl hcq (by rw [HLT.out]; have := HL.out; omega) ?_)
                    intro v2 w2 hown2 hbel2 _
                    go_wp2
                    go_roundw
                    case rel => exact ⟨k + 1, xs.take L ++ [r], by omega, by go_num, by simp; omega, hown2, HS, by rw [List.length_append, HLT.out]; have h5 := HN.out; rw [HL.out] at h5; exact h5, HE, hbel2⟩
                    case measure => simp [intOf]; omega
              · have h1 := sane_done hsane.out (by rw [hr.1]; omega)
                have HE := put (evAns_some (hev.out.trans (ev_done (by rw [hr.1]; omega))))
                obtain ⟨g, cap, rfl, hgB, hgw, hcap, hmx, hcell⟩ := hown.form (by omega)
                have q1 := hcell 0 (by omega)
                clear hcell hown hev
                unfold maxLen at hmx
                rw [h1] at hcap ⊢
                clear h1 hsane
                go_wp2
                go_ret3
                exact ⟨ret3 (by rw [HP.out, HE.out, List.getD_eq_getElem?_getD]), hbel⟩
  · have HF := put (pureAns_no (ts := ts) (env := env) (.inl (by rw [highAns_vars (by rw [hml.out]; omega)])))
    have hm6' : 6 < m := by omega
    go_enter Try.func25, Try.ntmps25
    go_wp2
    go_ret3
    exact ⟨ret3 (by rw [HF.out]), Below.refl _ _⟩

end Go.Proofs.Ytpknbdaicmacjaa

/-
  Contracts of EvalPure, of the program and of the reference.
-/
import Derived.Test.YtpknbdaicmacjaaEvRun
import Derived.IntWalk
namespace Go.Proofs.Ytpknbdaicmacjaa
open Go.RowKit Exs
set_option linter.unusedVariables false

theorem quiet_left {P : Program} {f : FuncId} {args : Array Value} {w : World} {n : Nat} {v : Value}
    (h : Calls P f args (w.drewN n) fun e w' => e = .returned v ∧ w.drewN n = w') : Calls P f args (w.drewN n) fun e w'' => e = .returned v ∧ ∃ m, w'' = w.drewN m :=
  h.mono fun _ _ ⟨he, hm⟩ => ⟨he, n, hm.symm⟩

theorem cell_new_drawn (x : World) (v : Value) (t : TypeId) (n g : Nat) (h : g = x.heap.size) : ((x.alloc (.cells #[v] t)).drewN n).cell? ⟨g, 0, none⟩ = some v := by
  subst h
  show (x.alloc (.cells #[v] t)).cell? ⟨x.heap.size, 0, none⟩ = some v
  rw [cell_of_row _ _ 0 #[v] t (0, 0) (heap_alloc_new _ _)]
  rfl

theorem rkAns_in {op x y : Int} (h3 : 3 ≤ op) (h8 : op ≤ 8) (hx : -2147483648 ≤ x ∧ x ≤ 2147483647) (hy : -2147483648 ≤ y ∧ y ≤ 2147483647) : rkAns op x y = ((rk op x y).1, (rk op x y).2, true) := by
  simp [rkAns, (within_iff _ _ _).2 ⟨h3, h8⟩, (bound_iff _).2 hx, (bound_iff _).2 hy]
theorem reckon_in (op x y : Int) (w : World) (h3 : 3 ≤ op) (h8 : op ≤ 8) (hx : -2147483648 ≤ x ∧ x ≤ 2147483647) (hy : -2147483648 ≤ y ∧ y ≤ 2147483647) {r : Int} {b : Bool} (hk : rk op x y = (r, b)) :
    Calls Try.prog 24 #[.int .i64 op, .int .i64 x, .int .i64 y] w fun e w' => e = .returned (.tuple #[.int .i64 r, .bool b, .bool true]) ∧ w = w' := by
  have := reckon_any op x y w
  rw [rkAns_in h3 h8 hx hy, hk] at this
  exact this
theorem l2Reckon_in (op x y : Int) (w : World) (h3 : 3 ≤ op) (h8 : op ≤ 8) (hx : -2147483648 ≤ x ∧ x ≤ 2147483647) (hy : -2147483648 ≤ y ∧ y ≤ 2147483647) {r : Int} {b : Bool} (hk : rk op x y = (r, b)) :
    Calls Try.prog 39 #[.int .i64 op, .int .i64 x, .int .i64 y] w fun e w' => e = .returned (.tuple #[.int .i64 r, .bool b]) ∧ w = w' := by
  have := l2Reckon_any op x y w ⟨h3, h8⟩ hx hy
  rw [hk] at this
  exact this

set_option maxHeartbeats 2000000 in
set_option maxRecDepth 100000 in
theorem evalTokens_any (A : Option Addr) (n c : Nat) (ts : List Token) (A' : Option Addr) (m c' : Nat) (env : List Int) (w : World) (hr : ReadsT w w.heap.size A n ts) (hr' : Reads w w.heap.size .i64 A' m env)
    (hn : n ≤ 12) (hm : m ≤ 6) (hs : Hid (Sane m ts 0 0)) (ha : Hid (asks ts = false)) (he : Hid (Small env)) :
    Calls Try.prog 46 #[.slice A n c, .slice A' m c'] w fun e w' => e = .returned (.tuple #[.int .i64 (evAns ts env).1, .bool (evAns ts env).2]) ∧ Below w.heap.size w w' := by
  go_enter Try.func46, Try.ntmps46
  go_wp2
  go_loopw [6, 15] (fun pv i wr => ∃ (k : Nat) (xs : List Int), k ≤ n ∧ i = .int .i64 k ∧ xs.length ≤ k ∧ Nums wr w.heap.size 3 .i64 pv xs ∧ Hid (Small xs) ∧ Hid (Sane m ts k xs.length) ∧ Hid (ev env ts [] = ev env (ts.drop k) xs) ∧ Below w.heap.size w wr) (fun _ i _ => n - (intOf i).toNat)
  case atStart => exact ⟨0, [], Nat.zero_le _, rfl, by simp, Nums.nil _ _ _ _, rfl, hs, rfl, Below.refl _ _⟩
  case round =>
    obtain ⟨k, xs, hk, rfl, hxk, hown, hsm, hsane, hev, hbel⟩ := hrel
    by_cases hlt : k < n
    · obtain ⟨b, off, op, x, rfl, hb, hc1, hc2, hx⟩ := (hr.below hbel).at_ hlt
      have hbs := hbel.size
      rcases sane_step hsane.out hx.out (asks_at hx.out ha.out) with ⟨rfl, hbx, hsn⟩ | ⟨rfl, h0, h1, hsn⟩ | ⟨h3, h8, h2, hsn⟩
      · have HE := put (hev.out.trans (ev_num hx.out))
        have HS := put (hsm.out.snoc hbx)
        have HN := put hsn
        clear hbx hsn
        go_wp2_with (at_builtin; refine wpList_append_one rfl _ _ 26 rfl w.heap.size 3 .i64 8 Try.info3 Try.underlying26 (by decide) _ xs rfl w ((hbel.alloc hbel.size _).alloc (by simp; omega) _) (by simp; omega) ((hown.alloc _).alloc _) (wr.heap.size + 1) x rfl (by simp) (by omega) ?_)
        intro v2 w2 hown2 hbel2 _
        go_wp2
        go_roundw
        case rel => exact ⟨k + 1, xs ++ [x], by omega, by go_num, by simp; omega, hown2, HS, by rw [List.length_append]; exact HN, HE, hbel2⟩
        case measure => simp [intOf]; omega
      · obtain ⟨j, rfl⟩ := Int.eq_ofNat_of_zero_le h0
        have hj : j < m := by omega
        obtain ⟨b', off', y, rfl, hb', hcy, hy⟩ := (hr'.below hbel).at_ hj
        have hyg : env.getD j 0 = y := by rw [List.getD_eq_getElem?_getD, hy.out]; rfl
        have HE := put (hev.out.trans (ev_var hx.out))
        rw [Int.toNat_natCast, hyg] at HE
        have HS := put (hsm.out.snoc (x := y) ((bound_iff _).2 (by rw [← hyg]; exact he.out.at_ j)))
        have HN := put hsn
        have hg1 := World.block_lt_of_cell? _ _ hcy
        clear hyg hsn h0 h1
        go_wp2_with (at_builtin; refine wpList_append_one rfl _ _ 26 rfl w.heap.size 3 .i64 8 Try.info3 Try.underlying26 (by decide) _ xs rfl w ((hbel.alloc hbel.size _).alloc (by simp; omega) _) (by simp; omega) ((hown.alloc _).alloc _) (wr.heap.size + 1) y rfl (by simp) (by omega) ?_)
        intro v2 w2 hown2 hbel2 _
        go_wp2
        go_roundw
        case rel => exact ⟨k + 1, xs ++ [y], by omega, by go_num, by simp; omega, hown2, HS, by rw [List.length_append]; exact HN, HE, hbel2⟩
        case measure => simp [intOf]; omega
      · obtain ⟨L, hL⟩ : ∃ L, xs.length = L + 2 := ⟨xs.length - 2, by omega⟩
        obtain ⟨g, cap, rfl, hgB, hgw, hcap, hmx, hcell⟩ := hown.form (by omega)
        have q1 := hcell L (by omega)
        have q2 := hcell (L + 1) (by omega)
        have hown1 := hown.cut L (by omega)
        have HE0 := put (hev.out.trans (ev_op hx.out h3))
        rw [show xs.length - 2 = L by omega, show xs.length - 1 = L + 1 by omega] at HE0
        have bx := hsm.out.at_ L
        have by_ := hsm.out.at_ (L + 1)
        have HN := put hsn
        have HT := put (hsm.out.take L)
        have HL := put hL
        rw [hL] at hcap ⊢
        have hlt2 : (xs.take L).length = L := by rw [List.length_take]; omega
        have HLT := put hlt2
        clear hcell hsn hown hev hL hlt2
        generalize xs.getD L 0 = x1 at *
        generalize xs.getD (L + 1) 0 = y1 at *
        have hne1 : ¬ op = 1 := by omega
        have hne2 : ¬ op = 2 := by omega
        have hb1 := beq_of hne1
        have hb2 := beq_of hne2
        generalize hk : rk op x1 y1 = rb
        obtain ⟨r, bb⟩ := rb
        have HK := put hk
        clear hk
        rw [HK.out] at HE0
        unfold maxLen at hmx
        cases bb with
        | false =>
          have HF := put (evAns_none (HE0.out.trans (by simp)))
          go_wp2_with fail
          have k1 : IntKind.i64.wrap ((L : Int) + 1) = (L : Int) + 1 := IntWalk.i64_in _ (by omega)
          have k2 : 0 ≤ (L : Int) + 1 := by omega
          have k3 : ((L : Int) + 1).toNat = L + 1 := by omega
          go_quiet ((go_at_call 24; exact quiet_left (reckon_in op x1 y1 _ h3 h8 bx by_ HK.out)))
          clear k1 k2 k3
          go_wp2
          go_ret2
          exact ⟨ret2 (by rw [HF.out]), below_drewN (hbel.alloc hbel.size _) _⟩
        | true =>
          have HE := put (HE0.out.trans (by simp; rfl))
          have HB := put (show bound r = true by have := rk_bound op x1 y1; rw [HK.out] at this; exact this)
          have HS := put (HT.out.snoc HB.out)
          go_wp2_with fail
          have k1 : IntKind.i64.wrap ((L : Int) + 1) = (L : Int) + 1 := IntWalk.i64_in _ (by omega)
          have k2 : 0 ≤ (L : Int) + 1 := by omega
          have k3 : ((L : Int) + 1).toNat = L + 1 := by omega
          go_quiet ((go_at_call 24; exact quiet_left (reckon_in op x1 y1 _ h3 h8 bx by_ HK.out)))
          clear k1 k2 k3
          have hbq := below_drewN ((hbel.alloc hbel.size (Obj.cells #[Value.int IntKind.i64 op, Value.int IntKind.i64 x] 29)).alloc (by simp; omega) (Obj.cells #[Value.int IntKind.i64 r] 3)) nq
          have hoq : Nums (((wr.alloc (Obj.cells #[Value.int IntKind.i64 op, Value.int IntKind.i64 x] 29)).alloc (Obj.cells #[Value.int IntKind.i64 r] 3)).drewN nq) w.heap.size 3 .i64 (Value.slice (some ⟨g, 0, none⟩) L cap) (xs.take L) := (hown1.alloc _).alloc _
          have hcq := cell_new_drawn (wr.alloc (Obj.cells #[Value.int IntKind.i64 op, Value.int IntKind.i64 x] 29)) (.int .i64 r) 3 nq (wr.heap.size + 1) (by simp)
          go_wp2_with (at_builtin; refine wpList_append_one rfl _ _ 26 rfl w.heap.size 3 .i64 8 Try.info3 Try.underlying26 (by decide) _ (xs.take L) rfl w hbq hbq.size hoq (wr.heap.size + 1) r rfl hcq (by rw [HLT.out]; have := HL.out; omega) ?_)
          intro v2 w2 hown2 hbel2 _
          go_wp2
          go_roundw
          case rel => exact ⟨k + 1, xs.take L ++ [r], by omega, by go_num, by simp; omega, hown2, HS, by rw [List.length_append, HLT.out]; have h5 := HN.out; rw [HL.out] at h5; exact h5, HE, hbel2⟩
          case measure => simp [intOf]; omega
    · have h1 := sane_done hsane.out (by rw [hr.1]; omega)
      have HE := put (evAns_some (hev.out.trans (ev_done (by rw [hr.1]; omega))))
      obtain ⟨g, cap, rfl, hgB, hgw, hcap, hmx, hcell⟩ := hown.form (by omega)
      have q1 := hcell 0 (by omega)
      clear hcell hown hev
      unfold maxLen at hmx
      rw [h1] at hcap ⊢
      clear h1 hsane
      go_wp2
      go_ret2
      exact ⟨ret2 (by rw [HE.out, List.getD_eq_getElem?_getD]), hbel⟩

/-- What EvalPure answers. -/
def pureAns (ts : List Token) (env : List Int) : Int × Bool × Bool := if (highAns ts env.length []).2 && !asks ts && allIn (-2147483648) 2147483647 env then ((evAns ts env).1, (evAns ts env).2, true) else (0, false, false)
theorem pureAns_yes {ts : List Token} {env : List Int} (h1 : (highAns ts env.length []).2 = true) (h2 : asks ts = false) (h3 : allIn (-2147483648) 2147483647 env = true) : pureAns ts env = ((evAns ts env).1, (evAns ts env).2, true) := by
  simp [pureAns, h1, h2, h3]
theorem pureAns_no {ts : List Token} {env : List Int} (h : (highAns ts env.length []).2 = false ∨ asks ts = true ∨ allIn (-2147483648) 2147483647 env = false) : pureAns ts env = (0, false, false) := by
  rcases h with h | h | h <;> simp [pureAns, h]

theorem reads_nil (w : World) (B : Nat) (k : IntKind) : Reads w B k none 0 [] := ⟨rfl, fun h => absurd h (by omega)⟩

set_option maxHeartbeats 400000 in
set_option maxRecDepth 100000 in
theorem evalPure_any (A : Option Addr) (n c : Nat) (ts : List Token) (A' : Option Addr) (m c' : Nat) (env : List Int) (w : World) (hr : ReadsT w w.heap.size A n ts) (hr' : Reads w w.heap.size .i64 A' m env)
    (hn : n ≤ 1048576) (hm : m ≤ 1048576) :
    Calls Try.prog 26 #[.slice A n c, .slice A' m c'] w fun e w' => e = .returned (.tuple #[.int .i64 (pureAns ts env).1, .bool (pureAns ts env).2.1, .bool (pureAns ts env).2.2]) ∧ Below w.heap.size w w' := by
  have hml := put hr'.1
  cases hg : (highAns ts m []).2 with
  | false =>
    have HF := put (pureAns_no (ts := ts) (env := env) (.inl (by rw [hml.out]; exact hg)))
    go_enter Try.func26, Try.ntmps26
    go_wp2_with fail
    refine (goodExpr_any _ _ _ ts _ _ _ _ [] _ hr (reads_nil _ _ _) hn (by omega)).mono ?_
    rintro e w1 ⟨rfl, hb1⟩
    go_wp2
    go_ret3
    exact ⟨ret3 (by rw [HF.out]), hb1⟩
  | true =>
    obtain ⟨hs, hl, hv0, hv6⟩ := sane_good hg
    have HS := put hs; clear hs
    rw [hr.1] at hl
    cases ha : asks ts with
    | true =>
      have HF := put (pureAns_no (ts := ts) (env := env) (.inr (.inl ha)))
      go_enter Try.func26, Try.ntmps26
      go_wp2_with fail
      refine (goodExpr_any _ _ _ ts _ _ _ _ [] _ hr (reads_nil _ _ _) hn (by omega)).mono ?_
      rintro e w1 ⟨rfl, hb1⟩
      go_wp2_with fail
      refine (containsFunc_any _ _ _ ts _ ((hr.below hb1).more hb1.size) hn).mono ?_
      rintro e w2 ⟨rfl, hb2⟩
      have b2 := hb1.trans (hb2.mono hb1.size)
      go_wp2
      go_ret3
      exact ⟨ret3 (by rw [HF.out]), b2⟩
    | false =>
      cases hi : allIn (-2147483648) 2147483647 env with
      | false =>
        have HF := put (pureAns_no (ts := ts) (env := env) (.inr (.inr hi)))
        go_enter Try.func26, Try.ntmps26
        go_wp2_with fail
        refine (goodExpr_any _ _ _ ts _ _ _ _ [] _ hr (reads_nil _ _ _) hn (by omega)).mono ?_
        rintro e w1 ⟨rfl, hb1⟩
        go_wp2_with fail
        refine (containsFunc_any _ _ _ ts _ ((hr.below hb1).more hb1.size) hn).mono ?_
        rintro e w2 ⟨rfl, hb2⟩
        have b2 := hb1.trans (hb2.mono hb1.size)
        clear hb1 hb2
        go_wp2_with fail
        refine (allInBounds_any _ _ _ env _ ((hr'.below b2).more b2.size) hm).mono ?_
        rintro e w3 ⟨rfl, rfl⟩
        go_wp2
        go_ret3
        exact ⟨ret3 (by rw [HF.out]), b2⟩
      | true =>
        have HF := put (pureAns_yes (ts := ts) (env := env) (by rw [hml.out]; exact hg) ha hi)
        have HA := put ha
        have HI : Hid (Small env) := put hi
        go_enter Try.func26, Try.ntmps26
        go_wp2_with fail
        refine (goodExpr_any _ _ _ ts _ _ _ _ [] _ hr (reads_nil _ _ _) hn (by omega)).mono ?_
        rintro e w1 ⟨rfl, hb1⟩
        go_wp2_with fail
        refine (containsFunc_any _ _ _ ts _ ((hr.below hb1).more hb1.size) hn).mono ?_
        rintro e w2 ⟨rfl, hb2⟩
        have b2 := hb1.trans (hb2.mono hb1.size)
        clear hb1 hb2
        go_wp2_with fail
        refine (allInBounds_any _ _ _ env _ ((hr'.below b2).more b2.size) hm).mono ?_
        rintro e w3 ⟨rfl, rfl⟩
        go_wp2_with fail
        refine (evalTokens_any _ _ _ ts _ _ _ env _ ((hr.below b2).more b2.size) ((hr'.below b2).more b2.size) hl (by omega) HS HA HI).mono ?_
        rintro e w4 ⟨rfl, hb4⟩
        go_wp2
        go_ret3
        exact ⟨ret3 (by rw [HF.out]), b2.trans (hb4.mono b2.size)⟩

end Go.Proofs.Ytpknbdaicmacjaa

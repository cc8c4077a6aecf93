/-
  The program's walk over a function's blocks: its contract, for whatever loop body tells, place by place, whether it goes on.
-/
import Derived.Test.YtaogdaoiijmmhaaRange
import Derived.Test.YtaogdaoiijmmhaaPMath
import Derived.Test.YtaogdaoiijmmhaaPrgTo2
import Derived.RangeFuncCalls
import Derived.Shelf.Abstract
import Derived.Shelf.RegionOpen
import Derived.WalkKit
import Derived.OwnWalkIn
import Derived.TacticsInMore
import Derived.LoopNIn
import Derived.LoopIn
namespace Go.Proofs.Ytaogdaoiijmmhaa
open Go.RowKit Go.Shelf Exs
attribute [local go_sem] Oper.semAt_some

theorem room_free {F : Fence} (hd : F.depth = none) (k : Nat) : F.room k := fun d h => by rw [hd] at h; cases h
theorem YieldAt.free {F : Fence} (hd : F.depth = none) {m : Nat} (m' : Nat) {P : Program} {l : Nat} {args : Array Value} {W : World} {R : Ending → World → Prop} (h : YieldAt F m P l args W R) : YieldAt F m' P l args W R := by
  obtain ⟨fn, tmps, assign, body, hy, hR⟩ := h
  exact ⟨fn, tmps, assign, body, hy, hR.1, fun c cs _ => hR.2 c cs (room_free hd _)⟩

/-- One step of the walk, as the loop's body tells it. -/
def stepTo (f : Fc) (k : Nat) (x : Int × Bool) : Option Nat := if okAt f k x.1 x.2 then some (k + 1) else none
/-- Where the walk stands, told or not. -/
def AfterWalk (Kp : World → World → Prop) (J : Nat → World → Prop) (Jx : World → Prop) (r : Option Nat) (W : World) (e : Ending) (W' : World) : Prop :=
  (∃ k, r = some k ∧ e = .returned (.bool true) ∧ J k W' ∧ Kp W W') ∨ (r = none ∧ e = .returned (.bool false) ∧ Jx W')
theorem Keep.but {n₀ : Nat} {Mine : World → Nat → Prop} {W W' : World} {g : Nat} {cs : Array Value} {t : TypeId} (h : Keep W g cs t) (hm : ¬ Mine W g) (hk : KeepsBut n₀ Mine W W') : Keep W' g cs t := (hk.2 g h.lt hm).1.trans h

set_option maxRecDepth 100000 in
set_option maxHeartbeats 2000000 in
theorem yieldBlock_in (F : Fence) (hd : F.depth = none) (h78 : F.fn 53) (hro : F.round = none) (l n₀ : Nat) (Mine : World → Nat → Prop) (f : Fc) (A1 : Option Addr) (n1 c1 : Nat) (A2 : Option Addr) (n2 c2 : Nat) (J : Nat → World → Prop) (Jx : World → Prop) (st : Prop)
    (hJ : ∀ k W o, J k W → J k (W.alloc o)) (hMa : ∀ W o g, g < W.heap.size → ¬ Mine W g → ¬ Mine (W.alloc o) g) (hMf : ∀ k W o, J k W → ¬ Mine (W.alloc o) W.heap.size) (hsm : SmallF f)
    (hY : ∀ (m k : Nat) (x : Int) (b : Bool) W1, J k W1 → (okAt f k x b = true ∨ st) → YieldAt F m Try.prog l #[.int .i64 x, .bool b] W1 (told (KeepsBut n₀ Mine) J Jx (stepTo f k (x, b)) W1)) :
    ∀ (fuel n : Nat) (block : List Int) (A : Option Addr) (m c : Nat) (b : Bool) (k : Nat) (W : World), f.stmts.length ≤ fuel + k → n₀ ≤ W.heap.size → m ≤ 1048576 → IsFc W n₀ f A1 n1 A2 n2 → Reads W n₀ .i64 A m block → J k W → (go f fuel block b k = none → st) →
      CallsIn F n Try.prog 53 #[fcV f A1 n1 c1 A2 n2 c2, .slice A m c, .bool b, .func (.yield l) #[] #[]] W (AfterWalk (KeepsBut n₀ Mine) J Jx (go f fuel block b k) W) := by
  have hdd : ∀ k : Nat, (F.depth.isSome = true → 1 ≤ k) := fun k h => by rw [hd] at h; cases h
  have hKa : ∀ {W : World} (o : Obj), n₀ ≤ W.heap.size → KeepsBut n₀ Mine W (W.alloc o) := fun {W} o hn => ⟨(Below.refl _ W).alloc hn _, fun g hg hm => ⟨Below.heap_alloc _ _ _ hg, hMa _ _ _ hg hm⟩⟩
  intro fuel
  induction fuel with
  | zero =>
    intro n block A m c b k W hfu hn0 hm hf hr hJ0 hst
    unfold fcV
    have hk0 := Keep.new W #[.int .i64 f.params, .int .i64 f.vars, .slice A1 n1 c1, .slice A2 n2 c2] 51
    have hb0 := hKa (.cells #[.int .i64 f.params, .int .i64 f.vars, .slice A1 n1 c1, .slice A2 n2 c2] 51) hn0
    have hm0 := hMf k W (.cells #[.int .i64 f.params, .int .i64 f.vars, .slice A1 n1 c1, .slice A2 n2 c2] 51) hJ0
    refine callsIn_of_wp Try.func53 rfl h78 ?_ hro
    simp only [Try.ntmps53, List.size_toArray, List.length_cons, List.length_nil, Nat.reduceAdd, Nat.reduceSub, Array.replicate_succ, Array.replicate_zero, List.push_toArray, List.append_toArray, List.nil_append, List.cons_append]
    gi_wp2
    gi_loopw [15] (fun i wr => ∃ (j q : Nat), j ≤ m ∧ i = .int .i64 j ∧ Hid (go f 0 block b k = go f 0 (block.drop j) b q) ∧ k ≤ q ∧ J q wr ∧ Keep wr W.heap.size #[.int .i64 f.params, .int .i64 f.vars, .slice A1 n1 c1, .slice A2 n2 c2] 51 ∧ Hid (¬ Mine wr W.heap.size) ∧ KeepsBut n₀ Mine W wr)
      (fun i _ => m - (intOf i).toNat)
    case atStart => exact ⟨0, k, Nat.zero_le _, rfl, put (by simp), Nat.le_refl _, hJ _ _ _ hJ0, hk0, put hm0, hb0⟩
    case round =>
      obtain ⟨j, q, hj, rfl, hgo, hkq, hJq, hkeep, hmine, hbel⟩ := hrel
      clear hk0 hb0 hm0
      by_cases hlt : j < m
      · obtain ⟨b', off, x, hA, hb', hcx, hxx⟩ := (hr.below hbel.1).at_ hlt
        subst hA
        have hdrop : block.drop j = x :: block.drop (j + 1) := by
          have hl : j < block.length := by rw [hr.1]; exact hlt
          rw [List.drop_eq_getElem_cons hl]
          have := hxx.out
          rw [List.getElem?_eq_getElem hl] at this
          injection this with this
          rw [this]
        cases hok : okAt f q x b with
        | false =>
          have hnone := put (show go f 0 block b k = none by rw [hgo.out, hdrop, go_stop hok])
          have hyy := hY (n - 1) q x b wr hJq (.inr (hst hnone.out))
          rw [show stepTo f q (x, b) = none by simp [stepTo, hok]] at hyy
          obtain ⟨fn, tmps, assign, body, hy, hR⟩ := hyy
          clear hok hdrop hxx hgo hst hY
          gi_wp2_with ((try refine ⟨hdd _, ?_⟩); refine hR.mono ?_; clear hR; rintro e W2 (⟨_, ⟨⟩, _⟩ | ⟨_, rfl, hx2⟩))
          · go_ret
            exact .inr ⟨hnone.out, rfl, hx2⟩
        | true =>
          obtain ⟨_, s, hs, _⟩ := okAt_some hok
          have := (List.getElem?_eq_some_iff.1 hs).1
          omega
      · have hfin := put (show go f 0 block b k = some q by rw [hgo.out, List.drop_of_length_le (by rw [hr.1]; omega), go_nil])
        gi_wp2
        go_ret
        exact .inl ⟨q, hfin.out, rfl, hJq, hbel⟩
  | succ fuel ih =>
    intro n block A m c b k W hfu hn0 hm hf hr hJ0 hst
    unfold fcV
    have hk0 := Keep.new W #[.int .i64 f.params, .int .i64 f.vars, .slice A1 n1 c1, .slice A2 n2 c2] 51
    have hb0 := hKa (.cells #[.int .i64 f.params, .int .i64 f.vars, .slice A1 n1 c1, .slice A2 n2 c2] 51) hn0
    have hm0 := hMf k W (.cells #[.int .i64 f.params, .int .i64 f.vars, .slice A1 n1 c1, .slice A2 n2 c2] 51) hJ0
    refine callsIn_of_wp Try.func53 rfl h78 ?_ hro
    simp only [Try.ntmps53, List.size_toArray, List.length_cons, List.length_nil, Nat.reduceAdd, Nat.reduceSub, Array.replicate_succ, Array.replicate_zero, List.push_toArray, List.append_toArray, List.nil_append, List.cons_append]
    gi_wp2
    gi_loopw [15] (fun i wr => ∃ (j q : Nat), j ≤ m ∧ i = .int .i64 j ∧ Hid (go f (fuel + 1) block b k = go f (fuel + 1) (block.drop j) b q) ∧ k ≤ q ∧ J q wr ∧ Keep wr W.heap.size #[.int .i64 f.params, .int .i64 f.vars, .slice A1 n1 c1, .slice A2 n2 c2] 51 ∧ Hid (¬ Mine wr W.heap.size) ∧ KeepsBut n₀ Mine W wr)
      (fun i _ => m - (intOf i).toNat)
    case atStart => exact ⟨0, k, Nat.zero_le _, rfl, put (by simp), Nat.le_refl _, hJ _ _ _ hJ0, hk0, put hm0, hb0⟩
    case round =>
      obtain ⟨j, q, hj, rfl, hgo, hkq, hJq, hkeep, hmine, hbel⟩ := hrel
      clear hk0 hb0 hm0
      by_cases hlt : j < m
      · obtain ⟨b', off, x, hA, hb', hcx, hxx⟩ := (hr.below hbel.1).at_ hlt
        subst hA
        have hdrop : block.drop j = x :: block.drop (j + 1) := by
          have hl : j < block.length := by rw [hr.1]; exact hlt
          rw [List.drop_eq_getElem_cons hl]
          have := hxx.out
          rw [List.getElem?_eq_getElem hl] at this
          injection this with this
          rw [this]
        cases hok : okAt f q x b with
        | false =>
          have hnone := put (show go f (fuel + 1) block b k = none by rw [hgo.out, hdrop, go_stop hok])
          have hyy := hY (n - 1) q x b wr hJq (.inr (hst hnone.out))
          rw [show stepTo f q (x, b) = none by simp [stepTo, hok]] at hyy
          obtain ⟨fn, tmps, assign, body, hy, hR⟩ := hyy
          clear hok hdrop hxx hgo hst hY ih
          gi_wp2_with ((try refine ⟨hdd _, ?_⟩); refine hR.mono ?_; clear hR; rintro e W2 (⟨_, ⟨⟩, _⟩ | ⟨_, rfl, hx2⟩))
          · go_ret
            exact .inr ⟨hnone.out, rfl, hx2⟩
        | true =>
          obtain ⟨hxq, s, hs, _⟩ := okAt_some hok
          subst hxq
          have hgo2 := hgo.out
          rw [hdrop, go_on hok hs] at hgo2
          have hyy := hY (n - 1) q q b wr hJq (.inl hok)
          rw [show stepTo f q ((q : Int), b) = some (q + 1) by simp [stepTo, hok]] at hyy
          have hq : q < n2 := by rw [← hf.stmts.1]; exact (List.getElem?_eq_some_iff.1 hs).1
          obtain ⟨fn, tmps, assign, body, hy, hR⟩ := hyy
          clear hok hdrop hxx hgo
          gi_wp2_with fail
          refine hR.mono ?_
          rintro e W2 (⟨_, ⟨⟩, rfl, hJ2, hb2⟩ | ⟨⟨⟩, _⟩)
          clear hR hy
          have hbel2 := hbel.trans hb2
          have hk2 := hkeep.but hmine.out hb2
          have hm2 := (hb2.2 _ hkeep.lt hmine.out).2
          have hf2 := hf.below hbel2.1
          have hs2 := Nat.le_trans hn0 hbel2.1.size
          obtain ⟨b2, off2, s', B1, m1, d1, B2, m2, d2, B3, m3, d3, hA2, hbb2, g0, g1, g2, g3, g4, r1, r2, r3, hx2⟩ := hf2.stmts.at_ hq
          obtain rfl : s = s' := by have := hx2.out; rw [hs] at this; injection this
          subst hA2
          have z3 := hk2.cell 3
          simp at z3
          clear hx2 hkeep hmine hb2 hJq
          -- the box of the statement
          have hJ3 := hJ _ _ (.cells #[.int .i64 s.kind, .int .i64 s.n, .slice B1 m1 d1, .slice B2 m2 d2, .slice B3 m3 d3] 68) hJ2
          have hKs := hKa (W := W2) (.cells #[.int .i64 s.kind, .int .i64 s.n, .slice B1 m1 d1, .slice B2 m2 d2, .slice B3 m3 d3] 68) hs2
          have hks := Keep.new W2 #[.int .i64 s.kind, .int .i64 s.n, .slice B1 m1 d1, .slice B2 m2 d2, .slice B3 m3 d3] 68
          have hms := hMf _ W2 (.cells #[.int .i64 s.kind, .int .i64 s.n, .slice B1 m1 d1, .slice B2 m2 d2, .slice B3 m3 d3] 68) hJ2
          have hk3 := hk2.alloc (.cells #[.int .i64 s.kind, .int .i64 s.n, .slice B1 m1 d1, .slice B2 m2 d2, .slice B3 m3 d3] 68)
          have hm3 := hMa _ (.cells #[.int .i64 s.kind, .int .i64 s.n, .slice B1 m1 d1, .slice B2 m2 d2, .slice B3 m3 d3] 68) _ hk2.lt hm2
          have hbel3 := hbel2.trans hKs
          have y0 := hk3.cell 0
          have y1 := hk3.cell 1
          have y2 := hk3.cell 2
          have y3 := hk3.cell 3
          simp at y0 y1 y2 y3
          have hsmS := hsm.2.2 s (mem_of_at hs)
          have hmt : m2 ≤ 1048576 := by have := hsmS.2.1; rw [r2.1] at this; exact this
          have hme : m3 ≤ 1048576 := by have := hsmS.2.2; rw [r3.1] at this; exact this
          have hth := r2.below hKs.1
          have hel := r3.below hKs.1
          have hf3 := hf2.below hKs.1
          have hn3 := Nat.le_trans hs2 hKs.1.size
          clear r1 r2 r3 hsmS hf2
          obtain ⟨bb, hbb, hw⟩ : ∃ bb, (b || decide (s.kind = 8)) = bb ∧ ((b = true ∧ bb = true) ∨ (b = false ∧ s.kind = 8 ∧ bb = true) ∨ (b = false ∧ s.kind ≠ 8 ∧ bb = false)) := by
            refine ⟨_, rfl, ?_⟩
            cases b <;> simp
            by_cases h : s.kind = 8 <;> simp [h]
          rw [hbb] at hgo2
          have hst1 : go f fuel s.th bb (q + 1) = none → st := fun h => hst (by rw [hgo2, h]; rfl)
          have hst2 : ∀ k1, go f fuel s.th bb (q + 1) = some k1 → go f fuel s.el bb k1 = none → st := fun k1 h1 h2 => hst (by rw [hgo2, h1, Option.bind_some, h2]; rfl)
          have hcall1 := ih (n - 1) s.th B2 m2 d2 bb (q + 1) _ (by omega) hn3 hmt hf3 hth hJ3 hst1
          have hcall2 := fun W3 k1 (h1 : go f fuel s.th bb (q + 1) = some k1) (hJ' : J k1 W3) (hK' : KeepsBut n₀ Mine _ W3) => ih (n - 1) s.el B3 m3 d3 bb k1 W3 (by have := go_mono _ _ _ _ _ _ h1; omega) (Nat.le_trans hn3 hK'.1.size) hme (hf3.below hK'.1) (hel.below hK'.1) hJ' (hst2 k1 h1)
          unfold fcV at hcall1 hcall2
          have H1 := put hcall1
          have H2 := put hcall2
          have HG := put hgo2
          have HB := put hbb
          clear hcall1 hcall2 hst1 hst2 hgo2 hbb ih hst hY hth hel hJ3 hf hf3
          rcases hw with ⟨rfl, rfl⟩ | ⟨rfl, h8, rfl⟩ | ⟨rfl, h8, rfl⟩
          · gi_wp2_with fail
            refine H1.out.mono ?_
            clear H1
            rintro e W3 (⟨k1, hk1, rfl, hJ4, hb3⟩ | ⟨hk1, rfl, hx3⟩)
            · have hks3 := hks.but hms hb3
              have hk4 := hk3.but hm3 hb3
              have hm4 := (hb3.2 _ hk3.lt hm3).2
              have v4 := hks3.cell 4
              have w0 := hk4.cell 0
              have w1 := hk4.cell 1
              have w2 := hk4.cell 2
              have w3 := hk4.cell 3
              simp at v4 w0 w1 w2 w3
              have hq1 := go_mono _ _ _ _ _ _ hk1
              have H3 := put (H2.out W3 k1 hk1 hJ4 hb3)
              have HE := put hk1
              clear H2 hk1 hJ4
              gi_wp2_with fail
              refine H3.out.mono ?_
              clear H3
              rintro e W4 (⟨k2, hk2', rfl, hJ5, hb4⟩ | ⟨hk2', rfl, hx4⟩)
              · have hk5 := hk4.but hm4 hb4
                have hm5 := (hb4.2 _ hk4.lt hm4).2
                have hq2 := go_mono _ _ _ _ _ _ hk2'
                have HF := put (HG.out.trans (by rw [HE.out, Option.bind_some, hk2', Option.bind_some]))
                clear hk2'
                gi_wp2
                go_roundw
                case rel => exact ⟨j + 1, k2, by omega, by go_num, HF, by omega, hJ5, hk5, put hm5, (hbel3.trans hb3).trans hb4⟩
                case measure => simp [intOf]; omega
              · have HF := put (HG.out.trans (show _ = none by rw [HE.out, Option.bind_some, hk2']; rfl))
                clear hk2'
                gi_wp2
                go_ret
                exact .inr ⟨HF.out, rfl, hx4⟩
            · have HF := put (HG.out.trans (show _ = none by rw [hk1]; rfl))
              clear hk1 H2
              gi_wp2
              go_ret
              exact .inr ⟨HF.out, rfl, hx3⟩
          · have h8' : (s.kind == 8) = true := by simpa using h8
            clear h8
            gi_wp2_with fail
            refine H1.out.mono ?_
            clear H1
            rintro e W3 (⟨k1, hk1, rfl, hJ4, hb3⟩ | ⟨hk1, rfl, hx3⟩)
            · have hks3 := hks.but hms hb3
              have hk4 := hk3.but hm3 hb3
              have hm4 := (hb3.2 _ hk3.lt hm3).2
              have v4 := hks3.cell 4
              have w0 := hk4.cell 0
              have w1 := hk4.cell 1
              have w2 := hk4.cell 2
              have w3 := hk4.cell 3
              simp at v4 w0 w1 w2 w3
              have hq1 := go_mono _ _ _ _ _ _ hk1
              have H3 := put (H2.out W3 k1 hk1 hJ4 hb3)
              have HE := put hk1
              clear H2 hk1 hJ4
              gi_wp2_with fail
              refine H3.out.mono ?_
              clear H3
              rintro e W4 (⟨k2, hk2', rfl, hJ5, hb4⟩ | ⟨hk2', rfl, hx4⟩)
              · have hk5 := hk4.but hm4 hb4
                have hm5 := (hb4.2 _ hk4.lt hm4).2
                have hq2 := go_mono _ _ _ _ _ _ hk2'
                have HF := put (HG.out.trans (by rw [HE.out, Option.bind_some, hk2', Option.bind_some]))
                clear hk2'
                gi_wp2
                go_roundw
                case rel => exact ⟨j + 1, k2, by omega, by go_num, HF, by omega, hJ5, hk5, put hm5, (hbel3.trans hb3).trans hb4⟩
                case measure => simp [intOf]; omega
              · have HF := put (HG.out.trans (show _ = none by rw [HE.out, Option.bind_some, hk2']; rfl))
                clear hk2'
                gi_wp2
                go_ret
                exact .inr ⟨HF.out, rfl, hx4⟩
            · have HF := put (HG.out.trans (show _ = none by rw [hk1]; rfl))
              clear hk1 H2
              gi_wp2
              go_ret
              exact .inr ⟨HF.out, rfl, hx3⟩
          · have h8' : (s.kind == 8) = false := by simpa using h8
            gi_wp2_with fail
            refine H1.out.mono ?_
            clear H1
            rintro e W3 (⟨k1, hk1, rfl, hJ4, hb3⟩ | ⟨hk1, rfl, hx3⟩)
            · have hks3 := hks.but hms hb3
              have hk4 := hk3.but hm3 hb3
              have hm4 := (hb3.2 _ hk3.lt hm3).2
              have v4 := hks3.cell 4
              have w0 := hk4.cell 0
              have w1 := hk4.cell 1
              have w2 := hk4.cell 2
              have w3 := hk4.cell 3
              simp at v4 w0 w1 w2 w3
              have hq1 := go_mono _ _ _ _ _ _ hk1
              have H3 := put (H2.out W3 k1 hk1 hJ4 hb3)
              have HE := put hk1
              clear H2 hk1 hJ4
              gi_wp2_with fail
              refine H3.out.mono ?_
              clear H3
              rintro e W4 (⟨k2, hk2', rfl, hJ5, hb4⟩ | ⟨hk2', rfl, hx4⟩)
              · have hk5 := hk4.but hm4 hb4
                have hm5 := (hb4.2 _ hk4.lt hm4).2
                have hq2 := go_mono _ _ _ _ _ _ hk2'
                have HF := put (HG.out.trans (by rw [HE.out, Option.bind_some, hk2', Option.bind_some]))
                clear hk2'
                gi_wp2
                go_roundw
                case rel => exact ⟨j + 1, k2, by omega, by go_num, HF, by omega, hJ5, hk5, put hm5, (hbel3.trans hb3).trans hb4⟩
                case measure => simp [intOf]; omega
              · have HF := put (HG.out.trans (show _ = none by rw [HE.out, Option.bind_some, hk2']; rfl))
                clear hk2'
                gi_wp2
                go_ret
                exact .inr ⟨HF.out, rfl, hx4⟩
            · have HF := put (HG.out.trans (show _ = none by rw [hk1]; rfl))
              clear hk1 H2
              gi_wp2
              go_ret
              exact .inr ⟨HF.out, rfl, hx3⟩
      · have hfin := put (show go f (fuel + 1) block b k = some q by rw [hgo.out, List.drop_of_length_le (by rw [hr.1]; omega), go_nil])
        gi_wp2
        go_ret
        exact .inl ⟨q, hfin.out, rfl, hJq, hbel⟩

end Go.Proofs.Ytaogdaoiijmmhaa

/-
  How many steps are enough: the reference's and the program's TicksFor, each against one plain answer.
-/
import Derived.Test.YtaogdaoiijmmhaaSitI
import Derived.Test.YtaogdaoiijmmhaaPEq4
import Derived.Test.YtaogdaoiijmmhaaSpP
import Derived.Deep.RegionLaw
namespace Go.Proofs.Ytaogdaoiijmmhaa
open Go.RowKit Exs

theorem prog_go {fs : List Fc} (h : progB fs = true) {f : Fc} (hf : f ∈ fs) : go f f.stmts.length f.body false 0 = some f.stmts.length := by
  simp only [progB, Bool.and_eq_true, decide_eq_true_eq, List.all_eq_true] at h
  have hb := h.2 f hf
  simp only [funcB, shapeB, Bool.and_eq_true] at hb
  have h2 := hb.1.2
  unfold placesB at h2
  simpa using h2
theorem prog_stmts {fs : List Fc} (h : progB fs = true) {f : Fc} (hf : f ∈ fs) : f.stmts.length ≤ 16 := by
  simp only [progB, Bool.and_eq_true, decide_eq_true_eq, List.all_eq_true] at h
  have hb := h.2 f hf
  simp only [funcB, shapeB, headB, Bool.and_eq_true, decide_eq_true_eq] at hb
  omega
theorem prog_some {fs : List Fc} (h : progB fs = true) : 1 ≤ fs.length ∧ fs.length ≤ 5 := by
  simp only [progB, Bool.and_eq_true, decide_eq_true_eq] at h
  exact h.1.1
theorem prog_sites {fs : List Fc} (h : progB fs = true) {f : Fc} (hf : f ∈ fs) : (sitesL f).length ≤ 16 := by
  have h1 := prog_stmts h hf
  have h2 := sitesFrom_length f.stmts 0
  unfold sitesL
  omega

/-- The greatest number of sites that one of the functions has. -/
def mostS (fs : List Fc) : Nat := fs.foldl (fun m f => max m (sitesL f).length) 0
theorem mostS_snoc (fs : List Fc) (f : Fc) : mostS (fs ++ [f]) = max (mostS fs) (sitesL f).length := by
  unfold mostS
  rw [List.foldl_append]
  rfl
theorem mostS_take {fs : List Fc} {k : Nat} {f : Fc} (h : fs[k]? = some f) : mostS (fs.take (k + 1)) = max (mostS (fs.take k)) (sitesL f).length := by
  rw [takeA_more h, mostS_snoc]
theorem mostS_le {m : Nat} : ∀ (k : Nat) {fs : List Fc}, (∀ f ∈ fs, (sitesL f).length ≤ m) → mostS (fs.take k) ≤ m
  | 0, fs, _ => by simp [mostS]
  | k + 1, fs, h => by
    cases hk : fs[k]? with
    | none =>
      have hl : fs.length ≤ k := by
        rcases Nat.lt_or_ge k fs.length with h' | h'
        · rw [List.getElem?_eq_getElem h'] at hk; cases hk
        · exact h'
      have e : fs.take (k + 1) = fs.take k := by rw [List.take_of_length_le (by omega), List.take_of_length_le hl]
      rw [e]
      exact mostS_le k h
    | some f =>
      rw [mostS_take hk]
      have h1 := mostS_le k h
      have h2 := h f (mem_of_at hk)
      omega

def tfAns (fs : List Fc) (fuel : Int) : Int × Bool :=
  if progB fs = true ∧ 0 ≤ fuel ∧ fuel ≤ 600 then (if (fuel + 1) * (30 + (mostS fs : Int)) > 60000 then (0, false) else ((fuel + 1) * (30 + (mostS fs : Int)), true)) else (0, false)
theorem tf_no {fs : List Fc} {fuel : Int} (h : ¬ (progB fs = true ∧ 0 ≤ fuel ∧ fuel ≤ 600)) : tfAns fs fuel = (0, false) := by
  unfold tfAns; rw [if_neg h]
theorem tf_yes {fs : List Fc} {fuel : Int} (h : progB fs = true ∧ 0 ≤ fuel ∧ fuel ≤ 600) : tfAns fs fuel = (if (fuel + 1) * (30 + (mostS fs : Int)) > 60000 then (0, false) else ((fuel + 1) * (30 + (mostS fs : Int)), true)) := by
  unfold tfAns; rw [if_pos h]
theorem tf_room {m : Nat} {fuel : Int} (hm : m ≤ 16) (h0 : 0 ≤ fuel) (h1 : fuel ≤ 600) : 0 ≤ (fuel + 1) * (30 + (m : Int)) ∧ (fuel + 1) * (30 + (m : Int)) ≤ 601 * 46 := by
  constructor
  · exact Int.mul_nonneg (by omega) (by omega)
  · exact Int.mul_le_mul (by omega) (by omega) (by omega) (by omega)

set_option maxHeartbeats 1000000 in
set_option maxRecDepth 100000 in
theorem specTicksFor_any (A : Option Addr) (n c : Nat) (fs : List Fc) (fuel : Int) (w : World) (hr : ReadsF w w.heap.size A n fs) (hs : SmallP fs) :
    Calls Try.prog 11 #[.agg #[.slice A n c], .int .i64 fuel] w fun e w' => e = .returned (.tuple #[.int .i64 (tfAns fs fuel).1, .bool (tfAns fs fuel).2]) ∧ Below w.heap.size w w' := by
  have hb0 : Below w.heap.size w (w.alloc (.cells #[.slice A n c] 39)) := (Below.refl _ _).alloc (Nat.le_refl _) _
  have hk0 := Keep.new w #[.slice A n c] 39
  have hl2 : n ≤ 1048576 := by rw [← hr.1]; exact hs.1
  have HL := put hr.1
  go_enter Try.func11, Try.ntmps11
  go_wp2_with fail
  refine (specGoodProg_any A n c fs _ (hr.now hb0) hs).mono ?_
  rw [progS_eq]
  rintro e w1 ⟨rfl, hb1⟩
  have b1 : Below w.heap.size w w1 := hb0.trans (hb1.mono hb0.size)
  have k1 := hk0.below hb1
  have y := k1.cell 0
  simp at y
  clear hb0 hk0 hb1
  cases hg : progB fs with
  | false =>
    have hf := put (tf_no (fs := fs) (fuel := fuel) (by rw [hg]; simp))
    clear hg
    go_wp2
    go_ret2
    exact ⟨by rw [hf.out]; rfl, b1⟩
  | true =>
    cases hin : within fuel 0 600 with
    | false =>
      have hf := put (tf_no (fs := fs) (fuel := fuel) (fun h => by rw [(within_iff _ _ _).2 h.2] at hin; cases hin))
      clear hg
      go_wp2_with (go_at_call 20; refine (l1In_any _ _ _ _).mono ?_; rintro e w' ⟨rfl, rfl⟩; rw [hin])
      go_ret2
      exact ⟨by rw [hf.out]; rfl, b1⟩
    | true =>
      have hfu := (within_iff _ _ _).1 hin
      have HY := put (tf_yes (fs := fs) (fuel := fuel) ⟨hg, hfu⟩)
      have HG := put hg
      have HS : ∀ f ∈ fs, (sitesL f).length ≤ 16 := fun f hf => prog_sites hg hf
      have HSI := put HS
      clear HS hg
      go_wp2_with (go_at_call 20; refine (l1In_any _ _ _ _).mono ?_; rintro e w' ⟨rfl, rfl⟩; rw [hin])
      clear hin
      go_loopw [6, 21] (fun v i wr => ∃ k : Nat, k ≤ n ∧ v = .int .i64 (mostS (fs.take k) : Nat) ∧ i = .int .i64 k ∧ Below w.heap.size w wr) (fun _ i _ => n - (intOf i).toNat)
      case atStart => exact ⟨0, Nat.zero_le _, rfl, rfl, b1⟩
      case round =>
        obtain ⟨k, hk, rfl, rfl, hbel⟩ := hrel
        clear y k1 b1
        by_cases hlt : k < n
        · obtain ⟨b, off, f, B1, m1, d1, B2, m2, d2, hA, hb, g0, g1, g2, g3, r1, r2, hx⟩ := (hr.below hbel).at_ hlt
          subst hA
          have hsf := hs.2 _ (mem_of_at hx.out)
          have HT := put (mostS_take hx.out)
          have HLL := put (show (sitesL f).length ≤ 16 from HSI.out f (mem_of_at hx.out))
          have hbA := hbel.alloc hbel.size (.cells #[.int .i64 f.params, .int .i64 f.vars, .slice B1 m1 d1, .slice B2 m2 d2] 51)
          have hkA := Keep.new wr #[.int .i64 f.params, .int .i64 f.vars, .slice B1 m1 d1, .slice B2 m2 d2] 51
          have hfA : IsFc _ _ f B1 m1 B2 m2 := (IsFc.more ⟨r1, r2⟩ hbel.size).now ((Below.refl _ wr).alloc (Nat.le_refl _) (.cells #[.int .i64 f.params, .int .i64 f.vars, .slice B1 m1 d1, .slice B2 m2 d2] 51))
          have hm2 : m2 ≤ 1000000 := by have := hfA.stmts.1; have := prog_stmts HG.out (mem_of_at hx.out); omega
          have H1 := put (l3Sites_any f B1 m1 d1 B2 m2 d2 _ hfA hm2)
          unfold fcV at H1
          have z0 := hkA.cell 0
          have z1 := hkA.cell 1
          have z2 := hkA.cell 2
          have z3 := hkA.cell 3
          simp at z0 z1 z2 z3
          clear r1 r2 hfA hsf hkA hx
          go_wp2_with fail
          refine H1.out.mono ?_
          rintro e w2 ⟨v, rfl, nu, hb2⟩
          have b2 := hbA.trans (hb2.mono hbA.size)
          obtain ⟨Av, cv, rfl, _⟩ := nu.reads
          clear H1 z0 z1 z2 z3 nu hb2 hbA g0 g1 g2 g3
          go_wp2_with (go_at_call 21; refine (l1Most_any _ _ _).mono ?_; rintro e w' ⟨rfl, rfl⟩)
          go_roundw
          case rel => exact ⟨k + 1, by omega, by rw [HT.out]; congr 1; omega, by go_num, b2⟩
          case measure => simp [intOf]; omega
        · have hfin := put (show fs.take k = fs from List.take_of_length_le (by have := HL.out; omega))
          have hm16 : mostS fs ≤ 16 := by have := mostS_le (m := 16) k HSI.out; rwa [hfin.out] at this
          rw [hfin.out]
          obtain ⟨M, hM⟩ : ∃ M : Nat, mostS fs = M := ⟨_, rfl⟩
          rw [hM] at HY hm16 ⊢
          have hroom := tf_room hm16 hfu.1 hfu.2
          obtain ⟨T, hT⟩ : ∃ T : Int, (fuel + 1) * (30 + (M : Int)) = T := ⟨_, rfl⟩
          have hw1 : IntKind.i64.wrap (fuel + 1) = fuel + 1 := IntWalk.i64_in _ ⟨by omega, by omega⟩
          have hw2 : IntKind.i64.wrap (30 + (M : Int)) = 30 + (M : Int) := IntWalk.i64_in _ ⟨by omega, by omega⟩
          have hw3 : IntKind.i64.wrap ((fuel + 1) * (30 + (M : Int))) = T := by rw [IntWalk.i64_in _ ⟨by omega, by omega⟩, hT]
          rw [hT] at HY hroom
          by_cases hbig : T > 60000
          · rw [if_pos hbig] at HY
            have hbig2 : 60000 < T := hbig
            go_wp2
            go_ret2
            exact ⟨by rw [HY.out]; rfl, hbel⟩
          · rw [if_neg hbig] at HY
            have hbig2 : ¬ 60000 < T := hbig
            go_wp2
            go_ret2
            exact ⟨by rw [HY.out]; rfl, hbel⟩

/-- As a number is less than another, the same, or greater. -/
def cmpI (a b : Int) : Int := if a < b then -1 else if a > b then 1 else 0
set_option maxHeartbeats 1000000 in
set_option maxRecDepth 100000 in
theorem isNaN_any (a : Int) (w : World) : Calls Try.prog 51 #[.int .i64 a] w fun e w' => e = .returned (.bool false) ∧ w = w' := by
  go_enter Try.func51, Try.ntmps51
  go_wp2
  go_ret
  exact ⟨by simp, rfl⟩
set_option maxHeartbeats 1000000 in
set_option maxRecDepth 100000 in
theorem compare_any (a b : Int) (w : World) : Calls Try.prog 38 #[.int .i64 a, .int .i64 b] w fun e w' => e = .returned (.int .i64 (cmpI a b)) ∧ w = w' := by
  by_cases h : a < b
  · have HC := put (show cmpI a b = -1 by unfold cmpI; rw [if_pos h])
    go_enter Try.func38, Try.ntmps38
    go_wp2_with (go_at_call 51; refine (isNaN_any _ _).mono ?_; rintro e w' ⟨rfl, rfl⟩)
    go_ret
    exact ⟨ret_int HC.out.symm, rfl⟩
  · by_cases h2 : a > b
    · have HC := put (show cmpI a b = 1 by unfold cmpI; rw [if_neg h, if_pos h2])
      have h3 : b < a := h2
      go_enter Try.func38, Try.ntmps38
      go_wp2_with (go_at_call 51; refine (isNaN_any _ _).mono ?_; rintro e w' ⟨rfl, rfl⟩)
      go_ret
      exact ⟨ret_int HC.out.symm, rfl⟩
    · have HC := put (show cmpI a b = 0 by unfold cmpI; rw [if_neg h, if_neg h2])
      have h3 : ¬ b < a := h2
      clear h2
      go_enter Try.func38, Try.ntmps38
      go_wp2_with (go_at_call 51; refine (isNaN_any _ _).mono ?_; rintro e w' ⟨rfl, rfl⟩)
      go_ret
      exact ⟨ret_int HC.out.symm, rfl⟩

set_option maxHeartbeats 1000000 in
set_option maxRecDepth 100000 in
theorem compareSites_any (f : Fc) (A1 : Option Addr) (n1 c1 : Nat) (A2 : Option Addr) (n2 c2 : Nat) (g : Fc) (B1 : Option Addr) (m1 d1 : Nat) (B2 : Option Addr) (m2 d2 : Nat) (w : World)
    (hf : IsFc w w.heap.size f A1 n1 A2 n2) (hsf : SmallF f) (hgf : go f f.stmts.length f.body false 0 = some f.stmts.length)
    (hg : IsFc w w.heap.size g B1 m1 B2 m2) (hsg : SmallF g) (hgg : go g g.stmts.length g.body false 0 = some g.stmts.length) :
    Calls Try.prog 26 #[fcV f A1 n1 c1 A2 n2 c2, fcV g B1 m1 d1 B2 m2 d2] w fun e w' => e = .returned (.int .i64 (cmpI (sitesL f).length (sitesL g).length)) ∧ Below w.heap.size w w' := by
  have hb0 : Below w.heap.size w ((w.alloc (.cells #[.int .i64 f.params, .int .i64 f.vars, .slice A1 n1 c1, .slice A2 n2 c2] 51)).alloc (.cells #[.int .i64 g.params, .int .i64 g.vars, .slice B1 m1 d1, .slice B2 m2 d2] 51)) := ((Below.refl _ _).alloc (Nat.le_refl _) _).alloc (by simp) _
  have hx0 : Keep ((w.alloc (.cells #[.int .i64 f.params, .int .i64 f.vars, .slice A1 n1 c1, .slice A2 n2 c2] 51)).alloc (.cells #[.int .i64 g.params, .int .i64 g.vars, .slice B1 m1 d1, .slice B2 m2 d2] 51)) w.heap.size #[.int .i64 f.params, .int .i64 f.vars, .slice A1 n1 c1, .slice A2 n2 c2] 51 := (Keep.new _ _ _).alloc _
  have hy0 : Keep ((w.alloc (.cells #[.int .i64 f.params, .int .i64 f.vars, .slice A1 n1 c1, .slice A2 n2 c2] 51)).alloc (.cells #[.int .i64 g.params, .int .i64 g.vars, .slice B1 m1 d1, .slice B2 m2 d2] 51)) (w.heap.size + 1) #[.int .i64 g.params, .int .i64 g.vars, .slice B1 m1 d1, .slice B2 m2 d2] 51 := by
    have := Keep.new (w.alloc (.cells #[.int .i64 f.params, .int .i64 f.vars, .slice A1 n1 c1, .slice A2 n2 c2] 51)) #[.int .i64 g.params, .int .i64 g.vars, .slice B1 m1 d1, .slice B2 m2 d2] 51
    rw [World.size_alloc] at this
    exact this
  have HF := put (fun W (hW : Below w.heap.size w W) => sitesIn_any f A1 n1 c1 A2 n2 c2 W (hf.now hW) hsf hgf)
  have HG := put (fun W (hW : Below w.heap.size w W) => sitesIn_any g B1 m1 d1 B2 m2 d2 W (hg.now hW) hsg hgg)
  have LF := put (show (sitesL f).length ≤ 1048576 by have := sitesFrom_length f.stmts 0; have := hsf.2.1; unfold sitesL; omega)
  have LG := put (show (sitesL g).length ≤ 1048576 by have := sitesFrom_length g.stmts 0; have := hsg.2.1; unfold sitesL; omega)
  unfold fcV at HF HG ⊢
  clear hf hg hsf hsg hgf hgg
  generalize sitesL f = xs at HF LF ⊢
  generalize sitesL g = ys at HG LG ⊢
  go_enter Try.func26, Try.ntmps26
  go_wp2_with fail
  generalize hW : (w.alloc (.cells #[.int .i64 f.params, .int .i64 f.vars, .slice A1 n1 c1, .slice A2 n2 c2] 51)).alloc (.cells #[.int .i64 g.params, .int .i64 g.vars, .slice B1 m1 d1, .slice B2 m2 d2] 51) = W0 at hb0 hx0 hy0 ⊢
  clear hW
  have x0 := hx0.cell 0
  have x1 := hx0.cell 1
  have x2 := hx0.cell 2
  have x3 := hx0.cell 3
  simp at x0 x1 x2 x3
  have y0 := hy0.cell 0
  have y1 := hy0.cell 1
  have y2 := hy0.cell 2
  have y3 := hy0.cell 3
  simp at y0 y1 y2 y3
  go_region_law (first
    | (go_simp; go_at_call 38; refine (compare_any _ _ _).mono ?_; rintro e wc ⟨rfl, rfl⟩)
    | (go_simp; go_at_call 27; refine (HG.out w3 (hb0.drew.trans (hb3.mono hb0.size))).mono ?_; rintro e w4 ⟨v4, rfl, nu4, hb4⟩; obtain ⟨Aw, cw, rfl, _⟩ := nu4.reads)
    | (go_simp; go_at_call 27; refine (HF.out W0.drew hb0.drew).mono ?_; rintro e w3 ⟨v3, rfl, nu3, hb3⟩; obtain ⟨Av, cv, rfl, _⟩ := nu3.reads; have hy3 := Keep.below (w := W0.drew) hy0 hb3; have v0 := hy3.cell 0; have v1 := hy3.cell 1; have v2 := hy3.cell 2; have v3 := hy3.cell 3; simp at v0 v1 v2 v3)
    | fail)
  all_goals (
    go_wp2
    go_ret
    exact ⟨rfl, (hb0.drew.trans (hb3.mono hb0.size)).trans (hb4.mono (Nat.le_trans hb0.size hb3.size))⟩)

end Go.Proofs.Ytaogdaoiijmmhaa

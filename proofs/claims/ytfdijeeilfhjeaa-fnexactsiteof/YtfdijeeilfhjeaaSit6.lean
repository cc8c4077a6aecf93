/-
  The number of a statement's site: both sides.
-/
import Derived.Test.YtfdijeeilfhjeaaSitI
import Derived.Test.YtfdijeeilfhjeaaRec
import Derived.Test.YtfdijeeilfhjeaaPEq4
import Derived.Test.YtfdijeeilfhjeaaSpP
namespace Go.Proofs.Ytfdijeeilfhjeaa
open Go.RowKit Exs

/-- The first place of a number in a list, -1 where it is not in it. -/
def ixOf : List Int → Int → Int
  | [], _ => -1
  | y :: r, x => if y = x then 0 else if ixOf r x < 0 then -1 else ixOf r x + 1
theorem ixOf_at : ∀ {l : List Int} {k : Nat} {x : Int}, (∀ y ∈ l.take k, y ≠ x) → l[k]? = some x → ixOf l x = (k : Int)
  | [], _, _, _, h => by simp at h
  | y :: r, 0, x, _, h => by simp at h; simp [ixOf, h]
  | y :: r, k + 1, x, hn, h => by
    have h1 := ixOf_at (l := r) (k := k) (x := x) (fun z hz => hn z (by simp [hz])) (by simpa using h)
    have h2 : y ≠ x := hn y (by simp)
    unfold ixOf
    rw [if_neg h2, h1, if_neg (by omega)]
    omega
theorem ixOf_no : ∀ {l : List Int} {x : Int}, (∀ y ∈ l, y ≠ x) → ixOf l x = -1
  | [], _, _ => rfl
  | y :: r, x, hn => by
    have h1 := ixOf_no (l := r) (x := x) (fun z hz => hn z (by simp [hz]))
    unfold ixOf
    rw [if_neg (hn y (by simp)), h1]
    rfl
theorem ixOf_bounds : ∀ (l : List Int) (x : Int), -1 ≤ ixOf l x ∧ ixOf l x < l.length ∨ ixOf l x = -1
  | [], _ => .inr rfl
  | y :: r, x => by
    have h1 := ixOf_bounds r x
    unfold ixOf
    split
    · left; constructor <;> simp <;> omega
    · split
      · exact .inr rfl
      · left; simp only [List.length_cons]; omega
theorem no_more {l : List Int} {k : Nat} {x y : Int} (h : ∀ z ∈ l.take k, z ≠ x) (hk : l[k]? = some y) (hy : y ≠ x) : ∀ z ∈ l.take (k + 1), z ≠ x := fun z hz => by
  rw [takeA_more hk] at hz
  rcases List.mem_append.1 hz with hz | hz
  · exact h z hz
  · simp at hz; subst hz; exact hy

set_option maxHeartbeats 1000000 in
set_option maxRecDepth 100000 in
theorem index_any (A : Option Addr) (n c : Nat) (l : List Int) (x : Int) (w : World) (hr : Reads w w.heap.size .i64 A n l) (hn : n ≤ 1048576) :
    Calls Try.prog 56 #[.slice A n c, .int .i64 x] w fun e w' => e = .returned (.int .i64 (ixOf l x)) ∧ w = w' := by
  have HL := put hr.1
  go_enter Try.func56, Try.ntmps56
  go_wp2
  go_loopw [8] (fun i wr => ∃ k : Nat, k ≤ n ∧ i = .int .i64 k ∧ Hid (∀ y ∈ l.take k, y ≠ x) ∧ wr = w) (fun i _ => n - (intOf i).toNat)
  case atStart => exact ⟨0, Nat.zero_le _, rfl, put (fun t h => by simp at h), rfl⟩
  case round =>
    obtain ⟨k, hk, rfl, hall, rfl⟩ := hrel
    by_cases hlt : k < n
    · obtain ⟨b, off, y, rfl, hb', hc1, hyt⟩ := hr.at_ hlt
      by_cases hy : y = x
      · subst hy
        have HA := put (ixOf_at hall.out hyt.out)
        go_wp2
        go_ret
        exact ⟨ret_int HA.out.symm, rfl⟩
      · have H2 := put (no_more hall.out hyt.out hy)
        have hy1 := beq_of hy
        have hy2 := beq_of (Ne.symm hy)
        clear hy
        go_wp2
        go_roundw
        case rel => exact ⟨k + 1, by omega, by go_num, H2, trivial⟩
        case measure => simp [intOf]; omega
    · have hfin := put (show l.take k = l from List.take_of_length_le (by have := HL.out; omega))
      have HA := put (ixOf_no (l := l) (x := x) (by have := hall.out; rwa [hfin.out] at this))
      go_wp2
      go_ret
      exact ⟨ret_int HA.out.symm, rfl⟩

set_option maxHeartbeats 1000000 in
set_option maxRecDepth 100000 in
theorem l6Site_any (f : Fc) (A1 : Option Addr) (n1 c1 : Nat) (A2 : Option Addr) (n2 c2 : Nat) (x : Int) (w : World) (hf : IsFc w w.heap.size f A1 n1 A2 n2) (hn : n2 ≤ 1000000) :
    Calls Try.prog 53 #[fcV f A1 n1 c1 A2 n2 c2, .int .i64 x] w fun e w' => e = .returned (.int .i64 (ixOf (sitesL f) x)) ∧ Below w.heap.size w w' := by
  have hb0 : Below w.heap.size w (w.alloc (.cells #[.int .i64 f.params, .int .i64 f.vars, .slice A1 n1 c1, .slice A2 n2 c2] 58)) := (Below.refl _ _).alloc (Nat.le_refl _) _
  have HL := put (show (sitesL f).length ≤ 1000000 by have := sitesFrom_length f.stmts 0; have := hf.stmts.1; unfold sitesL; omega)
  have H1 := put (l3Sites_any f A1 n1 c1 A2 n2 c2 _ (hf.now hb0) hn)
  unfold fcV at H1 ⊢
  clear hf
  generalize sitesL f = l at H1 HL ⊢
  go_enter Try.func53, Try.ntmps53
  go_wp2_with fail
  refine H1.out.mono ?_
  rintro e w1 ⟨v, rfl, nu, hb1⟩
  have b1 : Below w.heap.size w w1 := hb0.trans (hb1.mono hb0.size)
  obtain ⟨A, c, rfl, hr⟩ := nu.reads
  obtain ⟨n, hn0⟩ : ∃ n, l.length = n := ⟨_, rfl⟩
  rw [hn0] at hr ⊢
  have HN := put hn0
  have hn1 : n ≤ 1000000 := by have := HL.out; omega
  clear nu H1 hb0 hb1 hn0
  go_wp2
  go_loopw [10] (fun i wr => ∃ k : Nat, k ≤ n ∧ i = .int .i64 k ∧ Hid (∀ y ∈ l.take k, y ≠ x) ∧ wr = w1) (fun i _ => n - (intOf i).toNat)
  case atStart => exact ⟨0, Nat.zero_le _, rfl, put (fun t h => by simp at h), rfl⟩
  case round =>
    obtain ⟨k, hk, rfl, hall, rfl⟩ := hrel
    by_cases hlt : k < n
    · obtain ⟨b, off, y, rfl, hb', hc1, hyt⟩ := hr.at_ hlt
      by_cases hy : y = x
      · subst hy
        have HA := put (ixOf_at hall.out hyt.out)
        go_wp2
        go_ret
        exact ⟨ret_int HA.out.symm, b1⟩
      · have H2 := put (no_more hall.out hyt.out hy)
        have hy1 := beq_of hy
        clear hy
        go_wp2
        go_roundw
        case rel => exact ⟨k + 1, by omega, by go_num, H2, trivial⟩
        case measure => simp [intOf]; omega
    · have hfin := put (show l.take k = l from List.take_of_length_le (by have := HN.out; omega))
      have HA := put (ixOf_no (l := l) (x := x) (by have := hall.out; rwa [hfin.out] at this))
      go_wp2
      go_ret
      exact ⟨ret_int HA.out.symm, b1⟩

theorem prog_go {fs : List Fc} (h : progB fs = true) {f : Fc} (hf : f ∈ fs) : go f f.stmts.length f.body false 0 = some f.stmts.length := by
  simp only [progB, Bool.and_eq_true, decide_eq_true_eq, List.all_eq_true] at h
  have hb := h.2 f hf
  simp only [funcB, shapeB, Bool.and_eq_true] at hb
  have h2 := hb.1.2
  unfold placesB at h2
  simpa using h2
theorem prog_stmts {fs : List Fc} (h : progB fs = true) {f : Fc} (hf : f ∈ fs) : f.stmts.length ≤ 16 := by
  simp only [progB, Bool.and_eq_true, decide_eq_true_eq, List.all_eq_true] at h
  have hb := h.2 f hf
  simp only [funcB, shapeB, headB, Bool.and_eq_true, decide_eq_true_eq] at hb
  omega

def soAns (fs : List Fc) (k st : Int) : Int × Bool := if hasF fs k then (match fs[k.toNat]? with | some f => if ixOf (sitesL f) st < 0 then (0, false) else (ixOf (sitesL f) st, true) | none => (0, false)) else (0, false)
theorem soAns_no {fs : List Fc} {k st : Int} (h : hasF fs k = false) : soAns fs k st = (0, false) := by simp [soAns, h]
theorem soAns_at {fs : List Fc} {q : Nat} {st : Int} {f : Fc} (h : hasF fs (q : Int) = true) (hf : fs[q]? = some f) : soAns fs (q : Int) st = if ixOf (sitesL f) st < 0 then (0, false) else (ixOf (sitesL f) st, true) := by
  unfold soAns
  rw [if_pos h, Int.toNat_natCast, hf]

set_option maxHeartbeats 1000000 in
set_option maxRecDepth 100000 in
theorem siteOf_any (A : Option Addr) (n c : Nat) (fs : List Fc) (k st : Int) (w : World) (hr : ReadsF w w.heap.size A n fs) (hs : SmallP fs) :
    Calls Try.prog 16 #[.agg #[.slice A n c], .int .i64 k, .int .i64 st] w fun e w' => e = .returned (.tuple #[.int .i64 (soAns fs k st).1, .bool (soAns fs k st).2]) ∧ Below w.heap.size w w' := by
  have hb0 : Below w.heap.size w (w.alloc (.cells #[.slice A n c] 44)) := (Below.refl _ _).alloc (Nat.le_refl _) _
  have hk0 := Keep.new w #[.slice A n c] 44
  have hl2 : n ≤ 1048576 := by rw [← hr.1]; exact hs.1
  have HL := put hr.1
  go_enter Try.func16, Try.ntmps16
  go_wp2_with fail
  refine (hasFunc_any A n c fs k _ (hr.now hb0) hs).mono ?_
  rintro e w1 ⟨rfl, hb1⟩
  have b1 : Below w.heap.size w w1 := hb0.trans (hb1.mono hb0.size)
  have k1 := hk0.below hb1
  have y := k1.cell 0
  simp at y
  clear hb0 hk0 hb1
  cases hg : hasF fs k with
  | false =>
    have hf := put (soAns_no (st := st) hg)
    clear hg
    go_wp2
    go_ret2
    exact ⟨by rw [hf.out]; rfl, b1⟩
  | true =>
    have hg2 := hg
    unfold hasF at hg2
    simp only [Bool.and_eq_true, decide_eq_true_eq] at hg2
    rw [HL.out] at hg2
    obtain ⟨q, rfl⟩ : ∃ q : Nat, k = q := ⟨k.toNat, by omega⟩
    have hqn : q < n := by omega
    obtain ⟨b, off, f, B1, m1, d1, B2, m2, d2, hA, hb, g0, g1, g2, g3, r1, r2, hx⟩ := (hr.below b1).at_ hqn
    subst hA
    have HA := put (soAns_at (st := st) hg hx.out)
    have hsf := hs.2 _ (mem_of_at hx.out)
    have HC := put (fun W (hW : Below w1.heap.size w1 W) => sitesIn_any f B1 m1 d1 B2 m2 d2 W ((((IsFc.mk r1 r2).more b1.size).below hW).more hW.size) hsf (prog_go hg2.2 (mem_of_at hx.out)))
    have HLL := put (show (sitesL f).length ≤ 1048576 by have := sitesFrom_length f.stmts 0; have := hsf.2.1; unfold sitesL; omega)
    unfold fcV at HC
    clear hg hg2 hsf r1 r2
    go_wp2_with fail
    refine (HC.out w1 (Below.refl _ _)).mono ?_
    rintro e w2 ⟨v, rfl, nu, hb2⟩
    have b2 := b1.trans (hb2.mono b1.size)
    obtain ⟨Av, cv, rfl, hrv⟩ := nu.reads
    go_wp2_with fail
    have HI := put (index_any Av (sitesL f).length cv (sitesL f) st w2 hrv HLL.out)
    obtain ⟨z, hz0⟩ : ∃ z, ixOf (sitesL f) st = z := ⟨_, rfl⟩
    rw [hz0] at HA HI
    refine HI.out.mono ?_
    rintro e w3 ⟨rfl, rfl⟩
    by_cases hz : z < 0
    · have HB := put (show soAns fs (q : Int) st = (0, false) by rw [HA.out, if_pos hz])
      go_wp2
      go_ret2
      exact ⟨by rw [HB.out]; rfl, b2⟩
    · have HB := put (show soAns fs (q : Int) st = (z, true) by rw [HA.out, if_neg hz])
      replace hz : 0 ≤ z := by omega
      go_wp2
      go_ret2
      exact ⟨by rw [HB.out]; rfl, b2⟩

set_option maxHeartbeats 1000000 in
set_option maxRecDepth 100000 in
theorem specSiteOf_any (A : Option Addr) (n c : Nat) (fs : List Fc) (k st : Int) (w : World) (hr : ReadsF w w.heap.size A n fs) (hs : SmallP fs) :
    Calls Try.prog 14 #[.agg #[.slice A n c], .int .i64 k, .int .i64 st] w fun e w' => e = .returned (.tuple #[.int .i64 (soAns fs k st).1, .bool (soAns fs k st).2]) ∧ Below w.heap.size w w' := by
  have hb0 : Below w.heap.size w (w.alloc (.cells #[.slice A n c] 44)) := (Below.refl _ _).alloc (Nat.le_refl _) _
  have hk0 := Keep.new w #[.slice A n c] 44
  have hl2 : n ≤ 1048576 := by rw [← hr.1]; exact hs.1
  have HL := put hr.1
  have hw1 : IntKind.i64.wrap ((n : Int) - 1) = (n : Int) - 1 := IntWalk.i64_in _ ⟨by omega, by omega⟩
  go_enter Try.func14, Try.ntmps14
  go_wp2_with fail
  refine (specGoodProg_any A n c fs _ (hr.now hb0) hs).mono ?_
  rintro e w1 ⟨rfl, hb1⟩
  rw [progS_eq]
  have b1 : Below w.heap.size w w1 := hb0.trans (hb1.mono hb0.size)
  have k1 := hk0.below hb1
  have y := k1.cell 0
  simp at y
  clear hb0 hk0 hb1
  cases hg : progB fs with
  | false =>
    have hf := put (soAns_no (fs := fs) (k := k) (st := st) (by simp [hasF, hg]))
    clear hg
    go_wp2
    go_ret2
    exact ⟨by rw [hf.out]; rfl, b1⟩
  | true =>
    cases hin : within k 0 ((n : Int) - 1) with
    | false =>
      have hno : ¬ (0 ≤ k ∧ k < (n : Int)) := fun h => by have := (within_iff k 0 ((n : Int) - 1)).2 (by omega); rw [hin] at this; cases this
      have hf := put (soAns_no (fs := fs) (k := k) (st := st) (by unfold hasF; rw [HL.out]; simp [hno]))
      clear hg hno
      go_wp2_with fail
      refine (l1In_any _ _ _ _).mono ?_
      rintro e w' ⟨rfl, rfl⟩
      rw [hin]
      go_wp2
      go_ret2
      exact ⟨by rw [hf.out]; rfl, b1⟩
    | true =>
      have hin2 := (within_iff _ _ _).1 hin
      obtain ⟨q, rfl⟩ : ∃ q : Nat, k = q := ⟨k.toNat, by omega⟩
      have hqn : q < n := by omega
      obtain ⟨b, off, f, B1, m1, d1, B2, m2, d2, hA, hb, g0, g1, g2, g3, r1, r2, hx⟩ := hr.at_ hqn
      subst hA
      have HA := put (soAns_at (st := st) (show hasF fs (q : Int) = true by unfold hasF; rw [HL.out, hg]; simp [hqn]) hx.out)
      have hm2 : m2 ≤ 1000000 := by have h1 := prog_stmts hg (mem_of_at hx.out); rw [r2.1] at h1; omega
      have HC := put (fun W (hW : Below w.heap.size w W) => l6Site_any f B1 m1 d1 B2 m2 d2 st W ((IsFc.mk r1 r2).now hW) hm2)
      obtain ⟨z, hz0⟩ : ∃ z, ixOf (sitesL f) st = z := ⟨_, rfl⟩
      rw [hz0] at HA HC
      have HG := put (And.intro g0 (And.intro g1 (And.intro g2 g3)))
      unfold fcV at HC
      clear hg hin2 r1 r2 g0 g1 g2 g3
      have g0 := (b1.cell (p := ⟨b, off + q * 4, none⟩) hb).trans HG.out.1
      have g1 := (b1.cell (p := ⟨b, off + q * 4 + 1, none⟩) hb).trans HG.out.2.1
      have g2 := (b1.cell (p := ⟨b, off + q * 4 + 2, none⟩) hb).trans HG.out.2.2.1
      have g3 := (b1.cell (p := ⟨b, off + q * 4 + 3, none⟩) hb).trans HG.out.2.2.2
      go_wp2_with fail
      refine (l1In_any _ _ _ _).mono ?_
      rintro e w' ⟨rfl, rfl⟩
      rw [hin]
      go_wp2_with fail
      refine (HC.out w1 b1).mono ?_
      rintro e w2 ⟨rfl, hb2⟩
      have b2 := b1.trans (hb2.mono b1.size)
      have k2 := k1.below hb2
      by_cases hz : z < 0
      · have HB := put (show soAns fs (q : Int) st = (0, false) by rw [HA.out, if_pos hz])
        clear g0 g1 g2 g3 y
        go_wp2
        go_ret2
        exact ⟨by rw [HB.out]; rfl, b2⟩
      · have HB := put (show soAns fs (q : Int) st = (z, true) by rw [HA.out, if_neg hz])
        replace hz : 0 ≤ z := by omega
        clear g0 g1 g2 g3 y
        have y := k2.cell 0
        simp at y
        have g0 := (b2.cell (p := ⟨b, off + q * 4, none⟩) hb).trans HG.out.1
        have g1 := (b2.cell (p := ⟨b, off + q * 4 + 1, none⟩) hb).trans HG.out.2.1
        have g2 := (b2.cell (p := ⟨b, off + q * 4 + 2, none⟩) hb).trans HG.out.2.2.1
        have g3 := (b2.cell (p := ⟨b, off + q * 4 + 3, none⟩) hb).trans HG.out.2.2.2
        go_wp2_with fail
        refine (HC.out w2 b2).mono ?_
        rintro e w3 ⟨rfl, hb3⟩
        go_wp2
        go_ret2
        exact ⟨by rw [HB.out]; rfl, b2.trans (hb3.mono b2.size)⟩

end Go.Proofs.Ytfdijeeilfhjeaa

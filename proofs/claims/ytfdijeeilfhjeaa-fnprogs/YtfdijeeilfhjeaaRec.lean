/-
  MayRecover on both sides: contracts.
-/
import Derived.Test.YtfdijeeilfhjeaaPEq4
namespace Go.Proofs.Ytfdijeeilfhjeaa
open Go.RowKit Exs

def tokR (t : Token) : Bool := decide (t.1 = 10)
def stR (s : St) : Bool := s.ex.any tokR
def recB (f : Fc) : Bool := f.stmts.any stR
def hasF (fs : List Fc) (fn : Int) : Bool := decide (0 ≤ fn ∧ fn < fs.length) && progB fs
def recAns (fs : List Fc) (fn : Int) : Bool × Bool := if hasF fs fn then (match fs[fn.toNat]? with | some f => recB f | none => false, true) else (false, false)
theorem any_none {α : Type} {p : α → Bool} {xs : List α} {k : Nat} {x : α} (h : xs[k]? = some x) (ha : (xs.take k).any p = false) (hx : p x = false) : (xs.take (k + 1)).any p = false := by
  rw [takeA_more h]; simp [List.any_append, ha, hx]
theorem any_yes {α : Type} {p : α → Bool} {xs : List α} {k : Nat} {x : α} (h : xs[k]? = some x) (hx : p x = true) : xs.any p = true := by
  rw [List.any_eq_true]; exact ⟨x, mem_of_at h, hx⟩
theorem retB2 {a a' b b' : Bool} (h : (a, b) = (a', b')) : Ending.returned (.tuple #[.bool a, .bool b]) = .returned (.tuple #[.bool a', .bool b']) := by cases h; rfl

set_option maxHeartbeats 400000 in
theorem isRecover_any (op x : Int) (w : World) : Calls Try.prog 72 #[.agg #[.int .i64 op, .int .i64 x]] w fun e w' => e = .returned (.bool (tokR (op, x))) ∧ Below w.heap.size w w' := by
  go_enter Try.func72, Try.ntmps72
  go_wp2
  go_ret
  exact ⟨ret_bool (by unfold tokR; rw [Bool.eq_iff_iff]; simp), (Below.refl _ _).alloc (Nat.le_refl _) _⟩

set_option maxHeartbeats 400000 in
set_option maxRecDepth 100000 in
theorem indexFunc_any (A : Option Addr) (n c : Nat) (ts : List Token) (w : World) (hr : ReadsT w w.heap.size A n ts) (hn : n ≤ 1048576) :
    Calls Try.prog 95 #[.slice A n c, .func (.func 72) #[] #[]] w fun e w' => ∃ r : Int, e = .returned (.int .i64 r) ∧ (decide (0 ≤ r) = ts.any tokR) ∧ Below w.heap.size w w' := by
  go_enter Try.func95, Try.ntmps95
  go_wp2
  go_loopw [8] (fun i wr => ∃ k : Nat, k ≤ n ∧ i = .int .i64 k ∧ Hid ((ts.take k).any tokR = false) ∧ Below w.heap.size w wr) (fun i _ => n - (intOf i).toNat)
  case atStart => exact ⟨0, Nat.zero_le _, rfl, put (by simp), Below.refl _ _⟩
  case round =>
    obtain ⟨k, hk, rfl, hno, hbel⟩ := hrel
    by_cases hlt : k < n
    · obtain ⟨b, off, op, x, rfl, hb, hc1, hc2, hx⟩ := (hr.below hbel).at_ hlt
      go_wp2_with fail
      refine (isRecover_any op x _).mono ?_
      rintro e w1 ⟨rfl, hb1⟩
      have hbel1 : Below w.heap.size w w1 := hbel.trans (hb1.mono hbel.size)
      cases ht : tokR (op, x) with
      | true =>
        have hy := put (any_yes hx.out ht)
        clear ht hc1 hc2
        go_wp2
        go_ret
        exact ⟨k, rfl, by rw [hy.out]; simp, hbel1⟩
      | false =>
        have hy := put (any_none hx.out hno.out ht)
        clear ht hc1 hc2
        go_wp2
        go_roundw
        case rel => exact ⟨k + 1, by omega, by go_num, hy, hbel1⟩
        case measure => simp [intOf]; omega
    · have hfin := put (show ts.any tokR = false by have := hno.out; rwa [List.take_of_length_le (by rw [hr.1]; omega)] at this)
      go_wp2
      go_ret
      exact ⟨-1, rfl, by rw [hfin.out]; rfl, hbel⟩

set_option maxHeartbeats 400000 in
theorem containsFunc_any (A : Option Addr) (n c : Nat) (ts : List Token) (w : World) (hr : ReadsT w w.heap.size A n ts) (hn : n ≤ 1048576) :
    Calls Try.prog 71 #[.slice A n c, .func (.func 72) #[] #[]] w fun e w' => e = .returned (.bool (ts.any tokR)) ∧ Below w.heap.size w w' := by
  go_enter Try.func71, Try.ntmps71
  go_wp2_with fail
  refine (indexFunc_any A n c ts _ hr hn).mono ?_
  rintro e w1 ⟨r, rfl, hx, hb1⟩
  have HX := put hx
  clear hx
  go_wp2
  go_ret
  exact ⟨ret_bool HX.out, hb1⟩

set_option maxHeartbeats 1000000 in
theorem hasFunc_any (A : Option Addr) (n c : Nat) (fs : List Fc) (fn : Int) (w : World) (hr : ReadsF w w.heap.size A n fs) (hs : SmallP fs) :
    Calls Try.prog 55 #[.agg #[.slice A n c], .int .i64 fn] w fun e w' => e = .returned (.bool (hasF fs fn)) ∧ Below w.heap.size w w' := by
  have hl := hr.1
  have hb0 : Below w.heap.size w (w.alloc (.cells #[.slice A n c] 44)) := (Below.refl _ _).alloc (Nat.le_refl _) _
  rcases (show fn < 0 ∨ (0 ≤ fn ∧ (n : Int) ≤ fn) ∨ (0 ≤ fn ∧ fn < (n : Int)) by omega) with h | ⟨h0, h1⟩ | ⟨h0, h1⟩
  · have hf := put (show hasF fs fn = false by unfold hasF; rw [hl]; simp; omega)
    clear hl
    go_enter Try.func55, Try.ntmps55
    go_wp2
    go_ret
    exact ⟨ret_bool hf.out.symm, hb0⟩
  · have hf := put (show hasF fs fn = false by unfold hasF; rw [hl]; simp; omega)
    clear hl
    go_enter Try.func55, Try.ntmps55
    go_wp2
    go_ret
    exact ⟨ret_bool hf.out.symm, hb0⟩
  · have hf := put (show hasF fs fn = progB fs by unfold hasF; rw [hl]; simp [h0, h1])
    clear hl
    go_enter Try.func55, Try.ntmps55
    go_wp2_with fail
    refine (goodProg_any A n c fs _ (hr.now hb0) hs).mono ?_
    rintro e w1 ⟨rfl, hb1⟩
    go_wp2
    go_ret
    exact ⟨ret_bool hf.out.symm, hb0.trans (hb1.mono hb0.size)⟩

set_option maxHeartbeats 2000000 in
set_option maxRecDepth 100000 in
theorem mayRecover_any (A : Option Addr) (n c : Nat) (fs : List Fc) (fn : Int) (w : World) (hr : ReadsF w w.heap.size A n fs) (hs : SmallP fs) :
    Calls Try.prog 33 #[.agg #[.slice A n c], .int .i64 fn] w fun e w' => e = .returned (.tuple #[.bool (recAns fs fn).1, .bool (recAns fs fn).2]) ∧ Below w.heap.size w w' := by
  have hb0 : Below w.heap.size w (w.alloc (.cells #[.slice A n c] 44)) := (Below.refl _ _).alloc (Nat.le_refl _) _
  have hk0 := Keep.new w #[.slice A n c] 44
  go_enter Try.func33, Try.ntmps33
  go_wp2_with fail
  refine (hasFunc_any A n c fs fn _ (hr.now hb0) hs).mono ?_
  rintro e w1 ⟨rfl, hb1⟩
  have b1 : Below w.heap.size w w1 := hb0.trans (hb1.mono hb0.size)
  have k1 := hk0.below hb1
  clear hb0 hk0 hb1
  cases hh : hasF fs fn with
  | false =>
    have hf := put (show recAns fs fn = (false, false) by simp [recAns, hh])
    clear hh
    go_wp2
    go_ret2
    exact ⟨retB2 (by rw [hf.out]), b1⟩
  | true =>
    have hin : 0 ≤ fn ∧ fn < (n : Int) := by
      have := hh; unfold hasF at this; rw [hr.1] at this; simp at this; exact this.1
    obtain ⟨q, rfl⟩ : ∃ q : Nat, fn = q := ⟨fn.toNat, by omega⟩
    obtain ⟨b, off, f, B1, m1, d1, B2, m2, d2, hA, hb, g0, g1, g2, g3, r1, r2, hx⟩ := (hr.below b1).at_ (j := q) (by omega)
    subst hA
    have hf := put (show recAns fs (q : Int) = (recB f, true) by simp [recAns, hh, hx.out])
    have hsf := hs.2 _ (mem_of_at hx.out)
    have hm2 : m2 ≤ 1048576 := by have := hsf.2.1; rw [r2.1] at this; exact this
    have hqn : q < n := by omega
    have y := k1.cell 0
    simp at y
    clear hh g0 g1 g2 r1
    go_wp2
    go_loopw [19] (fun i wr => ∃ k : Nat, k ≤ m2 ∧ i = .int .i64 k ∧ Hid ((f.stmts.take k).any stR = false) ∧ Below w.heap.size w1 wr) (fun i _ => m2 - (intOf i).toNat)
    case atStart => exact ⟨0, Nat.zero_le _, rfl, put (by simp), Below.refl _ _⟩
    case round =>
      obtain ⟨k, hk, rfl, hno, hbel⟩ := hrel
      have hbw : Below w.heap.size w wr := b1.trans hbel
      by_cases hlt : k < m2
      · obtain ⟨b8, off8, s, D1, v1, e1, D2, v2, e2, D3, v3, e3, hA8, hb8, j0, j1, j2, j3, j4, k1, k2, k3, hx8⟩ := (r2.below hbel).at_ hlt
        subst hA8
        have hss := hsf.2.2 _ (mem_of_at hx8.out)
        have hv1 : v1 ≤ 1048576 := by have := hss.1; rw [k1.1] at this; exact this
        have hbA := hbel.alloc (Nat.le_trans b1.size hbel.size) (.cells #[.int .i64 s.kind, .int .i64 s.n, .slice D1 v1 e1, .slice D2 v2 e2, .slice D3 v3 e3] 106)
        have hrA := (k1.below ((Below.refl _ wr).alloc (Nat.le_trans b1.size hbel.size) (.cells #[.int .i64 s.kind, .int .i64 s.n, .slice D1 v1 e1, .slice D2 v2 e2, .slice D3 v3 e3] 106))).more (b1.trans hbA).size
        clear k2 k3 k1
        go_wp2_with fail
        refine (containsFunc_any D1 v1 e1 s.ex _ hrA hv1).mono ?_
        rintro e w2 ⟨rfl, hb2⟩
        have hbel2 : Below w.heap.size w1 w2 := hbA.trans (hb2.mono (b1.trans hbA).size)
        rw [show s.ex.any tokR = stR s from rfl]
        cases hst : stR s with
        | true =>
          have hy := put (show recB f = true from any_yes hx8.out hst)
          clear hst
          go_wp2
          go_ret2
          exact ⟨retB2 (by rw [hf.out, hy.out]), b1.trans hbel2⟩
        | false =>
          have hy := put (any_none hx8.out hno.out hst)
          clear hst
          go_wp2
          go_roundw
          case rel => exact ⟨k + 1, by omega, by go_num, hy, hbel2⟩
          case measure => simp [intOf]; omega
      · have hy := put (show recB f = false by have := hno.out; rwa [List.take_of_length_le (by rw [r2.1]; omega)] at this)
        go_wp2
        go_ret2
        exact ⟨retB2 (by rw [hf.out, hy.out]), hbw⟩

set_option maxHeartbeats 2000000 in
set_option maxRecDepth 100000 in
theorem specMayRecover_any (A : Option Addr) (n c : Nat) (fs : List Fc) (fn : Int) (w : World) (hr : ReadsF w w.heap.size A n fs) (hs : SmallP fs) :
    Calls Try.prog 34 #[.agg #[.slice A n c], .int .i64 fn] w fun e w' => e = .returned (.tuple #[.bool (recAns fs fn).1, .bool (recAns fs fn).2]) ∧ Below w.heap.size w w' := by
  have hb0 : Below w.heap.size w (w.alloc (.cells #[.slice A n c] 44)) := (Below.refl _ _).alloc (Nat.le_refl _) _
  have hk0 := Keep.new w #[.slice A n c] 44
  have hl2 : n ≤ 1048576 := by rw [← hr.1]; exact hs.1
  have HL := put hr.1
  go_enter Try.func34, Try.ntmps34
  go_wp2_with fail
  refine (specGoodProg_any A n c fs _ (hr.now hb0) hs).mono ?_
  rintro e w1 ⟨rfl, hb1⟩
  rw [progS_eq]
  have b1 : Below w.heap.size w w1 := hb0.trans (hb1.mono hb0.size)
  have k1 := hk0.below hb1
  have y := k1.cell 0
  simp at y
  clear hb0 hk0 hb1
  cases hg : progB fs with
  | false =>
    have hf := put (show recAns fs fn = (false, false) by simp [recAns, hasF, hg])
    clear hg
    go_wp2
    go_ret2
    exact ⟨retB2 (by rw [hf.out]), b1⟩
  | true =>
    cases hin : within fn 0 ((n : Int) - 1) with
    | false =>
      have hno : ¬ (0 ≤ fn ∧ fn < (n : Int)) := fun h => by have := (within_iff fn 0 ((n : Int) - 1)).2 (by omega); rw [hin] at this; cases this
      have hf := put (show recAns fs fn = (false, false) by unfold recAns hasF; rw [HL.out]; simp [hno])
      clear hg hno
      go_wp2_with (go_at_call 46; refine (l1In_any _ _ _ _).mono ?_; rintro e w' ⟨rfl, rfl⟩)
      go_ret2
      exact ⟨retB2 (by rw [hf.out]), b1⟩
    | true =>
      have hin2 := (within_iff _ _ _).1 hin
      obtain ⟨q, rfl⟩ : ∃ q : Nat, fn = q := ⟨fn.toNat, by omega⟩
      have hqn : q < n := by omega
      obtain ⟨b, off, f, B1, m1, d1, B2, m2, d2, hA, hb, g0, g1, g2, g3, r1, r2, hx⟩ := (hr.below b1).at_ hqn
      subst hA
      have hf := put (show recAns fs (q : Int) = (recB f, true) by unfold recAns hasF; rw [HL.out, hg]; simp [hqn, hx.out])
      have hsf := hs.2 _ (mem_of_at hx.out)
      have hm2 : m2 ≤ 1048576 := by have := hsf.2.1; rw [r2.1] at this; exact this
      clear hg g0 g1 g2 r1 hin2
      go_wp2_with (go_at_call 46; refine (l1In_any _ _ _ _).mono ?_; rintro e w' ⟨rfl, rfl⟩)
      go_loopw [29] (fun i wr => ∃ k : Nat, k ≤ m2 ∧ i = .int .i64 k ∧ Hid ((f.stmts.take k).any stR = false) ∧ Below w.heap.size w1 wr) (fun i _ => m2 - (intOf i).toNat)
      case atStart => exact ⟨0, Nat.zero_le _, rfl, put (by simp), Below.refl _ _⟩
      case round =>
        obtain ⟨k, hk, rfl, hno, hbel⟩ := hrel
        have hbw : Below w.heap.size w wr := b1.trans hbel
        by_cases hlt : k < m2
        · obtain ⟨b8, off8, s, D1, v1, e1, D2, v2, e2, D3, v3, e3, hA8, hb8, j0, j1, j2, j3, j4, k1, k2, k3, hx8⟩ := (r2.below hbel).at_ hlt
          subst hA8
          have hss := hsf.2.2 _ (mem_of_at hx8.out)
          have hv1 : v1 ≤ 1048576 := by have := hss.1; rw [k1.1] at this; exact this
          have hbA := hbel.alloc (Nat.le_trans b1.size hbel.size) (.cells #[.int .i64 s.kind, .int .i64 s.n, .slice D1 v1 e1, .slice D2 v2 e2, .slice D3 v3 e3] 106)
          have hrA := k1.below ((Below.refl _ wr).alloc (Nat.le_trans b1.size hbel.size) (.cells #[.int .i64 s.kind, .int .i64 s.n, .slice D1 v1 e1, .slice D2 v2 e2, .slice D3 v3 e3] 106))
          clear k2 k3 k1
          go_wp2
          go_loopw [36] (fun i wz => ∃ j : Nat, j ≤ v1 ∧ i = .int .i64 j ∧ Hid ((s.ex.take j).any tokR = false) ∧ ReadsT wz w.heap.size D1 v1 s.ex ∧ Below w.heap.size w1 wz) (fun i _ => v1 - (intOf i).toNat)
          case atStart => exact ⟨0, Nat.zero_le _, rfl, put (by simp), hrA, hbA⟩
          case round =>
            obtain ⟨j, hj, rfl, hnot, hrz, hbz⟩ := hrel
            by_cases hltj : j < v1
            · obtain ⟨b7, off7, op, x, hA7, hb7, hc1, hc2, hx7⟩ := hrz.at_ hltj
              subst hA7
              have hsz := Nat.le_trans b1.size hbz.size
              have hbz2 := hbz.alloc hsz (.cells #[.int .i64 op, .int .i64 x] 107)
              have hrz2 := hrz.below ((Below.refl _ wr).alloc hsz (.cells #[.int .i64 op, .int .i64 x] 107))
              by_cases h10 : op = 10
              · have hy := put (show recB f = true from any_yes hx8.out (show stR s = true from any_yes hx7.out (by simp [tokR, h10])))
                subst h10
                go_wp2
                go_ret2
                exact ⟨retB2 (by rw [hf.out, hy.out]), b1.trans hbz2⟩
              · have hy := put (any_none hx7.out hnot.out (by simp [tokR, h10]))
                have h10' := beq_of h10
                go_wp2
                go_roundw
                case rel => exact ⟨j + 1, by omega, by go_num, hy, hrz2, hbz2⟩
                case measure => simp [intOf]; omega
            · have hst := put (show stR s = false by have := hnot.out; rw [List.take_of_length_le (by rw [hrz.1]; omega)] at this; exact this)
              have hy := put (any_none hx8.out hno.out hst.out)
              go_wp2
              go_roundw
              case rel => exact ⟨k + 1, by omega, by go_num, hy, hbz⟩
              case measure => simp [intOf]; omega
        · have hy := put (show recB f = false by have := hno.out; rwa [List.take_of_length_le (by rw [r2.1]; omega)] at this)
          go_wp2
          go_ret2
          exact ⟨retB2 (by rw [hf.out, hy.out]), hbw⟩

end Go.Proofs.Ytfdijeeilfhjeaa

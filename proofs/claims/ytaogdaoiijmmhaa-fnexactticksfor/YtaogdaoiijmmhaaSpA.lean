/-
  The reference's lists made of programs and functions: contracts.
-/
import Derived.Test.YtaogdaoiijmmhaaImpB
namespace Go.Proofs.Ytaogdaoiijmmhaa
open Go.RowKit Exs

theorem Nums.belowNew {w w' : World} {B : Nat} {e : TypeId} {k : IntKind} {v : Value} {xs : List Int} (h : Nums w B e k v xs) (hb : Below w.heap.size w w') : Nums w' B e k v xs := by
  obtain ⟨h1, h2⟩ := h
  refine ⟨h1, ?_⟩
  rcases h2 with h2 | ⟨g, cap, cur, hv, hg, hh, r⟩
  · exact Or.inl h2
  · exact Or.inr ⟨g, cap, cur, hv, hg, (hb.block g (Array.getElem?_eq_some_iff.1 hh).1).trans hh, r⟩
theorem Nums.reads {w : World} {B : Nat} {e : TypeId} {k : IntKind} {v : Value} {xs : List Int} (h : Nums w B e k v xs) : ∃ A c, v = .slice A xs.length c ∧ Reads w w.heap.size k A xs.length xs := by
  rcases h.2 with ⟨rfl, hn⟩ | ⟨g, cap, cur, rfl, _, hg, _, _, _, htk⟩
  · obtain rfl : xs = [] := List.eq_nil_of_length_eq_zero hn
    exact ⟨none, 0, rfl, rfl, fun h => absurd h (by simp)⟩
  · refine ⟨_, _, rfl, rfl, fun _ => ⟨g, 0, rfl, (Array.getElem?_eq_some_iff.1 hg).1, fun j x hx => ?_⟩⟩
    have hj : j < xs.length := (List.getElem?_eq_some_iff.1 hx).1
    have := World.ownsRow.cellAt h j (by omega)
    rw [Nat.zero_add, this]
    simp [hx]

theorem Nums.more {w : World} {B B' : Nat} {e : TypeId} {k : IntKind} {v : Value} {xs : List Int} (h : Nums w B e k v xs) (hB : B' ≤ B) : Nums w B' e k v xs := by
  obtain ⟨h1, h2⟩ := h
  refine ⟨h1, ?_⟩
  rcases h2 with h2 | ⟨g, cap, cur, hv, hg, r⟩
  · exact Or.inl h2
  · exact Or.inr ⟨g, cap, cur, hv, by omega, r⟩

set_option maxHeartbeats 1000000 in
set_option maxRecDepth 100000 in
theorem l3Params_any (A : Option Addr) (n c : Nat) (fs : List Fc) (w : World) (hr : ReadsF w w.heap.size A n fs) (hn : n ≤ 1000000) :
    Calls Try.prog 31 #[.agg #[.slice A n c]] w fun e w' => ∃ v, e = .returned v ∧ Nums w' w.heap.size 3 .i64 v (paramsL fs) ∧ Below w.heap.size w w' := by
  have hb0 : Below w.heap.size w (w.alloc (.cells #[.slice A n c] 39)) := (Below.refl _ _).alloc (Nat.le_refl _) _
  go_enter Try.func31, Try.ntmps31
  go_wp2
  go_loopw [3, 9] (fun v i wr => ∃ k : Nat, k ≤ n ∧ i = .int .i64 k ∧ Nums wr w.heap.size 3 .i64 v (paramsL (fs.take k)) ∧ Below w.heap.size w wr) (fun _ i _ => n - (intOf i).toNat)
  case atStart => exact ⟨0, Nat.zero_le _, rfl, Nums.nil _ _ _ _, hb0⟩
  case round =>
    obtain ⟨k, hk, rfl, hown, hbel⟩ := hrel
    clear hb0
    by_cases hlt : k < n
    · obtain ⟨b, off, f, B1, m1, d1, B2, m2, d2, hA, hb, g0, g1, g2, g3, r1, r2, hx⟩ := (hr.below hbel).at_ hlt
      subst hA
      have hlen : (paramsL (fs.take k)).length = k := by simp [paramsL]; rw [hr.1]; omega
      have hnext := put (show paramsL (fs.take k) ++ [f.params] = paramsL (fs.take (k + 1)) by rw [takeA_more hx.out]; simp [paramsL])
      have HL := put hlen
      generalize paramsL (fs.take k) = xs at hown hnext HL
      clear hlen r1 r2 hx
      go_wp2_with (at_builtin; refine wpList_append_one rfl _ _ 22 rfl w.heap.size 3 .i64 8 Try.info3 Try.underlying22 (by decide) _ xs rfl w ((hbel.alloc hbel.size _).alloc (by have := hbel.size; simp; omega) _) (by have := hbel.size; simp; omega) ((hown.alloc _).alloc _) (wr.heap.size + 1) f.params rfl (by simp) (by have := HL.out; omega) ?_; intro v' w1 hown1 hbel1 _)
      go_roundw
      case rel => exact ⟨k + 1, by omega, by go_num, by rw [← hnext.out]; exact hown1, hbel1⟩
      case measure => simp [intOf]; omega
    · have hfin := put (show fs.take k = fs from List.take_of_length_le (by rw [hr.1]; omega))
      go_wp2
      go_ret
      exact ⟨_, rfl, by rw [hfin.out] at hown; exact hown, hbel⟩

def sitesFrom : Nat → List St → List Int
  | _, [] => []
  | i, s :: r => if s.kind = 3 then (i : Int) :: sitesFrom (i + 1) r else sitesFrom (i + 1) r
theorem sitesFrom_snoc (s : St) : ∀ (a : List St) (i : Nat), sitesFrom i (a ++ [s]) = sitesFrom i a ++ (if s.kind = 3 then [((i + a.length : Nat) : Int)] else [])
  | [], i => by simp [sitesFrom]
  | t :: r, i => by
    have := sitesFrom_snoc s r (i + 1)
    simp only [List.cons_append, sitesFrom, this, List.length_cons]
    rw [show i + 1 + r.length = i + (r.length + 1) by omega]
    split <;> simp
def sitesL (f : Fc) : List Int := sitesFrom 0 f.stmts
theorem sitesFrom_length : ∀ (a : List St) (i : Nat), (sitesFrom i a).length ≤ a.length
  | [], i => by simp [sitesFrom]
  | t :: r, i => by
    have := sitesFrom_length r (i + 1)
    simp only [sitesFrom, List.length_cons]
    split <;> simp <;> omega

set_option maxHeartbeats 1000000 in
set_option maxRecDepth 100000 in
theorem l3Sites_any (f : Fc) (A1 : Option Addr) (n1 c1 : Nat) (A2 : Option Addr) (n2 c2 : Nat) (w : World) (hr : IsFc w w.heap.size f A1 n1 A2 n2) (hn : n2 ≤ 1000000) :
    Calls Try.prog 22 #[fcV f A1 n1 c1 A2 n2 c2] w fun e w' => ∃ v, e = .returned v ∧ Nums w' w.heap.size 3 .i64 v (sitesL f) ∧ Below w.heap.size w w' := by
  have hb0 : Below w.heap.size w (w.alloc (.cells #[.int .i64 f.params, .int .i64 f.vars, .slice A1 n1 c1, .slice A2 n2 c2] 51)) := (Below.refl _ _).alloc (Nat.le_refl _) _
  unfold fcV
  go_enter Try.func22, Try.ntmps22
  go_wp2
  go_loopw [3, 9] (fun v i wr => ∃ k : Nat, k ≤ n2 ∧ i = .int .i64 k ∧ Nums wr w.heap.size 3 .i64 v (sitesFrom 0 (f.stmts.take k)) ∧ Below w.heap.size w wr) (fun _ i _ => n2 - (intOf i).toNat)
  case atStart => exact ⟨0, Nat.zero_le _, rfl, Nums.nil _ _ _ _, hb0⟩
  case round =>
    obtain ⟨k, hk, rfl, hown, hbel⟩ := hrel
    clear hb0
    by_cases hlt : k < n2
    · obtain ⟨b, off, s, B1, m1, d1, B2, m2, d2, B3, m3, d3, hA, hb, g0, g1, g2, g3, g4, r1, r2, r3, hx⟩ := (hr.stmts.below hbel).at_ hlt
      subst hA
      have hlen : (f.stmts.take k).length = k := by rw [List.length_take, hr.stmts.1]; omega
      have HL := put (show (sitesFrom 0 (f.stmts.take k)).length ≤ k by have := sitesFrom_length (f.stmts.take k) 0; omega)
      have hnext := put (show sitesFrom 0 (f.stmts.take (k + 1)) = sitesFrom 0 (f.stmts.take k) ++ (if s.kind = 3 then [(k : Int)] else []) by rw [takeA_more hx.out, sitesFrom_snoc, hlen, Nat.zero_add])
      generalize sitesFrom 0 (f.stmts.take k) = xs at hown hnext HL
      clear hlen r1 r2 r3 hx
      by_cases h3 : s.kind = 3
      · rw [if_pos h3] at hnext
        rw [h3] at g0
        clear h3
        go_wp2_with (at_builtin; refine wpList_append_one rfl _ _ 22 rfl w.heap.size 3 .i64 8 Try.info3 Try.underlying22 (by decide) _ xs rfl w ((hbel.alloc hbel.size _).alloc (by have := hbel.size; simp; omega) _) (by have := hbel.size; simp; omega) ((hown.alloc _).alloc _) (wr.heap.size + 1) (k : Int) rfl (by simp) (by have := HL.out; omega) ?_; intro v' w1 hown1 hbel1 _)
        go_roundw
        case rel => exact ⟨k + 1, by omega, by go_num, by rw [hnext.out]; exact hown1, hbel1⟩
        case measure => simp [intOf]; omega
      · have h3' := beq_of h3
        rw [if_neg h3] at hnext
        go_wp2
        go_roundw
        case rel => exact ⟨k + 1, by omega, by go_num, by rw [hnext.out, List.append_nil]; exact hown.alloc _, hbel.alloc hbel.size _⟩
        case measure => simp [intOf]; omega
    · have hfin := put (show f.stmts.take k = f.stmts from List.take_of_length_le (by rw [hr.stmts.1]; omega))
      go_wp2
      go_ret
      exact ⟨_, rfl, by rw [hfin.out] at hown; exact hown, hbel⟩

/-- Within bounds and rising, the first k of them. -/
def risTo (lo hi : Int) (xs : List Int) (k : Nat) : Prop := ∀ (j : Nat) (x : Int), j < k → xs[j]? = some x → (lo ≤ x ∧ x ≤ hi) ∧ ∀ (i : Nat) (y : Int), i + 1 = j → xs[i]? = some y → y < x
def rises (lo hi : Int) (xs : List Int) : Prop := risTo lo hi xs xs.length
open Classical in
noncomputable def risB (lo hi : Int) (xs : List Int) : Bool := decide (rises lo hi xs)

set_option maxHeartbeats 1000000 in
set_option maxRecDepth 100000 in
theorem l1Rising_any (A : Option Addr) (n c : Nat) (xs : List Int) (lo hi : Int) (w : World) (hr : Reads w w.heap.size .i64 A n xs) (hn : n ≤ 1048576) :
    Calls Try.prog 56 #[.slice A n c, .int .i64 lo, .int .i64 hi] w fun e w' => e = .returned (.bool (risB lo hi xs)) ∧ w = w' := by
  go_enter Try.func56, Try.ntmps56
  go_wp2
  go_loopw [11] (fun i wr => ∃ k : Nat, k ≤ n ∧ i = .int .i64 k ∧ Hid (risTo lo hi xs k) ∧ wr = w) (fun i _ => n - (intOf i).toNat)
  case atStart => exact ⟨0, Nat.zero_le _, rfl, put (fun j x h => absurd h (by omega)), rfl⟩
  case round =>
    obtain ⟨k, hk, rfl, hris, rfl⟩ := hrel
    have hl := put hr.1
    by_cases hlt : k < n
    · obtain ⟨b, off, x, hA, hb, hc, hx⟩ := hr.at_ hlt
      subst hA
      have HNO := put (show ¬ ((lo ≤ x ∧ x ≤ hi) ∧ ∀ (i : Nat) (y : Int), i + 1 = k → xs[i]? = some y → y < x) → risB lo hi xs = false by
        intro h; unfold risB; simp only [decide_eq_false_iff_not]; intro hall
        exact h (hall k x (by rw [hl.out]; exact hlt) hx.out))
      have HYES := put (show ((lo ≤ x ∧ x ≤ hi) ∧ ∀ (i : Nat) (y : Int), i + 1 = k → xs[i]? = some y → y < x) → risTo lo hi xs (k + 1) by
        intro h j y hj hy
        by_cases hjk : j < k
        · exact hris.out j y hjk hy
        · obtain rfl : j = k := by omega
          rw [hx.out] at hy; injection hy with hy; subst hy; exact h)
      cases hin : within x lo hi with
      | false =>
        have hf := put (HNO.out (by intro h; rw [← within_iff] at h; rw [hin] at h; cases h.1))
        clear HNO HYES
        go_wp2_with (go_at_call 20; refine (l1In_any _ _ _ _).mono ?_; rintro e w' ⟨rfl, rfl⟩)
        go_ret
        exact ⟨ret_bool hf.out.symm, rfl⟩
      | true =>
        have hin' := put ((within_iff _ _ _).1 hin)
        by_cases h0 : k = 0
        · subst h0
          simp only [Nat.add_zero] at hc
          have hy := put (HYES.out ⟨hin'.out, fun i y h => absurd h (by omega)⟩)
          clear HNO HYES
          go_wp2_with (go_at_call 20; refine (l1In_any _ _ _ _).mono ?_; rintro e w' ⟨rfl, rfl⟩)
          go_roundw
          case rel => exact ⟨1, by omega, by go_num, hy, trivial⟩
          case measure => simp [intOf]; omega
        · obtain ⟨j, rfl⟩ : ∃ j, k = j + 1 := ⟨k - 1, by omega⟩
          obtain ⟨b', off', y, hA', hb', hc', hy⟩ := hr.at_ (j := j) (by omega)
          injection hA' with hA'
          injection hA' with hA1 hA2 _
          subst hA1 hA2
          have hjj : ((j + 1 : Nat) : Int) - 1 = (j : Int) := by omega
          by_cases hyx : y < x
          · have hyy := put (HYES.out ⟨hin'.out, fun i z h hz => by obtain rfl : i = j := (by omega); rw [hy.out] at hz; injection hz with hz; omega⟩)
            clear HNO HYES
            go_wp2_with (go_at_call 20; refine (l1In_any _ _ _ _).mono ?_; rintro e w' ⟨rfl, rfl⟩)
            go_roundw
            case rel => exact ⟨j + 1 + 1, by omega, by go_num, hyy, trivial⟩
            case measure => simp [intOf]; omega
          · have hf := put (HNO.out (by intro h; exact hyx (h.2 j y rfl hy.out)))
            have hyx' : x ≤ y := by omega
            clear HNO HYES
            go_wp2_with (go_at_call 20; refine (l1In_any _ _ _ _).mono ?_; rintro e w' ⟨rfl, rfl⟩)
            go_ret
            exact ⟨ret_bool hf.out.symm, rfl⟩
    · have hfin := put (show risB lo hi xs = true by unfold risB; simp only [decide_eq_true_eq]; intro j x hj hx; exact hris.out j x (by rw [hl.out] at hj; omega) hx)
      go_wp2
      go_ret
      exact ⟨ret_bool hfin.out.symm, rfl⟩

end Go.Proofs.Ytaogdaoiijmmhaa

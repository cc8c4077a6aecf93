/-
  The first place at which two traces part: the reference's and the program's FirstApart, each against one plain answer.
-/
import Derived.Test.YtaogdaoiijmmhaaOc
import Derived.Deep.RegionLaw
namespace Go.Proofs.Ytaogdaoiijmmhaa
open Go.RowKit Go.Deep Exs

def apartL : List Int → List Int → Option Nat
  | [], [] => none
  | [], _ :: _ => some 0
  | _ :: _, [] => some 0
  | x :: xs, y :: ys => if x = y then (apartL xs ys).map (· + 1) else some 0
theorem apart_at : ∀ {k : Nat} {xs ys : List Int}, xs.take k = ys.take k → k ≤ xs.length → k ≤ ys.length → xs[k]? ≠ ys[k]? → apartL xs ys = some k
  | 0, [], [], _, _, _, h => absurd rfl h
  | 0, [], _ :: _, _, _, _, _ => rfl
  | 0, _ :: _, [], _, _, _, _ => rfl
  | 0, x :: xs, y :: ys, _, _, _, h => by
    have : x ≠ y := fun e => h (by simp [e])
    simp [apartL, this]
  | k + 1, [], _, _, h, _, _ => by simp at h
  | k + 1, _ :: _, [], _, _, h, _ => by simp at h
  | k + 1, x :: xs, y :: ys, ht, h1, h2, h => by
    rw [List.take_succ_cons, List.take_succ_cons] at ht
    injection ht with e1 e2
    subst e1
    have ih := apart_at (k := k) (xs := xs) (ys := ys) e2 (by simpa using h1) (by simpa using h2) (by simpa using h)
    simp [apartL, ih]
theorem apart_no : ∀ (xs : List Int), apartL xs xs = none
  | [] => rfl
  | x :: xs => by simp [apartL, apart_no xs]
def faAns (a b : Oc) : Int × Bool := match apartL a.trace b.trace with
  | none => (0, false)
  | some k => (((k : Nat) : Int), true)
theorem fa_at {a b : Oc} {k : Nat} (h : a.trace.take k = b.trace.take k) (h1 : k ≤ a.trace.length) (h2 : k ≤ b.trace.length) (hne : a.trace[k]? ≠ b.trace[k]?) : faAns a b = (((k : Nat) : Int), true) := by
  unfold faAns; rw [apart_at h h1 h2 hne]
theorem fa_no {a b : Oc} (h : a.trace = b.trace) : faAns a b = (0, false) := by
  unfold faAns; rw [h, apart_no]
theorem take_same {xs ys : List Int} {k : Nat} {x y : Int} (h : xs.take k = ys.take k) (hx : xs[k]? = some x) (hy : ys[k]? = some y) (e : x = y) : xs.take (k + 1) = ys.take (k + 1) := by
  rw [take_more hx, take_more hy, h, e]
theorem all_same {xs ys : List Int} {k : Nat} (h : xs.take k = ys.take k) (h1 : xs.length ≤ k) (h2 : ys.length ≤ k) : xs = ys := by
  rwa [List.take_of_length_le h1, List.take_of_length_le h2] at h

set_option maxHeartbeats 1000000 in
set_option maxRecDepth 100000 in
theorem specFirstApart_any (o p : Oc) (A : Option Addr) (n c : Nat) (B : Option Addr) (m d : Nat) (w : World) (hr : Reads w w.heap.size .i64 A n o.trace) (hr' : Reads w w.heap.size .i64 B m p.trace) (hs : n ≤ 1048576) (_ : m ≤ 1048576) :
    Calls Try.prog 6 #[ocV o A n c, ocV p B m d] w fun e w' => e = .returned (.tuple #[.int .i64 (faAns o p).1, .bool (faAns o p).2]) ∧ Below w.heap.size w w' := by
  have hb0 : Below w.heap.size w ((w.alloc (.cells #[.int .i64 o.code, .int .i64 o.value, .slice A n c, .int .i64 o.used] 28)).alloc (.cells #[.int .i64 p.code, .int .i64 p.value, .slice B m d, .int .i64 p.used] 28)) := ((Below.refl _ _).alloc (Nat.le_refl _) _).alloc (by simp) _
  have hx0 : Keep ((w.alloc (.cells #[.int .i64 o.code, .int .i64 o.value, .slice A n c, .int .i64 o.used] 28)).alloc (.cells #[.int .i64 p.code, .int .i64 p.value, .slice B m d, .int .i64 p.used] 28)) w.heap.size #[.int .i64 o.code, .int .i64 o.value, .slice A n c, .int .i64 o.used] 28 := (Keep.new _ _ _).alloc _
  have hy0 : Keep ((w.alloc (.cells #[.int .i64 o.code, .int .i64 o.value, .slice A n c, .int .i64 o.used] 28)).alloc (.cells #[.int .i64 p.code, .int .i64 p.value, .slice B m d, .int .i64 p.used] 28)) (w.heap.size + 1) #[.int .i64 p.code, .int .i64 p.value, .slice B m d, .int .i64 p.used] 28 := by
    have := Keep.new (w.alloc (.cells #[.int .i64 o.code, .int .i64 o.value, .slice A n c, .int .i64 o.used] 28)) #[.int .i64 p.code, .int .i64 p.value, .slice B m d, .int .i64 p.used] 28
    rw [World.size_alloc] at this
    exact this
  unfold ocV
  have R1 := hr.now hb0
  have R2 := hr'.now hb0
  have L1 := put hr.1
  have L2 := put hr'.1
  clear hr hr'
  go_enter Try.func6, Try.ntmps6
  go_wp2
  generalize hW : (w.alloc (.cells #[.int .i64 o.code, .int .i64 o.value, .slice A n c, .int .i64 o.used] 28)).alloc (.cells #[.int .i64 p.code, .int .i64 p.value, .slice B m d, .int .i64 p.used] 28) = W at hb0 hx0 hy0 R1 R2 ⊢
  clear hW
  have x2 := hx0.cell 2
  have y2 := hy0.cell 2
  simp at x2 y2
  clear hx0 hy0
  go_loopw [6] (fun i wr => ∃ k q : Nat, k ≤ n ∧ k ≤ m ∧ i = .int .i64 k ∧ wr = W.drewN q ∧ Hid (o.trace.take k = p.trace.take k)) (fun i _ => n - (intOf i).toNat)
  case atStart => exact ⟨0, 0, Nat.zero_le _, Nat.zero_le _, rfl, rfl, put rfl⟩
  case round =>
    obtain ⟨k, q, hk, hm, rfl, rfl, ht⟩ := hrel
    by_cases hlt : k < n
    · obtain ⟨b, off, x, rfl, hb, hc, hx⟩ := R1.at_ hlt
      by_cases hlt' : k < m
      · obtain ⟨b', off', x', rfl, hb', hc', hx'⟩ := R2.at_ hlt'
        by_cases hxx : x = x'
        · have ht' := put (take_same ht.out hx.out hx'.out hxx)
          subst hxx
          go_wp2
          go_quiet (fail)
          go_wp2
          go_roundw
          case rel => exact ⟨k + 1, _, by omega, by omega, by go_num, rfl, ht'⟩
          case measure => simp [intOf]; omega
        · have HA := put (fa_at ht.out (by rw [L1.out]; exact hk) (by rw [L2.out]; exact hm) (by rw [hx.out, hx'.out]; intro h; injection h with h; exact hxx h))
          have hxx2 : (x != x') = true := by simp [hxx]
          clear hxx
          go_wp2
          go_quiet (fail)
          go_wp2
          go_ret2
          exact ⟨by rw [HA.out]; rfl, below_drewN (below_drewN hb0 _) _⟩
      · have hno : p.trace[k]? = none := List.getElem?_eq_none (by rw [L2.out]; omega)
        have HA := put (fa_at ht.out (by rw [L1.out]; exact hk) (by rw [L2.out]; exact hm) (by rw [hx.out, hno]; simp))
        have hge : (m : Int) ≤ k := by omega
        have hge2 : decide (n ≤ k) = false := decide_eq_false (by omega)
        have hge3 : decide (m ≤ k) = true := decide_eq_true (by omega)
        clear hge
        clear hno
        go_wp2
        go_quiet (fail)
        go_wp2
        go_ret2
        exact ⟨by rw [HA.out]; rfl, below_drewN (below_drewN hb0 _) _⟩
    · by_cases hlt' : k < m
      · obtain ⟨b', off', x', rfl, hb', hc', hx'⟩ := R2.at_ hlt'
        have hno : o.trace[k]? = none := List.getElem?_eq_none (by rw [L1.out]; omega)
        have HA := put (fa_at ht.out (by rw [L1.out]; exact hk) (by rw [L2.out]; exact hm) (by rw [hx'.out, hno]; simp))
        have hge : (n : Int) ≤ k := by omega
        have hge2 : decide (n ≤ k) = true := decide_eq_true (by omega)
        clear hge
        clear hno
        go_wp2
        go_quiet (fail)
        go_wp2
        go_ret2
        exact ⟨by rw [HA.out]; rfl, below_drewN (below_drewN hb0 _) _⟩
      · have HA := put (fa_no (all_same ht.out (by rw [L1.out]; omega) (by rw [L2.out]; omega)))
        go_wp2
        go_ret2
        exact ⟨by rw [HA.out]; rfl, below_drewN hb0 _⟩

set_option maxHeartbeats 1000000 in
set_option maxRecDepth 100000 in
theorem firstApart_any (o p : Oc) (A : Option Addr) (n c : Nat) (B : Option Addr) (m d : Nat) (w : World) (hr : Reads w w.heap.size .i64 A n o.trace) (hr' : Reads w w.heap.size .i64 B m p.trace) (hs : n ≤ 1048576) (hs' : m ≤ 1048576) :
    Calls Try.prog 8 #[ocV o A n c, ocV p B m d] w fun e w' => e = .returned (.tuple #[.int .i64 (faAns o p).1, .bool (faAns o p).2]) ∧ Below w.heap.size w w' := by
  have hb0 : Below w.heap.size w ((w.alloc (.cells #[.int .i64 o.code, .int .i64 o.value, .slice A n c, .int .i64 o.used] 28)).alloc (.cells #[.int .i64 p.code, .int .i64 p.value, .slice B m d, .int .i64 p.used] 28)) := ((Below.refl _ _).alloc (Nat.le_refl _) _).alloc (by simp) _
  have hx0 : Keep ((w.alloc (.cells #[.int .i64 o.code, .int .i64 o.value, .slice A n c, .int .i64 o.used] 28)).alloc (.cells #[.int .i64 p.code, .int .i64 p.value, .slice B m d, .int .i64 p.used] 28)) w.heap.size #[.int .i64 o.code, .int .i64 o.value, .slice A n c, .int .i64 o.used] 28 := (Keep.new _ _ _).alloc _
  have hy0 : Keep ((w.alloc (.cells #[.int .i64 o.code, .int .i64 o.value, .slice A n c, .int .i64 o.used] 28)).alloc (.cells #[.int .i64 p.code, .int .i64 p.value, .slice B m d, .int .i64 p.used] 28)) (w.heap.size + 1) #[.int .i64 p.code, .int .i64 p.value, .slice B m d, .int .i64 p.used] 28 := by
    have := Keep.new (w.alloc (.cells #[.int .i64 o.code, .int .i64 o.value, .slice A n c, .int .i64 o.used] 28)) #[.int .i64 p.code, .int .i64 p.value, .slice B m d, .int .i64 p.used] 28
    rw [World.size_alloc] at this
    exact this
  unfold ocV
  have R1 := hr.now hb0
  have R2 := hr'.now hb0
  have L1 := put hr.1
  have L2 := put hr'.1
  clear hr hr'
  obtain ⟨s, hs0⟩ : ∃ s : Nat, min n m = s := ⟨_, rfl⟩
  have hmin : ∀ W, (Builtin.min_ #[3, 3] 3 #[.int .i64 (n : Int), .int .i64 (m : Int)]).run Try.prog W = .ok (.int .i64 (s : Int)) W := fun W => by
    rw [run_min_int2]
    have : (if (m : Int) < n then (m : Int) else n) = s := by split <;> omega
    rw [this]
  have HS := put hs0
  have hsn : s ≤ n := by omega
  have hsm : s ≤ m := by omega
  clear hs0
  go_enter Try.func8, Try.ntmps8
  go_wp2_with fail
  generalize hW : (w.alloc (.cells #[.int .i64 o.code, .int .i64 o.value, .slice A n c, .int .i64 o.used] 28)).alloc (.cells #[.int .i64 p.code, .int .i64 p.value, .slice B m d, .int .i64 p.used] 28) = W at hb0 hx0 hy0 R1 R2 ⊢
  clear hW
  have x2 := hx0.cell 2
  have y2 := hy0.cell 2
  simp at x2 y2
  clear hx0 hy0
  go_wp2
  go_loopw [16] (fun i wr => ∃ k q : Nat, k ≤ s ∧ i = .int .i64 k ∧ wr = W.drewN q ∧ Hid (o.trace.take k = p.trace.take k)) (fun i _ => s - (intOf i).toNat)
  case atStart => exact ⟨0, 0, Nat.zero_le _, rfl, rfl, put rfl⟩
  case round =>
    obtain ⟨k, q, hk, rfl, rfl, ht⟩ := hrel
    by_cases hlt : k < s
    · have hkn : k < n := by omega
      have hkm : k < m := by omega
      obtain ⟨b, off, x, rfl, hb, hc, hx⟩ := R1.at_ hkn
      obtain ⟨b', off', x', rfl, hb', hc', hx'⟩ := R2.at_ hkm
      by_cases hxx : x = x'
      · have ht' := put (take_same ht.out hx.out hx'.out hxx)
        subst hxx
        go_wp2
        go_quiet (fail)
        go_wp2
        go_roundw
        case rel => exact ⟨k + 1, _, by omega, by go_num, rfl, ht'⟩
        case measure => simp [intOf]; omega
      · have HA := put (fa_at ht.out (by rw [L1.out]; omega) (by rw [L2.out]; omega) (by rw [hx.out, hx'.out]; intro h; injection h with h; exact hxx h))
        have hxx2 : (x != x') = true := by simp [hxx]
        clear hxx
        go_wp2
        go_quiet (fail)
        go_wp2
        go_ret2
        exact ⟨by rw [HA.out]; rfl, below_drewN (below_drewN hb0 _) _⟩
    · obtain rfl : k = s := by omega
      by_cases hnm : n = m
      · subst hnm
        have HA := put (fa_no (all_same ht.out (by rw [L1.out]; have := HS.out; omega) (by rw [L2.out]; have := HS.out; omega)))
        go_wp2
        go_ret2
        exact ⟨by rw [HA.out]; rfl, below_drewN hb0 _⟩
      · have HA := put (fa_at ht.out (by rw [L1.out]; omega) (by rw [L2.out]; omega) (by
          intro h
          have h1 := HS.out
          rcases Nat.lt_or_ge n m with hl | hl
          · rw [List.getElem?_eq_none (by rw [L1.out]; omega), List.getElem?_eq_getElem (by rw [L2.out]; omega)] at h
            cases h
          · rw [List.getElem?_eq_none (l := p.trace) (by rw [L2.out]; omega), List.getElem?_eq_getElem (by rw [L1.out]; omega)] at h
            cases h))
        have hnm2 : ¬ (n : Int) = m := by omega
        have hnm3 : ((n : Int) == m) = false := beq_of hnm2
        go_wp2
        go_ret2
        exact ⟨by rw [HA.out]; rfl, below_drewN hb0 _⟩

end Go.Proofs.Ytaogdaoiijmmhaa

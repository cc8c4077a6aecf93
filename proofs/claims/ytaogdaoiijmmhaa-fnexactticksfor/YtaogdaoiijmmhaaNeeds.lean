/-
  Contracts of the functions that tell what tokens take: params, known tokens, NeedsOf, of the program and of the reference.
-/
import Derived.Test.YtaogdaoiijmmhaaTokMem
namespace Go.Proofs.Ytaogdaoiijmmhaa
open Go.RowKit Exs
set_option linter.unusedVariables false

/-- Whether all numbers are within bounds. -/
def allIn (lo hi : Int) (xs : List Int) : Bool := xs.all fun x => within x lo hi

theorem allIn_more {lo hi : Int} {xs : List Int} {k : Nat} {x : Int} (h : xs[k]? = some x) (ha : allIn lo hi (xs.take k) = true) (hx : within x lo hi = true) : allIn lo hi (xs.take (k + 1)) = true := by
  rw [take_more h]; unfold allIn at *; rw [List.all_append, ha]; simp [hx]
theorem allIn_no {lo hi : Int} {xs : List Int} {k : Nat} {x : Int} (h : xs[k]? = some x) (hx : within x lo hi = false) : allIn lo hi xs = false := by
  unfold allIn
  rw [List.all_eq_false]
  exact ⟨x, List.mem_of_getElem? h, by simp [hx]⟩
theorem allIn_iff (lo hi : Int) (xs : List Int) : allIn lo hi xs = true ↔ ∀ x ∈ xs, lo ≤ x ∧ x ≤ hi := by simp [allIn, within]

set_option maxHeartbeats 400000 in
set_option maxRecDepth 100000 in
theorem l1All_any (A : Option Addr) (n c : Nat) (xs : List Int) (lo hi : Int) (w : World) (hr : Reads w w.heap.size .i64 A n xs) (hn : n ≤ 1048576) :
    Calls Try.prog 42 #[.slice A n c, .int .i64 lo, .int .i64 hi] w fun e w' => e = .returned (.bool (allIn lo hi xs)) ∧ w = w' := by
  go_enter Try.func42, Try.ntmps42
  go_wp2
  go_loop [11] (fun i => ∃ k : Nat, k ≤ n ∧ i = .int .i64 k ∧ Hid (allIn lo hi (xs.take k) = true)) (fun i => n - (intOf i).toNat)
  case atStart => exact ⟨0, Nat.zero_le _, rfl, rfl⟩
  case round =>
    obtain ⟨k, hk, rfl, ha⟩ := hrel
    by_cases hlt : k < n
    · obtain ⟨b, off, x, rfl, hb, hc, hx⟩ := hr.at_ hlt
      by_cases hin : within x lo hi = true
      · have HA := put (allIn_more hx.out ha.out hin)
        go_wp2_with (go_at_call 20; refine (l1In_any _ _ _ _).mono ?_; rintro e w' ⟨rfl, rfl⟩)
        go_round
        case rel => exact ⟨k + 1, by omega, by go_num, HA⟩
        case measure => simp [intOf]; omega
      · have hin' : within x lo hi = false := by simpa using hin
        have HA := put (allIn_no hx.out hin')
        clear hin
        go_wp2_with (go_at_call 20; refine (l1In_any _ _ _ _).mono ?_; rintro e w' ⟨rfl, rfl⟩)
        go_ret
        exact ⟨ret_bool HA.out.symm, rfl⟩
    · have hfin := put (show xs.take k = xs from List.take_of_length_le (by rw [hr.1]; omega))
      go_wp2
      go_ret
      exact ⟨ret_bool (by rw [← ha.out, hfin.out]), rfl⟩

/-- Whether params are so. -/
def parB (ps : List Int) : Bool := decide (ps.length ≤ 5) && allIn 0 2 ps
theorem parB_iff (ps : List Int) : parB ps = true ↔ okParams ps := by simp [parB, okParams, allIn_iff]
theorem parB_few {ps : List Int} (h : ps.length ≤ 5) : parB ps = allIn 0 2 ps := by simp [parB, h]
theorem parB_many {ps : List Int} (h : ¬ ps.length ≤ 5) : parB ps = false := by simp [parB, h]

set_option maxHeartbeats 400000 in
set_option maxRecDepth 100000 in
theorem l2Params_any (A : Option Addr) (n c : Nat) (xs : List Int) (w : World) (hr : Reads w w.heap.size .i64 A n xs) (hn : n ≤ 1048576) :
    Calls Try.prog 30 #[.slice A n c] w fun e w' => e = .returned (.bool (parB xs)) ∧ w = w' := by
  by_cases h5 : n ≤ 5
  · have HP := put (parB_few (ps := xs) (by rw [hr.1]; exact h5))
    go_enter Try.func30, Try.ntmps30
    go_wp2_with (go_at_call 42; refine (l1All_any _ _ _ xs _ _ _ hr hn).mono ?_; rintro e w' ⟨rfl, rfl⟩)
    go_ret
    exact ⟨ret_bool HP.out.symm, rfl⟩
  · have HP := put (parB_many (ps := xs) (by rw [hr.1]; exact h5))
    go_enter Try.func30, Try.ntmps30
    go_wp2
    go_ret
    exact ⟨ret_bool HP.out.symm, rfl⟩

set_option maxHeartbeats 400000 in
set_option maxRecDepth 100000 in
theorem goodParams_any (A : Option Addr) (n c : Nat) (xs : List Int) (w : World) (hr : Reads w w.heap.size .i64 A n xs) (hn : n ≤ 1048576) :
    Calls Try.prog 71 #[.slice A n c] w fun e w' => e = .returned (.bool (parB xs)) ∧ w = w' := by
  by_cases h5 : n ≤ 5
  · have HP := put (parB_few (ps := xs) (by rw [hr.1]; exact h5))
    go_enter Try.func71, Try.ntmps71
    go_wp2
    go_loop [10] (fun i => ∃ k : Nat, k ≤ n ∧ i = .int .i64 k ∧ Hid (allIn 0 2 (xs.take k) = true)) (fun i => n - (intOf i).toNat)
    case atStart => exact ⟨0, Nat.zero_le _, rfl, rfl⟩
    case round =>
      obtain ⟨k, hk, rfl, ha⟩ := hrel
      by_cases hlt : k < n
      · obtain ⟨b, off, x, rfl, hb, hc, hx⟩ := hr.at_ hlt
        by_cases hin : 0 ≤ x ∧ x ≤ 2
        · have HA := put (allIn_more hx.out ha.out ((within_iff _ _ _).2 hin))
          obtain ⟨h1, h2⟩ := hin
          go_wp2
          go_round
          case rel => exact ⟨k + 1, by omega, by go_num, HA⟩
          case measure => simp [intOf]; omega
        · have HA := put (allIn_no hx.out (by rw [Bool.eq_false_iff]; intro h; exact hin ((within_iff _ _ _).1 h)))
          by_cases h0 : x < 0
          · clear hin
            go_wp2
            go_ret
            exact ⟨ret_bool (by rw [HP.out, HA.out]), rfl⟩
          · have h2 : 2 < x := by omega
            clear hin
            go_wp2
            go_ret
            exact ⟨ret_bool (by rw [HP.out, HA.out]), rfl⟩
      · have hfin := put (show xs.take k = xs from List.take_of_length_le (by rw [hr.1]; omega))
        go_wp2
        go_ret
        exact ⟨ret_bool (by rw [HP.out, ← ha.out, hfin.out]), rfl⟩
  · have HP := put (parB_many (ps := xs) (by rw [hr.1]; exact h5))
    go_enter Try.func71, Try.ntmps71
    go_wp2
    go_ret
    exact ⟨ret_bool HP.out.symm, rfl⟩

/-- Whether a token is one, with a variable and a function that are there. -/
def knB (vars : Int) (ps : List Int) (op n : Int) : Bool := decide (known vars ps (op, n))
theorem knB_iff (vars : Int) (ps : List Int) (op n : Int) : knB vars ps op n = true ↔ tokB op n = true ∧ (op = 2 → n < vars) ∧ (op = 11 → n < ps.length) := by
  unfold knB tokB; rw [decide_eq_true_eq, decide_eq_true_eq]; rfl
theorem knB_no {vars : Int} {ps : List Int} {op n : Int} (h : tokB op n = false) : knB vars ps op n = false := by
  rw [Bool.eq_false_iff]; intro h1; rw [((knB_iff _ _ _ _).1 h1).1] at h; cases h
theorem knB_var {vars : Int} {ps : List Int} {n : Int} (h : tokB 2 n = true) : knB vars ps 2 n = decide (n < vars) := by
  rw [Bool.eq_iff_iff, knB_iff]; simp [h]
theorem knB_call {vars : Int} {ps : List Int} {n : Int} (h : tokB 11 n = true) : knB vars ps 11 n = decide (n < ps.length) := by
  rw [Bool.eq_iff_iff, knB_iff]; simp [h]
theorem knB_else {vars : Int} {ps : List Int} {op n : Int} (h : tokB op n = true) (h2 : op ≠ 2) (h11 : op ≠ 11) : knB vars ps op n = true := by
  rw [knB_iff]; simp [h, h2, h11]

theorem below_drewN {B : Nat} {a w : World} (h : Below B a w) (n : Nat) : Below B a (w.drewN n) := ⟨h.os, h.tape, h.output, h.size, h.block⟩
theorem bne_of {a b : Int} (h : a ≠ b) : (a != b) = true := by simpa using h
theorem beq_of {a b : Int} (h : a ≠ b) : (a == b) = false := by simpa using h

set_option maxHeartbeats 400000 in
set_option maxRecDepth 100000 in
theorem l2Known_any (op n vars : Int) (A : Option Addr) (m c : Nat) (ps : List Int) (w : World) (hm : ps.length = m) (hm2 : m ≤ 1048576) :
    Calls Try.prog 67 #[.agg #[.int .i64 op, .int .i64 n], .int .i64 vars, .slice A m c] w fun e w' => e = .returned (.bool (knB vars ps op n)) ∧ Below w.heap.size w w' := by
  have HM := put hm; clear hm
  have hc : tokB op n = false ∨ (tokB op n = true ∧ op = 2) ∨ (tokB op n = true ∧ op = 11) ∨ (tokB op n = true ∧ op ≠ 2 ∧ op ≠ 11) := by
    cases tokB op n
    · exact .inl rfl
    · by_cases h2 : op = 2
      · exact .inr (.inl ⟨rfl, h2⟩)
      · by_cases h3 : op = 11
        · exact .inr (.inr (.inl ⟨rfl, h3⟩))
        · exact .inr (.inr (.inr ⟨rfl, h2, h3⟩))
  rcases hc with h | ⟨h, rfl⟩ | ⟨h, rfl⟩ | ⟨h, h2, h11⟩
  · have HK := put (knB_no (vars := vars) (ps := ps) h)
    go_enter Try.func67, Try.ntmps67
    go_wp2_with (go_at_call 74; refine (l2Token_any _ _ _).mono ?_; rintro e w1 ⟨rfl, hb⟩)
    go_ret
    exact ⟨ret_bool HK.out.symm, ((Below.refl _ _).alloc (Nat.le_refl _) _).trans (hb.mono (by simp))⟩
  · have HK := put (knB_var (vars := vars) (ps := ps) h)
    go_enter Try.func67, Try.ntmps67
    go_wp2_with (go_at_call 74; refine (l2Token_any _ _ _).mono ?_; rintro e w1 ⟨rfl, hb⟩; have hcell := fun j => hb.cell (p := ⟨w.heap.size, j, none⟩) (by simp))
    all_goals go_ret
    all_goals refine ⟨ret_bool ?_, ((Below.refl _ _).alloc (Nat.le_refl _) _).trans (hb.mono (by simp))⟩
    all_goals rw [HK.out]
    all_goals simp [*]
  · have HK := put (knB_call (vars := vars) (ps := ps) h)
    rw [HM.out] at HK
    go_enter Try.func67, Try.ntmps67
    go_wp2_with (go_at_call 74; refine (l2Token_any _ _ _).mono ?_; rintro e w1 ⟨rfl, hb⟩; have hcell := fun j => hb.cell (p := ⟨w.heap.size, j, none⟩) (by simp))
    all_goals go_ret
    all_goals refine ⟨ret_bool ?_, ((Below.refl _ _).alloc (Nat.le_refl _) _).trans (hb.mono (by simp))⟩
    all_goals rw [HK.out]
    all_goals simp [*]
  · have HK := put (knB_else (vars := vars) (ps := ps) h h2 h11)
    have h2' := bne_of h2
    have h11' := bne_of h11
    go_enter Try.func67, Try.ntmps67
    go_wp2_with (go_at_call 74; refine (l2Token_any _ _ _).mono ?_; rintro e w1 ⟨rfl, hb⟩; have hcell := fun j => hb.cell (p := ⟨w.heap.size, j, none⟩) (by simp))
    go_ret
    exact ⟨ret_bool HK.out.symm, ((Below.refl _ _).alloc (Nat.le_refl _) _).trans (hb.mono (by simp))⟩

theorem needs_two {ps : List Int} {op n : Int} (h : within op 3 8 = true) : needs ps (op, n) = 2 := by
  unfold needs; rw [if_pos ((within_iff _ _ _).1 h)]
theorem needs_call {ps : List Int} {n : Int} {x : Int} (h : ps[n.toNat]? = some x) : needs ps (11, n) = x := by
  unfold needs; simp [List.getD, h]
theorem needs_none {ps : List Int} {op n : Int} (h : within op 3 8 = false) (h11 : op ≠ 11) : needs ps (op, n) = 0 := by
  unfold needs; rw [if_neg (fun h1 => by rw [(within_iff _ _ _).2 h1] at h; cases h), if_neg h11]

set_option maxHeartbeats 400000 in
set_option maxRecDepth 100000 in
theorem l2Needs_any (op n : Int) (A : Option Addr) (m c : Nat) (ps : List Int) (w : World) (hr : Reads w w.heap.size .i64 A m ps) (hm2 : m ≤ 1048576) (hin : op = 11 → 0 ≤ n ∧ n < m) :
    Calls Try.prog 68 #[.agg #[.int .i64 op, .int .i64 n], .slice A m c] w fun e w' => e = .returned (.int .i64 (needs ps (op, n))) ∧ Below w.heap.size w w' := by
  have hc : within op 3 8 = true ∨ op = 11 ∨ (within op 3 8 = false ∧ op ≠ 11) := by
    by_cases h3 : op = 11
    · exact .inr (.inl h3)
    · cases within op 3 8
      · exact .inr (.inr ⟨rfl, h3⟩)
      · exact .inl rfl
  rcases hc with h | rfl | ⟨h, h11⟩
  · have HK := put (needs_two (ps := ps) (n := n) h)
    clear hin
    go_enter Try.func68, Try.ntmps68
    go_wp2_with (go_at_call 20; refine (l1In_any _ _ _ _).mono ?_; rintro e w1 ⟨rfl, rfl⟩)
    go_ret
    exact ⟨ret_int HK.out.symm, (Below.refl _ _).alloc (Nat.le_refl _) _⟩
  · obtain ⟨h0, h1⟩ := hin rfl
    obtain ⟨k, rfl⟩ := Int.eq_ofNat_of_zero_le h0
    have hk : k < m := by omega
    clear hin h0 h1
    obtain ⟨b, off, x, rfl, hb, hcl, hx⟩ := hr.at_ hk
    have HK := put (needs_call (ps := ps) (n := (k : Int)) (x := x) (by simpa using hx.out))
    have hcl2 : (w.alloc (Obj.cells #[Value.int IntKind.i64 11, Value.int IntKind.i64 k] 99)).cell? ⟨b, off + k, none⟩ = some (.int .i64 x) := by
      rw [World.cell?_alloc_lt _ _ _ hb]; exact hcl
    go_enter Try.func68, Try.ntmps68
    go_wp2_with (go_at_call 20; refine (l1In_any _ _ _ _).mono ?_; rintro e w1 ⟨rfl, rfl⟩)
    go_ret
    exact ⟨ret_int HK.out.symm, (Below.refl _ _).alloc (Nat.le_refl _) _⟩
  · have HK := put (needs_none (ps := ps) (n := n) h h11)
    have h11' := beq_of h11
    clear hin
    go_enter Try.func68, Try.ntmps68
    go_wp2_with (go_at_call 20; refine (l1In_any _ _ _ _).mono ?_; rintro e w1 ⟨rfl, rfl⟩)
    go_ret
    exact ⟨ret_int HK.out.symm, (Below.refl _ _).alloc (Nat.le_refl _) _⟩

/-- What NeedsOf answers. -/
def needsAns (ps : List Int) (op n : Int) : Int × Bool := if parB ps && knB 6 ps op n then (needs ps (op, n), true) else (0, false)
theorem needsAns_yes {ps : List Int} {op n : Int} (h : parB ps = true) (h1 : knB 6 ps op n = true) : needsAns ps op n = (needs ps (op, n), true) := by simp [needsAns, h, h1]
theorem needsAns_no {ps : List Int} {op n : Int} (h : parB ps = false ∨ knB 6 ps op n = false) : needsAns ps op n = (0, false) := by
  rcases h with h | h <;> simp [needsAns, h]

theorem kn_call {vars : Int} {ps : List Int} {op n : Int} (h : knB vars ps op n = true) (he : op = 11) : 0 ≤ n ∧ n < ps.length := by
  obtain ⟨h1, _, h3⟩ := (knB_iff _ _ _ _).1 h
  have := (tokB_iff _ _).1 h1
  exact ⟨by omega, h3 he⟩

set_option maxHeartbeats 400000 in
set_option maxRecDepth 100000 in
theorem needsOf_any (op n : Int) (A : Option Addr) (m c : Nat) (ps : List Int) (w : World) (hr : Reads w w.heap.size .i64 A m ps) (hm2 : m ≤ 1048576) :
    Calls Try.prog 65 #[.agg #[.int .i64 op, .int .i64 n], .slice A m c] w fun e w' => e = .returned (.tuple #[.int .i64 (needsAns ps op n).1, .bool (needsAns ps op n).2]) ∧ Below w.heap.size w w' := by
  have hr1 : Reads (w.alloc (Obj.cells #[Value.int IntKind.i64 op, Value.int IntKind.i64 n] 99)) (w.heap.size + 1) .i64 A m ps := (hr.below ((Below.refl _ _).alloc (Nat.le_refl _) _)).more (by omega)
  cases ht : tokB op n with
  | false =>
    have HK := put (needsAns_no (op := op) (n := n) (.inr (knB_no (vars := 6) (ps := ps) ht)))
    go_enter Try.func65, Try.ntmps65
    go_wp2_with fail
    refine (goodToken_any _ _ _).mono ?_
    rintro e w1 ⟨rfl, hb⟩
    go_wp2
    go_ret2
    exact ⟨ret2 (by rw [HK.out]), ((Below.refl _ _).alloc (Nat.le_refl _) _).trans (hb.mono (by simp))⟩
  | true =>
    cases hp : parB ps with
    | false =>
      have HK := put (needsAns_no (op := op) (n := n) (.inl hp))
      go_enter Try.func65, Try.ntmps65
      go_wp2_with fail
      refine (goodToken_any _ _ _).mono ?_
      rintro e w1 ⟨rfl, hb⟩
      have hr2 := (hr1.below (hb.mono (by simp))).more (B' := w1.heap.size) (by have := hb.size; simp at this; omega)
      go_wp2_with fail
      refine (goodParams_any _ _ _ ps _ hr2 hm2).mono ?_
      rintro e w2 ⟨rfl, rfl⟩
      go_wp2
      go_ret2
      exact ⟨ret2 (by rw [HK.out]), ((Below.refl _ _).alloc (Nat.le_refl _) _).trans (hb.mono (by simp))⟩
    | true =>
      have HY := put (fun h1 => needsAns_yes (ps := ps) (op := op) (n := n) hp h1)
      have HN := put (fun h1 => needsAns_no (ps := ps) (op := op) (n := n) (.inr h1))
      have hlen := put hr.1
      have hc : (op = 2 ∧ n < 6) ∨ (op = 2 ∧ ¬ n < 6) ∨ (op = 11 ∧ n < m) ∨ (op = 11 ∧ ¬ n < m) ∨ (within op 3 8 = true ∧ op ≠ 2 ∧ op ≠ 11) ∨ (within op 3 8 = false ∧ op ≠ 2 ∧ op ≠ 11) := by
        by_cases h2 : op = 2
        · omega
        · by_cases h11 : op = 11
          · omega
          · cases within op 3 8 <;> simp [h2, h11]
      rcases hc with ⟨rfl, h⟩ | ⟨rfl, h⟩ | ⟨rfl, h⟩ | ⟨rfl, h⟩ | ⟨h, h2, h11⟩ | ⟨h, h2, h11⟩
      · have HK := put (HY.out (by rw [knB_var ht]; simpa using h))
        have HW := put (needs_none (ps := ps) (op := 2) (n := n) (by decide) (by decide))
        clear HY HN
        go_enter Try.func65, Try.ntmps65
        go_wp2_with fail
        refine (goodToken_any _ _ _).mono ?_
        rintro e w1 ⟨rfl, hb⟩
        have hcell := fun j => hb.cell (p := ⟨w.heap.size, j, none⟩) (by simp)
        have hr2 := (hr1.below (hb.mono (by simp))).more (B' := w1.heap.size) (by have := hb.size; simp at this; omega)
        have hbw : Below w.heap.size w w1 := ((Below.refl _ _).alloc (Nat.le_refl _) _).trans (hb.mono (by simp))
        clear hb
        go_wp2_with fail
        refine (goodParams_any _ _ _ ps _ hr2 hm2).mono ?_
        rintro e w2 ⟨rfl, rfl⟩
        go_wp2
        go_quiet (fail)
        go_wp2
        go_ret2
        exact ⟨ret2 (by rw [HK.out, HW.out]), below_drewN hbw _⟩
      · have HK := put (HN.out (by rw [knB_var ht]; simpa using h))
        clear HY HN
        go_enter Try.func65, Try.ntmps65
        go_wp2_with fail
        refine (goodToken_any _ _ _).mono ?_
        rintro e w1 ⟨rfl, hb⟩
        have hcell := fun j => hb.cell (p := ⟨w.heap.size, j, none⟩) (by simp)
        have hr2 := (hr1.below (hb.mono (by simp))).more (B' := w1.heap.size) (by have := hb.size; simp at this; omega)
        have hbw : Below w.heap.size w w1 := ((Below.refl _ _).alloc (Nat.le_refl _) _).trans (hb.mono (by simp))
        clear hb
        go_wp2_with fail
        refine (goodParams_any _ _ _ ps _ hr2 hm2).mono ?_
        rintro e w2 ⟨rfl, rfl⟩
        go_wp2
        go_quiet (fail)
        go_wp2
        go_ret2
        exact ⟨ret2 (by rw [HK.out]; simp; omega), below_drewN hbw _⟩
      · have h0 := (kn_call (vars := 6) (ps := ps) (by rw [knB_call ht, hlen.out]; simpa using h) rfl).1
        have HK := put (HY.out (by rw [knB_call ht, hlen.out]; simpa using h))
        obtain ⟨k, rfl⟩ := Int.eq_ofNat_of_zero_le h0
        have hk : k < m := by omega
        have HI := put (show ps[k]? = some (ps.getD k 0) by rw [List.getD_eq_getElem?_getD, List.getElem?_eq_getElem (by rw [hlen.out]; exact hk)]; rfl)
        have HW := put (needs_call (ps := ps) (n := (k : Int)) (x := ps.getD k 0) (by simpa using HI.out))
        clear h0 h
        clear HY HN
        go_enter Try.func65, Try.ntmps65
        go_wp2_with fail
        refine (goodToken_any _ _ _).mono ?_
        rintro e w1 ⟨rfl, hb⟩
        have hcell := fun j => hb.cell (p := ⟨w.heap.size, j, none⟩) (by simp)
        have hr2 := (hr1.below (hb.mono (by simp))).more (B' := w1.heap.size) (by have := hb.size; simp at this; omega)
        have hbw : Below w.heap.size w w1 := ((Below.refl _ _).alloc (Nat.le_refl _) _).trans (hb.mono (by simp))
        clear hb
        go_wp2_with fail
        refine (goodParams_any _ _ _ ps _ hr2 hm2).mono ?_
        rintro e w2 ⟨rfl, rfl⟩
        obtain ⟨b, off, x, rfl, hbb, hcl, hx⟩ := hr2.at_ hk
        obtain rfl : ps.getD k 0 = x := by have := hx.out; rw [HI.out] at this; injection this
        go_wp2_with (go_at_call 72; refine (isReckoning_any _ _).mono ?_; rintro e w3 ⟨rfl, rfl⟩)
        go_ret2
        exact ⟨ret2 (by rw [HK.out, HW.out, List.getD_eq_getElem?_getD]), hbw⟩
      · have HK := put (HN.out (by rw [knB_call ht, hlen.out]; simpa using h))
        have h' : (m : Int) ≤ n := by omega
        clear HY HN
        go_enter Try.func65, Try.ntmps65
        go_wp2_with fail
        refine (goodToken_any _ _ _).mono ?_
        rintro e w1 ⟨rfl, hb⟩
        have hcell := fun j => hb.cell (p := ⟨w.heap.size, j, none⟩) (by simp)
        have hr2 := (hr1.below (hb.mono (by simp))).more (B' := w1.heap.size) (by have := hb.size; simp at this; omega)
        have hbw : Below w.heap.size w w1 := ((Below.refl _ _).alloc (Nat.le_refl _) _).trans (hb.mono (by simp))
        clear hb
        go_wp2_with fail
        refine (goodParams_any _ _ _ ps _ hr2 hm2).mono ?_
        rintro e w2 ⟨rfl, rfl⟩
        go_wp2
        go_ret2
        exact ⟨ret2 (by rw [HK.out]), hbw⟩
      · have HK := put (HY.out (knB_else ht h2 h11))
        have HW := put (needs_two (ps := ps) (n := n) h)
        have h2' := beq_of h2
        have h11' := beq_of h11
        clear HY HN
        go_enter Try.func65, Try.ntmps65
        go_wp2_with fail
        refine (goodToken_any _ _ _).mono ?_
        rintro e w1 ⟨rfl, hb⟩
        have hcell := fun j => hb.cell (p := ⟨w.heap.size, j, none⟩) (by simp)
        have hr2 := (hr1.below (hb.mono (by simp))).more (B' := w1.heap.size) (by have := hb.size; simp at this; omega)
        have hbw : Below w.heap.size w w1 := ((Below.refl _ _).alloc (Nat.le_refl _) _).trans (hb.mono (by simp))
        clear hb
        go_wp2_with fail
        refine (goodParams_any _ _ _ ps _ hr2 hm2).mono ?_
        rintro e w2 ⟨rfl, rfl⟩
        go_wp2_with (go_at_call 72; refine (isReckoning_any _ _).mono ?_; rintro e w3 ⟨rfl, rfl⟩)
        go_ret2
        exact ⟨ret2 (by rw [HK.out, HW.out]), hbw⟩
      · have HK := put (HY.out (knB_else ht h2 h11))
        have HW := put (needs_none (ps := ps) (n := n) h h11)
        have h2' := beq_of h2
        have h11' := beq_of h11
        clear HY HN
        go_enter Try.func65, Try.ntmps65
        go_wp2_with fail
        refine (goodToken_any _ _ _).mono ?_
        rintro e w1 ⟨rfl, hb⟩
        have hcell := fun j => hb.cell (p := ⟨w.heap.size, j, none⟩) (by simp)
        have hr2 := (hr1.below (hb.mono (by simp))).more (B' := w1.heap.size) (by have := hb.size; simp at this; omega)
        have hbw : Below w.heap.size w w1 := ((Below.refl _ _).alloc (Nat.le_refl _) _).trans (hb.mono (by simp))
        clear hb
        go_wp2_with fail
        refine (goodParams_any _ _ _ ps _ hr2 hm2).mono ?_
        rintro e w2 ⟨rfl, rfl⟩
        go_wp2_with (go_at_call 72; refine (isReckoning_any _ _).mono ?_; rintro e w3 ⟨rfl, rfl⟩)
        go_ret2
        exact ⟨ret2 (by rw [HK.out, HW.out]), hbw⟩

end Go.Proofs.Ytaogdaoiijmmhaa

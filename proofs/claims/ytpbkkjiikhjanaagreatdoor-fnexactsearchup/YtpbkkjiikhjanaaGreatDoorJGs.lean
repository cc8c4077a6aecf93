/-
  Whether a frame is good, as the reference has it: l8FrameGood.
-/
import Derived.Test.YtpbkkjiikhjanaaGreatDoorJGf
namespace Go.Proofs.YtpbkkjiikhjanaaGreatDoor
open Go.RowKit Go.Deep Exs Ht

set_option maxHeartbeats 1000000 in
set_option maxRecDepth 100000 in
theorem l1AllR_any (A : Option Addr) (m c : Nat) (xs : List Int) (lo hi : Int) (w : World) (hr : Reads w w.heap.size .i64 A m xs) (hn : m ≤ 1048576) :
    Calls Tryz.prog 109 #[.slice A m c, .int .i64 lo, .int .i64 hi] w fun e w' => e = .returned (.bool (xs.all fun x => within x lo hi)) ∧ w = w' := by
  have hm := hr.1
  go_enter Tryz.func109, Tryz.ntmps109
  go_wp2
  go_loopw [11] (fun i wr => ∃ k : Nat, k ≤ m ∧ i = .int .i64 k ∧ Hid (∀ t ∈ xs.take k, within t lo hi = true) ∧ wr = w) (fun i _ => m - (intOf i).toNat)
  case atStart => exact ⟨0, Nat.zero_le _, rfl, put (fun t h => by simp at h), rfl⟩
  case round =>
    obtain ⟨k, hk, rfl, hall, rfl⟩ := hrel
    by_cases hlt : k < m
    · obtain ⟨b, off, x, rfl, hb', hc1, hxt⟩ := hr.at_ hlt
      cases q : within x lo hi
      · have HNO := put (show (xs.all fun x => within x lo hi) = false from no_of fun h => by have h1 := List.all_eq_true.1 h _ (mem_of_at hxt.out); rw [q] at h1; cases h1)
        go_wp2_with fail
        refine (l1In_any x lo hi _).mono ?_
        rintro e w1 ⟨rfl, rfl⟩
        rw [q]
        go_wp2
        go_ret
        exact ⟨ret_bool HNO.out.symm, rfl⟩
      · have hall2 := put (all_more (p := fun x => within x lo hi) hall.out hxt.out q)
        go_wp2_with fail
        refine (l1In_any x lo hi _).mono ?_
        rintro e w1 ⟨rfl, rfl⟩
        rw [q]
        go_wp2
        go_roundw
        case rel => exact ⟨k + 1, by omega, by go_num, hall2, trivial⟩
        case measure => simp [intOf]; omega
    · have hfin := put (show xs.take k = xs from List.take_of_length_le (by omega))
      have HYES := put (show (xs.all fun x => within x lo hi) = true from List.all_eq_true.2 (by have := hall.out; rwa [hfin.out] at this))
      go_wp2
      go_ret
      exact ⟨ret_bool HYES.out.symm, rfl⟩
set_option maxHeartbeats 1000000 in
theorem l8Bounds_any (A : Option Addr) (m c : Nat) (xs : List Int) (w : World) (hr : Reads w w.heap.size .i64 A m xs) (hn : m ≤ 1048576) :
    Calls Tryz.prog 79 #[.slice A m c] w fun e w' => e = .returned (.bool (allB xs)) ∧ w = w' := by
  go_enter Tryz.func79, Tryz.ntmps79
  go_wp2_with fail
  refine (l1AllR_any A m c xs _ _ _ hr hn).mono ?_
  rintro e w1 ⟨rfl, rfl⟩
  go_wp2
  go_ret
  exact ⟨rfl, rfl⟩
theorem frgB_nofr {cs : List Cd} {f : Fr} {ab : Option Fr} (h : ∀ s, ¬ FrOk cs f s) : frgB cs f ab = false := no_of fun h' => by
  obtain ⟨s, h1, _⟩ := (frgB_iff _ _ _).1 h'
  exact h s h1
theorem eq_of_beq' {a b : Int} (h : (a == b) = true) : a = b := by simpa using h

set_option maxHeartbeats 8000000 in
set_option maxRecDepth 100000 in
theorem l8FrameGood_any (A : Option Addr) (n c : Nat) (cs : List Cd) (ide fn pla result mode value base : Int) (pile vars : List Int) (flags : List Bool) (off : Bool) (A1 : Option Addr) (n1 c1 : Nat) (A2 : Option Addr) (n2 c2 : Nat) (A3 : Option Addr) (n3 c3 : Nat) (ide' fn' pla' result' mode' value' base' : Int) (pile' vars' : List Int) (flags' : List Bool) (off' : Bool) (A1' : Option Addr) (n1' c1' : Nat) (A2' : Option Addr) (n2' c2' : Nat) (A3' : Option Addr) (n3' c3' : Nat) (last : Bool) (ab : Option Fr) (hab : Hid (ab = if last then none else some (⟨ide', fn', pla', pile', vars', flags', result', mode', value', base', off'⟩ : Fr))) (w : World) (hr : ReadsC w w.heap.size A n cs) (hf : IsFr w w.heap.size (⟨ide, fn, pla, pile, vars, flags, result, mode, value, base, off⟩ : Fr) A1 n1 A2 n2 A3 n3) (l1 : n1 ≤ 1048576) (l2 : n2 ≤ 1048576) (hg : giB cs = true) :
    Calls Tryz.prog 80 #[.agg #[.slice A n c], .agg #[.int .i64 ide, .int .i64 fn, .int .i64 pla, .slice A1 n1 c1, .slice A2 n2 c2, .slice A3 n3 c3, .int .i64 result, .int .i64 mode, .int .i64 value, .int .i64 base, .bool off], .agg #[.int .i64 ide', .int .i64 fn', .int .i64 pla', .slice A1' n1' c1', .slice A2' n2' c2', .slice A3' n3' c3', .int .i64 result', .int .i64 mode', .int .i64 value', .int .i64 base', .bool off'], .bool last] w fun e w' => e = .returned (.bool (frgB cs (⟨ide, fn, pla, pile, vars, flags, result, mode, value, base, off⟩ : Fr) ab)) ∧ Below w.heap.size w w' := by
  have hlen := hr.1
  have hn5 : n ≤ 5 := by have := ((imB_iff cs).1 ((giB_iff cs).1 hg).1).1; omega
  have HPT := put (fun (f : Fr) (s : Cd) (h : FrOk cs f s) => frOk_parts hg h)
  have HGI := put (fun (s : Cd) (h : s ∈ cs) => hgL_is hg h)
  have HGC := put (fun (s : Cd) (h : s ∈ cs) => good_code hg h)
  have HPA := put ((imB_iff cs).1 ((giB_iff cs).1 hg).1).2
  clear hg
  have hb0 : Below w.heap.size w (((w.alloc (.cells #[.slice A n c] 36)).alloc (.cells #[.int .i64 ide, .int .i64 fn, .int .i64 pla, .slice A1 n1 c1, .slice A2 n2 c2, .slice A3 n3 c3, .int .i64 result, .int .i64 mode, .int .i64 value, .int .i64 base, .bool off] 78)).alloc (.cells #[.int .i64 ide', .int .i64 fn', .int .i64 pla', .slice A1' n1' c1', .slice A2' n2' c2', .slice A3' n3' c3', .int .i64 result', .int .i64 mode', .int .i64 value', .int .i64 base', .bool off'] 78)) := (((Below.refl _ _).alloc (Nat.le_refl _) _).alloc (by simp) _).alloc (by simp; omega) _
  have hx0 : Keep (((w.alloc (.cells #[.slice A n c] 36)).alloc (.cells #[.int .i64 ide, .int .i64 fn, .int .i64 pla, .slice A1 n1 c1, .slice A2 n2 c2, .slice A3 n3 c3, .int .i64 result, .int .i64 mode, .int .i64 value, .int .i64 base, .bool off] 78)).alloc (.cells #[.int .i64 ide', .int .i64 fn', .int .i64 pla', .slice A1' n1' c1', .slice A2' n2' c2', .slice A3' n3' c3', .int .i64 result', .int .i64 mode', .int .i64 value', .int .i64 base', .bool off'] 78)) w.heap.size #[.slice A n c] 36 := ((Keep.new _ _ _).alloc _).alloc _
  have hy0 : Keep (((w.alloc (.cells #[.slice A n c] 36)).alloc (.cells #[.int .i64 ide, .int .i64 fn, .int .i64 pla, .slice A1 n1 c1, .slice A2 n2 c2, .slice A3 n3 c3, .int .i64 result, .int .i64 mode, .int .i64 value, .int .i64 base, .bool off] 78)).alloc (.cells #[.int .i64 ide', .int .i64 fn', .int .i64 pla', .slice A1' n1' c1', .slice A2' n2' c2', .slice A3' n3' c3', .int .i64 result', .int .i64 mode', .int .i64 value', .int .i64 base', .bool off'] 78)) (w.heap.size + 1) #[.int .i64 ide, .int .i64 fn, .int .i64 pla, .slice A1 n1 c1, .slice A2 n2 c2, .slice A3 n3 c3, .int .i64 result, .int .i64 mode, .int .i64 value, .int .i64 base, .bool off] 78 := by
    have := (Keep.new (w.alloc (.cells #[.slice A n c] 36)) #[.int .i64 ide, .int .i64 fn, .int .i64 pla, .slice A1 n1 c1, .slice A2 n2 c2, .slice A3 n3 c3, .int .i64 result, .int .i64 mode, .int .i64 value, .int .i64 base, .bool off] 78).alloc (.cells #[.int .i64 ide', .int .i64 fn', .int .i64 pla', .slice A1' n1' c1', .slice A2' n2' c2', .slice A3' n3' c3', .int .i64 result', .int .i64 mode', .int .i64 value', .int .i64 base', .bool off'] 78)
    rw [World.size_alloc] at this
    exact this
  have hz0 : Keep (((w.alloc (.cells #[.slice A n c] 36)).alloc (.cells #[.int .i64 ide, .int .i64 fn, .int .i64 pla, .slice A1 n1 c1, .slice A2 n2 c2, .slice A3 n3 c3, .int .i64 result, .int .i64 mode, .int .i64 value, .int .i64 base, .bool off] 78)).alloc (.cells #[.int .i64 ide', .int .i64 fn', .int .i64 pla', .slice A1' n1' c1', .slice A2' n2' c2', .slice A3' n3' c3', .int .i64 result', .int .i64 mode', .int .i64 value', .int .i64 base', .bool off'] 78)) (w.heap.size + 1 + 1) #[.int .i64 ide', .int .i64 fn', .int .i64 pla', .slice A1' n1' c1', .slice A2' n2' c2', .slice A3' n3' c3', .int .i64 result', .int .i64 mode', .int .i64 value', .int .i64 base', .bool off'] 78 := by
    have := Keep.new ((w.alloc (.cells #[.slice A n c] 36)).alloc (.cells #[.int .i64 ide, .int .i64 fn, .int .i64 pla, .slice A1 n1 c1, .slice A2 n2 c2, .slice A3 n3 c3, .int .i64 result, .int .i64 mode, .int .i64 value, .int .i64 base, .bool off] 78)) #[.int .i64 ide', .int .i64 fn', .int .i64 pla', .slice A1' n1' c1', .slice A2' n2' c2', .slice A3' n3' c3', .int .i64 result', .int .i64 mode', .int .i64 value', .int .i64 base', .bool off'] 78
    rw [World.size_alloc, World.size_alloc] at this
    exact this
  have HR := put hr
  have P1 := put hf.pile
  have P2 := put hf.vars
  have E2 := put hf.vars.1
  have E3 := put hf.flags.1
  have E1 := put hf.pile.1
  have hnw : IntKind.i64.wrap ((n : Int) - 1) = (n : Int) - 1 := IntWalk.i64_in _ ⟨by omega, by omega⟩
  clear hf hr
  have hbs : ((base != 1) = false ∨ ((base != 1) = true ∧ (base != 3) = false)) ∨ ((base != 1) = true ∧ (base != 3) = true) := by
    by_cases h1 : base = 1
    · exact .inl (.inl (by simp [h1]))
    · by_cases h3 : base = 3
      · exact .inl (.inr ⟨by simp [h1], by simp [h3]⟩)
      · exact .inr ⟨by simp [h1], by simp [h3]⟩
  replace hbs := put hbs
  go_enter Tryz.func80, Tryz.ntmps80
  go_wp2_with fail
  refine (l1In_any fn 0 ((n : Int) - 1) _).mono ?_
  rintro e w1 ⟨rfl, rfl⟩
  cases u1 : within fn 0 ((n : Int) - 1)
  · have HN := put (frgB_nofr (cs := cs) (f := (⟨ide, fn, pla, pile, vars, flags, result, mode, value, base, off⟩ : Fr)) (ab := ab) (fun s9 h9 => by have a1 := h9.fn0; have a2 := (List.getElem?_eq_some_iff.1 h9.at_).1; dsimp only at a1 a2; have a3 : within fn 0 ((n : Int) - 1) = true := (within_iff _ _ _).2 ⟨a1, by omega⟩; rw [u1] at a3; cases a3))
    go_wp2
    go_ret
    exact ⟨ret_bool HN.out.symm, hb0⟩
  go_wp2_with fail
  refine (l2Bound_any ide _).mono ?_
  rintro e w1 ⟨rfl, rfl⟩
  cases u2 : bound ide
  · have HN := put (frgB_nofr (cs := cs) (f := (⟨ide, fn, pla, pile, vars, flags, result, mode, value, base, off⟩ : Fr)) (ab := ab) (fun s9 h9 => by have a := h9.ide; dsimp only at a; rw [u2] at a; cases a))
    go_wp2
    go_ret
    exact ⟨ret_bool HN.out.symm, hb0⟩
  go_wp2_with fail
  refine (l2Bound_any result _).mono ?_
  rintro e w1 ⟨rfl, rfl⟩
  cases u3 : bound result
  · have HN := put (frgB_nofr (cs := cs) (f := (⟨ide, fn, pla, pile, vars, flags, result, mode, value, base, off⟩ : Fr)) (ab := ab) (fun s9 h9 => by have a := h9.result; dsimp only at a; rw [u3] at a; cases a))
    go_wp2
    go_ret
    exact ⟨ret_bool HN.out.symm, hb0⟩
  go_wp2_with fail
  refine (l2Bound_any value _).mono ?_
  rintro e w1 ⟨rfl, rfl⟩
  cases u4 : bound value
  · have HN := put (frgB_nofr (cs := cs) (f := (⟨ide, fn, pla, pile, vars, flags, result, mode, value, base, off⟩ : Fr)) (ab := ab) (fun s9 h9 => by have a := h9.value; dsimp only at a; rw [u4] at a; cases a))
    go_wp2
    go_ret
    exact ⟨ret_bool HN.out.symm, hb0⟩
  go_wp2_with fail
  refine (l1In_any mode 0 3 _).mono ?_
  rintro e w1 ⟨rfl, rfl⟩
  cases u5 : within mode 0 3
  · have HN := put (frgB_nofr (cs := cs) (f := (⟨ide, fn, pla, pile, vars, flags, result, mode, value, base, off⟩ : Fr)) (ab := ab) (fun s9 h9 => by have a := (within_iff _ _ _).2 h9.mode; dsimp only at a; rw [u5] at a; cases a))
    go_wp2
    go_ret
    exact ⟨ret_bool HN.out.symm, hb0⟩
  replace hbs := hbs.out
  rcases hbs with hbs | ⟨hbs, hbs2⟩
  rotate_left
  · have HN := put (frgB_nofr (cs := cs) (f := (⟨ide, fn, pla, pile, vars, flags, result, mode, value, base, off⟩ : Fr)) (ab := ab) (fun s9 h9 => by have a := h9.base; dsimp only at a; rw [bne_iff_ne] at hbs hbs2; omega))
    go_wp2
    go_ret
    exact ⟨ret_bool HN.out.symm, hb0⟩
  have hfn := (within_iff _ _ _).1 u1
  obtain ⟨j, rfl⟩ : ∃ j : Nat, fn = (j : Int) := ⟨fn.toNat, by omega⟩
  have hj : j < n := by omega
  obtain ⟨b, o, s, A4, n4, c4, A5, n5, c5, A6, n6, c6, rfl, hb', g0, g1, g2, g3, g4, r1, r2, r3, hx⟩ := HR.out.at_ hj
  have m4 := put r1.1
  have m5 := put r2.1
  have R1 := put r1
  have R2 := put r2
  have R3 := put r3
  clear r1 r2 r3
  have q0 := (hb0.cell (p := ⟨b, o + j * 5, none⟩) hb').trans g0
  have q1 := (hb0.cell (p := ⟨b, o + j * 5 + 1, none⟩) hb').trans g1
  have q2 := (hb0.cell (p := ⟨b, o + j * 5 + 2, none⟩) hb').trans g2
  have q3 := (hb0.cell (p := ⟨b, o + j * 5 + 3, none⟩) hb').trans g3
  have q4 := (hb0.cell (p := ⟨b, o + j * 5 + 4, none⟩) hb').trans g4
  clear g0 g1 g2 g3 g4
  have hb1 := hb0.alloc hb0.size (.cells #[.int .i64 s.params, .int .i64 s.vars, .slice A4 n4 c4, .slice A5 n5 c5, .slice A6 n6 c6] 82)
  have hjn : (j : Int) < (n : Int) := by omega
  have hj0 : (0 : Int) ≤ (j : Int) := by omega
  have hn5' : n5 ≤ 300 := by have := (cdB_iff s).1 (HPA.out s (mem_of_at hx.out)); have := m5.out; omega
  have h5w : IntKind.i64.wrap ((n5 : Int) - 1) = (n5 : Int) - 1 := IntWalk.i64_in _ ⟨by omega, by omega⟩
  have K1 := put ((P1.out.below hb1).more hb1.size)
  have K2 := put ((P2.out.below hb1).more hb1.size)
  have hbse : (base = 1 ∨ base = 3) := by rcases hbs with h | ⟨_, h⟩; exact .inl (bne_eq_false_iff_eq.1 h); exact .inr (bne_eq_false_iff_eq.1 h)
  have HBS := put hbse
  clear hbse
  have NEXT : ∀ Q : Prop, Q → Q := fun _ h => h
  rcases hbs with hbs | ⟨hbs, hbs2⟩
  all_goals (
    go_wp2_with fail
    refine (l1In_any pla 0 ((n5 : Int) - 1) _).mono ?_
    rintro e w1 ⟨rfl, rfl⟩
    cases u6 : within pla 0 ((n5 : Int) - 1)
    · have HN := put (frgB_nofr (cs := cs) (f := (⟨ide, (j : Int), pla, pile, vars, flags, result, mode, value, base, off⟩ : Fr)) (ab := ab) (fun s9 h9 => by have e9 : s9 = s := (by have a9 := h9.at_; simp only [Int.toNat_natCast] at a9; rw [hx.out] at a9; injection a9 with a9; exact a9.symm); subst e9; have a1 := h9.pla0; have a2 := h9.pla1; have a4 := m5.out; dsimp only at a1 a2; have a3 : within pla 0 ((n5 : Int) - 1) = true := (within_iff _ _ _).2 ⟨a1, by omega⟩; rw [u6] at a3; cases a3))
      go_wp2
      go_ret
      exact ⟨ret_bool HN.out.symm, hb1⟩
    cases hv : ((n2 : Int) != s.vars)
    rotate_left
    · have HN := put (frgB_nofr (cs := cs) (f := (⟨ide, (j : Int), pla, pile, vars, flags, result, mode, value, base, off⟩ : Fr)) (ab := ab) (fun s9 h9 => by have e9 : s9 = s := (by have a9 := h9.at_; simp only [Int.toNat_natCast] at a9; rw [hx.out] at a9; injection a9 with a9; exact a9.symm); subst e9; have a1 := h9.vars; have a2 := E2.out; dsimp only at a1 a2; rw [bne_iff_ne] at hv; omega))
      go_wp2
      go_ret
      exact ⟨ret_bool HN.out.symm, hb1⟩
    cases hw : ((n3 : Int) != (n4 : Int))
    rotate_left
    · have HN := put (frgB_nofr (cs := cs) (f := (⟨ide, (j : Int), pla, pile, vars, flags, result, mode, value, base, off⟩ : Fr)) (ab := ab) (fun s9 h9 => by have e9 : s9 = s := (by have a9 := h9.at_; simp only [Int.toNat_natCast] at a9; rw [hx.out] at a9; injection a9 with a9; exact a9.symm); subst e9; have a1 := h9.flags; have a2 := E3.out; have a3 := m4.out; dsimp only at a1 a2; rw [bne_iff_ne] at hw; omega))
      go_wp2
      go_ret
      exact ⟨ret_bool HN.out.symm, hb1⟩
    go_wp2_with fail
    refine (l8Bounds_any A2 n2 c2 vars _ K2.out l2).mono ?_
    rintro e w1 ⟨rfl, rfl⟩
    cases u7 : allB vars
    · have HN := put (frgB_nofr (cs := cs) (f := (⟨ide, (j : Int), pla, pile, vars, flags, result, mode, value, base, off⟩ : Fr)) (ab := ab) (fun s9 h9 => by have a := h9.vrs; dsimp only at a; rw [u7] at a; cases a))
      go_wp2
      go_ret
      exact ⟨ret_bool HN.out.symm, hb1⟩
    go_wp2_with fail
    refine (l8Bounds_any A1 n1 c1 pile _ K1.out l1).mono ?_
    rintro e w1 ⟨rfl, rfl⟩
    cases u8 : allB pile
    · have HN := put (frgB_nofr (cs := cs) (f := (⟨ide, (j : Int), pla, pile, vars, flags, result, mode, value, base, off⟩ : Fr)) (ab := ab) (fun s9 h9 => by have a := h9.pile; dsimp only at a; rw [u8] at a; cases a))
      go_wp2
      go_ret
      exact ⟨ret_bool HN.out.symm, hb1⟩
    obtain ⟨p, rfl⟩ : ∃ p : Nat, pla = (p : Int) := ⟨pla.toNat, by have := (within_iff _ _ _).1 u6; omega⟩
    have HOK := put (show FrOk cs (⟨ide, (j : Int), (p : Int), pile, vars, flags, result, mode, value, base, off⟩ : Fr) s from ⟨hx.out, by dsimp only; omega, by dsimp only; omega, by have := (within_iff _ _ _).1 u6; have := m5.out; dsimp only; omega, by have a1 := E2.out; dsimp only at a1 ⊢; have a2 := (bne_eq_false_iff_eq).1 hv; omega, by have a1 := E3.out; have a2 := m4.out; have a3 := (bne_eq_false_iff_eq).1 hw; dsimp only at a1 ⊢; omega, (within_iff _ _ _).1 u5, HBS.out, u2, u3, u4, u8, u7⟩)
    obtain ⟨j', p', op, x, q, f1, f2, hcs, hp, hins, hq, q1', q2', hnm, hib⟩ := HPT.out _ _ HOK.out
    obtain rfl : j = j' := by dsimp only at f1; omega
    obtain rfl : p = p' := by dsimp only at f2; omega
    clear f1 f2 hcs
    have hp5 : p < n5 := by rw [← m5.out]; exact hp
    obtain ⟨b5, o5, op5, x5, hA5, hb5, i0, i1, hi5⟩ := R2.out.at_ hp5
    obtain ⟨rfl, rfl⟩ : op = op5 ∧ x = x5 := by have := hi5.out; rw [hins] at this; injection this with this; injection this with h1 h2; exact ⟨h1, h2⟩
    subst hA5
    have HINS := put hins
    have HQ := put hq
    have hpI : (p : Int) < (n5 : Int) := by omega
    have hp0 : (0 : Int) ≤ (p : Int) := by omega
    have HGIS := put (HGI.out s (mem_of_at hx.out)).1
    have HLEN := put (HGI.out s (mem_of_at hx.out)).2
    have HPL := put hp
    obtain ⟨d1, d2, d3, d4, _⟩ := HGC.out s (mem_of_at hx.out)
    have SH := put (l5Heights_any (some ⟨b, o, none⟩) n c cs s A4 n4 c4 (some ⟨b5, o5, none⟩) n5 c5 A6 n6 c6 _ ((HR.out.below hb1).more hb1.size) ⟨(R1.out.below hb1).more hb1.size, (R2.out.below hb1).more hb1.size, (R3.out.below hb1).more hb1.size⟩ hn5 (HPA.out s (mem_of_at hx.out)) HPA.out d1 d3 d4)
    unfold cdV at SH
    have TK := put (fun W (hW : Below w.heap.size w W) => l5Takes_any (some ⟨b, o, none⟩) n c cs op x W (HR.out.now hW) hib (fun h7 => by subst h7; have := nmB_call hnm; omega))
    clear hins hq hp hi5 d1 d2 d3 d4
    have kx := hx0.alloc (.cells #[.int .i64 s.params, .int .i64 s.vars, .slice A4 n4 c4, .slice (some ⟨b5, o5, none⟩) n5 c5, .slice A6 n6 c6] 82)
    have ky := hy0.alloc (.cells #[.int .i64 s.params, .int .i64 s.vars, .slice A4 n4 c4, .slice (some ⟨b5, o5, none⟩) n5 c5, .slice A6 n6 c6] 82)
    have kz := hz0.alloc (.cells #[.int .i64 s.params, .int .i64 s.vars, .slice A4 n4 c4, .slice (some ⟨b5, o5, none⟩) n5 c5, .slice A6 n6 c6] 82)
    have kc := Keep.new (((w.alloc (.cells #[.slice (some ⟨b, o, none⟩) n c] 36)).alloc (.cells #[.int .i64 ide, .int .i64 (j : Int), .int .i64 (p : Int), .slice A1 n1 c1, .slice A2 n2 c2, .slice A3 n3 c3, .int .i64 result, .int .i64 mode, .int .i64 value, .int .i64 base, .bool off] 78)).alloc (.cells #[.int .i64 ide', .int .i64 fn', .int .i64 pla', .slice A1' n1' c1', .slice A2' n2' c2', .slice A3' n3' c3', .int .i64 result', .int .i64 mode', .int .i64 value', .int .i64 base', .bool off'] 78)) #[.int .i64 s.params, .int .i64 s.vars, .slice A4 n4 c4, .slice (some ⟨b5, o5, none⟩) n5 c5, .slice A6 n6 c6] 82
    rw [World.size_alloc, World.size_alloc, World.size_alloc] at kc
    go_wp2_with fail
    generalize hWW : (((w.alloc (.cells #[.slice (some ⟨b, o, none⟩) n c] 36)).alloc (.cells #[.int .i64 ide, .int .i64 (j : Int), .int .i64 (p : Int), .slice A1 n1 c1, .slice A2 n2 c2, .slice A3 n3 c3, .int .i64 result, .int .i64 mode, .int .i64 value, .int .i64 base, .bool off] 78)).alloc (.cells #[.int .i64 ide', .int .i64 fn', .int .i64 pla', .slice A1' n1' c1', .slice A2' n2' c2', .slice A3' n3' c3', .int .i64 result', .int .i64 mode', .int .i64 value', .int .i64 base', .bool off'] 78)).alloc (.cells #[.int .i64 s.params, .int .i64 s.vars, .slice A4 n4 c4, .slice (some ⟨b5, o5, none⟩) n5 c5, .slice A6 n6 c6] 82) = W1 at SH kx ky kz kc hb1 ⊢
    clear hWW hx0 hy0 hz0 hb0 q0 q1 q2 q3 q4 K1 K2 P1 P2
    refine SH.out.mono ?_
    rintro e w2 ⟨v, rfl, hvv, hb2⟩
    obtain ⟨A8, c8, rfl, hrd⟩ := (show Nums w2 W1.heap.size 3 .i64 v (hgL cs s) from hvv).reads
    clear hvv
    obtain ⟨l8, hl8⟩ : ∃ l8, (hgL cs s).length = l8 := ⟨_, rfl⟩
    rw [hl8] at hrd ⊢
    have hp8 : p < l8 := by rw [← hl8, HLEN.out]; exact HPL.out
    obtain ⟨b8, o8, q', rfl, hb8, hq8, hq'⟩ := hrd.at_ hp8
    obtain rfl : q' = q := by have := hq'.out; rw [HQ.out] at this; injection this with this; exact this.symm
    have hp8I : (p : Int) < (l8 : Int) := by omega
    have hbd := hb1.trans (hb2.mono hb1.size)
    have z5 := (hbd.cell (p := ⟨b5, o5 + p * 2, none⟩) hb5).trans i0
    have z6 := (hbd.cell (p := ⟨b5, o5 + p * 2 + 1, none⟩) hb5).trans i1
    have kx2 := kx.below hb2
    have ky2 := ky.below hb2
    have kz2 := kz.below hb2
    have kc2 := kc.below hb2
    clear hrd hq' hl8 kx ky kz kc hb1 hb2 i0 i1
    have y3 := kc2.cell 3
    have y2 := ky2.cell 2
    simp at y3 y2
    have kx3 := kx2.alloc (.cells #[.int .i64 op, .int .i64 x] 129)
    have ky3 := ky2.alloc (.cells #[.int .i64 op, .int .i64 x] 129)
    have kz3 := kz2.alloc (.cells #[.int .i64 op, .int .i64 x] 129)
    have kc3 := kc2.alloc (.cells #[.int .i64 op, .int .i64 x] 129)
    have ki3 := Keep.new w2 #[.int .i64 op, .int .i64 x] 129
    have hbd3 := hbd.alloc hbd.size (.cells #[.int .i64 op, .int .i64 x] 129)
    have hq3 : (w2.alloc (.cells #[.int .i64 op, .int .i64 x] 129)).cell? ⟨b8, o8 + p, none⟩ = some (.int .i64 q') := (((Below.refl _ w2).alloc (Nat.le_refl _) _).cell (p := ⟨b8, o8 + p, none⟩) hb8).trans hq8
    cases last
    rotate_left
    · obtain rfl : ab = none := hab.out
      go_wp2_with fail
      generalize w2.alloc (.cells #[.int .i64 op, .int .i64 x] 129) = W3 at kx3 ky3 kz3 kc3 ki3 hbd3 hq3 ⊢
      clear y2 y3 z5 z6 kx2 ky2 kz2 kc2 hq8 hbd
      have y1 := ky3.cell 1
      have y2 := ky3.cell 2
      have y3 := ky3.cell 3
      have x0 := kx3.cell 0
      simp at y1 y2 y3 x0
      by_cases hq0 : q' = (n1 : Int)
      · have HY := put (show frgB cs (⟨ide, (j : Int), (p : Int), pile, vars, flags, result, mode, value, base, off⟩ : Fr) none = true from (frgB_iff _ _ _).2 (FrGd.last HOK.out HGIS.out HQ.out HINS.out (by have := E1.out; dsimp only at *; omega)))
        have e1 : (q' == (n1 : Int)) = true := by simp [hq0]
        clear hq0
        go_wp2_with fail
        go_quiet (fail)
        all_goals (
          go_wp2
          go_ret
          exact ⟨ret_bool HY.out.symm, by first | exact hbd3 | exact hbd3.drew | exact below_drewN hbd3 _⟩)
      · have HN := put (show frgB cs (⟨ide, (j : Int), (p : Int), pile, vars, flags, result, mode, value, base, off⟩ : Fr) none = false from no_of fun h => by
          have h2 := (((frgB_iff _ _ _).1 h).parts (by simpa using hx.out) HGIS.out HQ.out HINS.out).1
          have := E1.out
          simp only [lowH] at h2
          omega)
        have e1 : (q' == (n1 : Int)) = false := by simp [hq0]
        clear hq0
        go_wp2_with fail
        go_quiet (fail)
        all_goals (
          go_wp2
          go_ret
          exact ⟨ret_bool HN.out.symm, by first | exact hbd3 | exact hbd3.drew | exact below_drewN hbd3 _⟩)
    · obtain rfl : ab = some (⟨ide', fn', pla', pile', vars', flags', result', mode', value', base', off'⟩ : Fr) := hab.out
      have x0 := kx3.cell 0
      have i0 := ki3.cell 0
      have i1 := ki3.cell 1
      simp at x0 i0 i1
      have htk := tkI_is HPA.out op x
      have TKW := put (TK.out _ hbd3)
      clear TK
      go_wp2_with fail
      generalize w2.alloc (.cells #[.int .i64 op, .int .i64 x] 129) = W3 at kx3 ky3 kz3 kc3 ki3 hbd3 hq3 TKW x0 i0 i1 ⊢
      clear y2 y3 z5 z6 kx2 ky2 kz2 kc2 hq8 hbd
      have PARTS := put (fun (h : FrGd cs (⟨ide, (j : Int), (p : Int), pile, vars, flags, result, mode, value, base, off⟩ : Fr) (some (⟨ide', fn', pla', pile', vars', flags', result', mode', value', base', off'⟩ : Fr))) => h.parts (by simpa using hx.out) HGIS.out HQ.out HINS.out)
      have CALLS := put (fun (h4 : (pile.length : Int) = q' - tkI cs op x) (hc : CallOk s (⟨ide, (j : Int), (p : Int), pile, vars, flags, result, mode, value, base, off⟩ : Fr) (⟨ide', fn', pla', pile', vars', flags', result', mode', value', base', off'⟩ : Fr)) => (frgB_iff _ _ _).2 (FrGd.call HOK.out HGIS.out HQ.out HINS.out h4 hc))
      have CB := put (callB_no s (⟨ide, (j : Int), (p : Int), pile, vars, flags, result, mode, value, base, off⟩ : Fr) (⟨ide', fn', pla', pile', vars', flags', result', mode', value', base', off'⟩ : Fr) op x (by simpa using HINS.out))
      have NOC := put (fun (h0 : ¬ ((op = 7 ∧ fn' = x ∧ off' = false) ∨ (op = 17 ∧ s.sites[x.toNat]? = some fn' ∧ off' = true))) => (show frgB cs (⟨ide, (j : Int), (p : Int), pile, vars, flags, result, mode, value, base, off⟩ : Fr) (some (⟨ide', fn', pla', pile', vars', flags', result', mode', value', base', off'⟩ : Fr)) = false from no_of fun h => by
        have h2 := (callB_iff _ _ _).2 ((PARTS.out ((frgB_iff _ _ _).1 h)).2 _ rfl)
        rw [CB.out h0] at h2
        cases h2))
      have NOH := put (fun (h0 : ¬ (pile.length : Int) = q' - tkI cs op x) => (show frgB cs (⟨ide, (j : Int), (p : Int), pile, vars, flags, result, mode, value, base, off⟩ : Fr) (some (⟨ide', fn', pla', pile', vars', flags', result', mode', value', base', off'⟩ : Fr)) = false from no_of fun h => h0 (by
        have h2 := (PARTS.out ((frgB_iff _ _ _).1 h)).1
        exact h2)))
      clear PARTS CB
      refine TKW.out.mono ?_
      rintro e w4 ⟨rfl, hb4⟩
      have hbd4 := hbd3.trans (hb4.mono hbd3.size)
      have ky4 := ky3.below hb4
      have kz4 := kz3.below hb4
      have kc4 := kc3.below hb4
      have ki4 := ki3.below hb4
      have hq4 : w4.cell? ⟨b8, o8 + p, none⟩ = some (.int .i64 q') := (hb4.cell (p := ⟨b8, o8 + p, none⟩) (block_lt_of_cell hq3)).trans hq3
      clear ky3 kz3 kc3 ki3 kx3 hq3 hb4 hbd3 x0 i0 i1
      have y1 := ky4.cell 1
      have y2 := ky4.cell 2
      have y3 := ky4.cell 3
      have a1 := kz4.cell 1
      have a10 := kz4.cell 10
      have i0 := ki4.cell 0
      have i1 := ki4.cell 1
      have k2 := kc4.cell 2
      simp at y1 y2 y3 a1 a10 i0 i1 k2
      have hwr : IntKind.i64.wrap (q' - tkI cs op x) = q' - tkI cs op x := IntWalk.i64_in _ ⟨by omega, by omega⟩
      by_cases h7 : op = 7
      · subst h7
        have e7 : ((7 : Int) == 7) = true := by decide
        revert CALLS NOH hwr htk
        generalize tkI cs 7 x = tk
        intro htk CALLS NOH hwr
        by_cases c1 : fn' = x
        · cases off'
          · by_cases c2 : q' - tk = (n1 : Int)
            · have HY := put (CALLS.out (by have := E1.out; omega) ⟨7, x, by simpa using HINS.out, .inl ⟨rfl, c1, rfl⟩⟩)
              have e1 : (fn' == x) = true := by simp [c1]
              have e2 : (q' - tk == (n1 : Int)) = true := by simp [c2]
              clear c1 c2
              clear CALLS NOC NOH
              go_wp2_with fail
              go_quiet (fail)
              all_goals (
                go_wp2
                go_ret
                exact ⟨ret_bool HY.out.symm, by first | exact hbd4 | exact hbd4.drew | exact below_drewN hbd4 _⟩)
            · have HN := put (NOH.out (by have := E1.out; omega))
              have e1 : (fn' == x) = true := by simp [c1]
              have e2 : (q' - tk == (n1 : Int)) = false := by simp [c2]
              clear c1 c2
              clear CALLS NOC NOH
              go_wp2_with fail
              go_quiet (fail)
              all_goals (
                go_wp2
                go_ret
                exact ⟨ret_bool HN.out.symm, by first | exact hbd4 | exact hbd4.drew | exact below_drewN hbd4 _⟩)
          · have HN := put (NOC.out (by rintro (⟨_, _, h⟩ | ⟨h, _⟩); exact Bool.noConfusion h; omega))
            have e1 : (fn' == x) = true := by simp [c1]
            clear c1
            clear CALLS NOC NOH
            go_wp2_with fail
            go_quiet (fail)
            all_goals (
              go_wp2
              go_ret
              exact ⟨ret_bool HN.out.symm, by first | exact hbd4 | exact hbd4.drew | exact below_drewN hbd4 _⟩)
        · have HN := put (NOC.out (by rintro (⟨_, h, _⟩ | ⟨h, _⟩); exact c1 h; omega))
          have e1 : (fn' == x) = false := by simp [c1]
          clear c1
          clear CALLS NOC NOH
          go_wp2_with fail
          go_quiet (fail)
          all_goals (
            go_wp2
            go_ret
            exact ⟨ret_bool HN.out.symm, by first | exact hbd4 | exact hbd4.drew | exact below_drewN hbd4 _⟩)
      have e7 : (op == 7) = false := beq_of h7
      by_cases h17 : op = 17
      · subst h17
        have e17 : ((17 : Int) == 17) = true := by decide
        have hx0' : 0 ≤ x := insB_off hib
        have hx1 : x < (s.sites.length : Int) := nmB_off hnm
        obtain ⟨i, rfl⟩ : ∃ i : Nat, x = (i : Int) := ⟨x.toNat, by omega⟩
        have hin : i < n4 := by rw [← m4.out]; omega
        obtain ⟨b4, o4, y, hA4, hb4, k0, hy⟩ := R1.out.at_ hin
        have hinI : (i : Int) < (n4 : Int) := by omega
        subst hA4
        have v0 := (hbd4.cell (p := ⟨b4, o4 + i, none⟩) hb4).trans k0
        clear k0 hx0' hx1 hwr htk
        have hi0 : (0 : Int) ≤ (i : Int) := by omega
        by_cases c1 : fn' = y
        · cases off'
          · have HN := put (NOC.out (by rintro (⟨h, _⟩ | ⟨_, _, h⟩); omega; exact Bool.noConfusion h))
            have e1 : (fn' == y) = true := by simp [c1]
            clear c1
            clear CALLS NOC NOH
            go_wp2_with fail
            go_quiet (fail)
            all_goals (
              go_wp2
              go_ret
              exact ⟨ret_bool HN.out.symm, by first | exact hbd4 | exact hbd4.drew | exact below_drewN hbd4 _⟩)
          · by_cases c2 : q' = (n1 : Int)
            · have HY := put (CALLS.out (by have := E1.out; have hz : tkI cs 17 (i : Int) = 0 := rfl; omega) ⟨17, (i : Int), by simpa using HINS.out, .inr ⟨rfl, by simpa [c1] using hy.out, rfl⟩⟩)
              have e1 : (fn' == y) = true := by simp [c1]
              have e2 : (q' == (n1 : Int)) = true := by simp [c2]
              clear c1 c2
              clear CALLS NOC NOH
              go_wp2_with fail
              go_quiet (fail)
              all_goals (
                go_wp2
                go_ret
                exact ⟨ret_bool HY.out.symm, by first | exact hbd4 | exact hbd4.drew | exact below_drewN hbd4 _⟩)
            · have HN := put (NOH.out (by have := E1.out; have hz : tkI cs 17 (i : Int) = 0 := rfl; omega))
              have e1 : (fn' == y) = true := by simp [c1]
              have e2 : (q' == (n1 : Int)) = false := by simp [c2]
              clear c1 c2
              clear CALLS NOC NOH
              go_wp2_with fail
              go_quiet (fail)
              all_goals (
                go_wp2
                go_ret
                exact ⟨ret_bool HN.out.symm, by first | exact hbd4 | exact hbd4.drew | exact below_drewN hbd4 _⟩)
        · have HN := put (NOC.out (by rintro (⟨h, _⟩ | ⟨_, h, _⟩); omega; simp [hy.out] at h; exact c1 h.symm))
          have e1 : (fn' == y) = false := by simp [c1]
          clear c1
          clear CALLS NOC NOH
          go_wp2_with fail
          go_quiet (fail)
          all_goals (
            go_wp2
            go_ret
            exact ⟨ret_bool HN.out.symm, by first | exact hbd4 | exact hbd4.drew | exact below_drewN hbd4 _⟩)
      · have e17 : (op == 17) = false := beq_of h17
        have HN := put (NOC.out (by rintro (⟨h, _⟩ | ⟨h, _⟩); exact h7 h; exact h17 h))
        clear CALLS NOC NOH
        go_wp2
        go_ret
        exact ⟨ret_bool HN.out.symm, hbd4⟩)


end Go.Proofs.YtpbkkjiikhjanaaGreatDoor

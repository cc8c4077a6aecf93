/-
  Whether a frame is good: the program's goodFrame, and what it asks.
-/
import Derived.Test.YtpbkkjiikhjanaaGreatDoorJGv
import Derived.Test.YtpbkkjiikhjanaaGreatDoorJHtI
namespace Go.Proofs.YtpbkkjiikhjanaaGreatDoor
open Go.RowKit Go.Deep Exs Ht


set_option maxHeartbeats 400000 in
theorem wrapOf_any (n : Int) (w : World) : Calls Tryz.prog 120 #[.int .i64 n] w fun e w' => e = .returned (.int .i64 (wrap32 n)) ∧ w = w' := by
  go_enter Tryz.func120, Tryz.ntmps120
  go_wp2
  go_ret
  exact ⟨ret_int (wrap64_wrap32 n), rfl⟩
set_option maxHeartbeats 400000 in
theorem inBounds_any (n : Int) (w : World) : Calls Tryz.prog 87 #[.int .i64 n] w fun e w' => e = .returned (.bool (bound n)) ∧ w = w' := by
  go_enter Tryz.func87, Tryz.ntmps87
  go_wp2_with fail
  refine (wrapOf_any n _).mono ?_
  rintro e w1 ⟨rfl, rfl⟩
  go_wp2
  go_ret
  exact ⟨ret_bool (bound_wrap n), rfl⟩

set_option maxHeartbeats 1000000 in
set_option maxRecDepth 100000 in
theorem allInBounds_any (A : Option Addr) (m c : Nat) (xs : List Int) (w : World) (hr : Reads w w.heap.size .i64 A m xs) (hn : m ≤ 1048576) :
    Calls Tryz.prog 88 #[.slice A m c] w fun e w' => e = .returned (.bool (allB xs)) ∧ w = w' := by
  have hm := hr.1
  go_enter Tryz.func88, Tryz.ntmps88
  go_wp2
  go_loopw [7] (fun i wr => ∃ k : Nat, k ≤ m ∧ i = .int .i64 k ∧ Hid (∀ t ∈ xs.take k, bound t = true) ∧ wr = w) (fun i _ => m - (intOf i).toNat)
  case atStart => exact ⟨0, Nat.zero_le _, rfl, put (fun t h => by simp at h), rfl⟩
  case round =>
    obtain ⟨k, hk, rfl, hall, rfl⟩ := hrel
    by_cases hlt : k < m
    · obtain ⟨b, off, x, rfl, hb', hc1, hxt⟩ := hr.at_ hlt
      cases q : bound x
      · have HNO := put (show allB xs = false from no_of fun h => by have h1 := List.all_eq_true.1 h _ (mem_of_at hxt.out); rw [q] at h1; cases h1)
        go_wp2_with fail
        refine (inBounds_any x _).mono ?_
        rintro e w1 ⟨rfl, rfl⟩
        rw [q]
        go_wp2
        go_ret
        exact ⟨ret_bool HNO.out.symm, rfl⟩
      · have hall2 := put (all_more (p := bound) hall.out hxt.out q)
        go_wp2_with fail
        refine (inBounds_any x _).mono ?_
        rintro e w1 ⟨rfl, rfl⟩
        rw [q]
        go_wp2
        go_roundw
        case rel => exact ⟨k + 1, by omega, by go_num, hall2, trivial⟩
        case measure => simp [intOf]; omega
    · have hfin := put (show xs.take k = xs from List.take_of_length_le (by omega))
      have HYES := put (show allB xs = true from List.all_eq_true.2 (by have := hall.out; rwa [hfin.out] at this))
      go_wp2
      go_ret
      exact ⟨ret_bool HYES.out.symm, rfl⟩

set_option maxHeartbeats 4000000 in
set_option maxRecDepth 100000 in
theorem goodFrame_any (A : Option Addr) (n c : Nat) (cs : List Cd) (ide fn pla result mode value base : Int) (pile vars : List Int) (flags : List Bool) (off : Bool) (A1 : Option Addr) (n1 c1 : Nat) (A2 : Option Addr) (n2 c2 : Nat) (A3 : Option Addr) (n3 c3 : Nat) (w : World) (hr : ReadsC w w.heap.size A n cs) (hf : IsFr w w.heap.size (⟨ide, fn, pla, pile, vars, flags, result, mode, value, base, off⟩ : Fr) A1 n1 A2 n2 A3 n3) (l1 : n1 ≤ 1048576) (l2 : n2 ≤ 1048576) :
    Calls Tryz.prog 90 #[.agg #[.slice A n c], .agg #[.int .i64 ide, .int .i64 fn, .int .i64 pla, .slice A1 n1 c1, .slice A2 n2 c2, .slice A3 n3 c3, .int .i64 result, .int .i64 mode, .int .i64 value, .int .i64 base, .bool off]] w fun e w' => e = .returned (.bool (frB cs (⟨ide, fn, pla, pile, vars, flags, result, mode, value, base, off⟩ : Fr))) ∧ Below w.heap.size w w' := by
  have hlen := hr.1
  have hb0 : Below w.heap.size w ((w.alloc (.cells #[.slice A n c] 36)).alloc (.cells #[.int .i64 ide, .int .i64 fn, .int .i64 pla, .slice A1 n1 c1, .slice A2 n2 c2, .slice A3 n3 c3, .int .i64 result, .int .i64 mode, .int .i64 value, .int .i64 base, .bool off] 78)) := ((Below.refl _ _).alloc (Nat.le_refl _) _).alloc (by simp) _
  have hx0 : Keep ((w.alloc (.cells #[.slice A n c] 36)).alloc (.cells #[.int .i64 ide, .int .i64 fn, .int .i64 pla, .slice A1 n1 c1, .slice A2 n2 c2, .slice A3 n3 c3, .int .i64 result, .int .i64 mode, .int .i64 value, .int .i64 base, .bool off] 78)) w.heap.size #[.slice A n c] 36 := (Keep.new _ _ _).alloc _
  have hy0 : Keep ((w.alloc (.cells #[.slice A n c] 36)).alloc (.cells #[.int .i64 ide, .int .i64 fn, .int .i64 pla, .slice A1 n1 c1, .slice A2 n2 c2, .slice A3 n3 c3, .int .i64 result, .int .i64 mode, .int .i64 value, .int .i64 base, .bool off] 78)) (w.heap.size + 1) #[.int .i64 ide, .int .i64 fn, .int .i64 pla, .slice A1 n1 c1, .slice A2 n2 c2, .slice A3 n3 c3, .int .i64 result, .int .i64 mode, .int .i64 value, .int .i64 base, .bool off] 78 := by
    have := Keep.new (w.alloc (.cells #[.slice A n c] 36)) #[.int .i64 ide, .int .i64 fn, .int .i64 pla, .slice A1 n1 c1, .slice A2 n2 c2, .slice A3 n3 c3, .int .i64 result, .int .i64 mode, .int .i64 value, .int .i64 base, .bool off] 78
    rw [World.size_alloc] at this
    exact this
  have P1 := put hf.pile
  have P2 := put hf.vars
  have P3 := put hf.flags
  have E2 := put hf.vars.1
  have E3 := put hf.flags.1
  clear hf
  obtain hfn | hfn | ⟨j, rfl, hj⟩ : fn < 0 ∨ (0 ≤ fn ∧ (n : Int) ≤ fn) ∨ ∃ j : Nat, fn = (j : Int) ∧ j < n := by
    by_cases h0 : fn < 0
    · exact .inl h0
    · by_cases h1 : (n : Int) ≤ fn
      · exact .inr (.inl ⟨by omega, h1⟩)
      · exact .inr (.inr ⟨fn.toNat, by omega, by omega⟩)
  · have HNO := put (show frB cs (⟨ide, fn, pla, pile, vars, flags, result, mode, value, base, off⟩ : Fr) = false from no_of fun h => by obtain ⟨s9, h9⟩ := (frB_iff _ _).1 h; have := h9.fn0; simp only at this; omega)
    go_enter Tryz.func90, Tryz.ntmps90
    go_wp2
    go_ret
    exact ⟨ret_bool HNO.out.symm, hb0⟩
  · have HNO := put (show frB cs (⟨ide, fn, pla, pile, vars, flags, result, mode, value, base, off⟩ : Fr) = false from no_of fun h => by obtain ⟨s9, h9⟩ := (frB_iff _ _).1 h; have a1 := h9.fn0; have a2 := h9.at_; simp only at a1 a2; have a3 := (List.getElem?_eq_some_iff.1 a2).1; omega)
    have hfn0 := hfn.1
    have hfn1 := hfn.2
    have hfnB : (fn < 0) = False := by simp; omega
    go_enter Tryz.func90, Tryz.ntmps90
    go_wp2
    go_ret
    exact ⟨ret_bool HNO.out.symm, hb0⟩
  obtain ⟨b, o, s, A4, n4, c4, A5, n5, c5, A6, n6, c6, rfl, hb', g0, g1, g2, g3, g4, r1, r2, r3, hx⟩ := hr.at_ hj
  have m4 := put r1.1
  have m5 := put r2.1
  clear r1 r2 r3 hr
  have q0 := (hb0.cell (p := ⟨b, o + j * 5, none⟩) hb').trans g0
  have q1 := (hb0.cell (p := ⟨b, o + j * 5 + 1, none⟩) hb').trans g1
  have q2 := (hb0.cell (p := ⟨b, o + j * 5 + 2, none⟩) hb').trans g2
  have q3 := (hb0.cell (p := ⟨b, o + j * 5 + 3, none⟩) hb').trans g3
  have q4 := (hb0.cell (p := ⟨b, o + j * 5 + 4, none⟩) hb').trans g4
  clear g0 g1 g2 g3 g4
  have hb1 := hb0.alloc hb0.size (.cells #[.int .i64 s.params, .int .i64 s.vars, .slice A4 n4 c4, .slice A5 n5 c5, .slice A6 n6 c6] 82)
  have hjn : (j : Int) < (n : Int) := by omega
  have hj0 : (0 : Int) ≤ (j : Int) := by omega
  by_cases hp1 : pla < 0
  · have HNO := put (show frB cs (⟨ide, (j : Int), pla, pile, vars, flags, result, mode, value, base, off⟩ : Fr) = false from no_of fun h => by obtain ⟨s9, h9⟩ := (frB_iff _ _).1 h; have := h9.pla0; simp only at this; omega)
    go_enter Tryz.func90, Tryz.ntmps90
    go_wp2
    go_ret
    exact ⟨ret_bool HNO.out.symm, hb1⟩
  by_cases hp2 : (n5 : Int) ≤ pla
  · have HNO := put (show frB cs (⟨ide, (j : Int), pla, pile, vars, flags, result, mode, value, base, off⟩ : Fr) = false from no_of fun h => by obtain ⟨s9, h9⟩ := (frB_iff _ _).1 h; have e9 : s9 = s := (by have a9 := h9.at_; simp only [Int.toNat_natCast] at a9; rw [hx.out] at a9; injection a9 with a9; exact a9.symm); subst e9; have a1 := h9.pla1; have a2 := m5.out; simp only at a1; omega)
    go_enter Tryz.func90, Tryz.ntmps90
    go_wp2
    go_ret
    exact ⟨ret_bool HNO.out.symm, hb1⟩
  by_cases hp3 : ((n2 : Int) != s.vars) = true
  · have HNO := put (show frB cs (⟨ide, (j : Int), pla, pile, vars, flags, result, mode, value, base, off⟩ : Fr) = false from no_of fun h => by obtain ⟨s9, h9⟩ := (frB_iff _ _).1 h; have e9 : s9 = s := (by have a9 := h9.at_; simp only [Int.toNat_natCast] at a9; rw [hx.out] at a9; injection a9 with a9; exact a9.symm); subst e9; have a1 := h9.vars; have a2 := E2.out; simp only at a1 a2; rw [bne_iff_ne] at hp3; omega)
    go_enter Tryz.func90, Tryz.ntmps90
    go_wp2
    go_ret
    exact ⟨ret_bool HNO.out.symm, hb1⟩
  replace hp3 : ((n2 : Int) != s.vars) = false := by simpa using hp3
  by_cases hp4 : ((n3 : Int) != (n4 : Int)) = true
  · have HNO := put (show frB cs (⟨ide, (j : Int), pla, pile, vars, flags, result, mode, value, base, off⟩ : Fr) = false from no_of fun h => by obtain ⟨s9, h9⟩ := (frB_iff _ _).1 h; have e9 : s9 = s := (by have a9 := h9.at_; simp only [Int.toNat_natCast] at a9; rw [hx.out] at a9; injection a9 with a9; exact a9.symm); subst e9; have a1 := h9.flags; have a2 := E3.out; have a3 := m4.out; simp only at a1 a2; rw [bne_iff_ne] at hp4; omega)
    go_enter Tryz.func90, Tryz.ntmps90
    go_wp2
    go_ret
    exact ⟨ret_bool HNO.out.symm, hb1⟩
  replace hp4 : ((n3 : Int) != (n4 : Int)) = false := by simpa using hp4
  by_cases hp5 : mode < 0
  · have HNO := put (show frB cs (⟨ide, (j : Int), pla, pile, vars, flags, result, mode, value, base, off⟩ : Fr) = false from no_of fun h => by obtain ⟨s9, h9⟩ := (frB_iff _ _).1 h; have := h9.mode; simp only at this; omega)
    go_enter Tryz.func90, Tryz.ntmps90
    go_wp2
    go_ret
    exact ⟨ret_bool HNO.out.symm, hb1⟩
  by_cases hp6 : 3 < mode
  · have HNO := put (show frB cs (⟨ide, (j : Int), pla, pile, vars, flags, result, mode, value, base, off⟩ : Fr) = false from no_of fun h => by obtain ⟨s9, h9⟩ := (frB_iff _ _).1 h; have := h9.mode; simp only at this; omega)
    go_enter Tryz.func90, Tryz.ntmps90
    go_wp2
    go_ret
    exact ⟨ret_bool HNO.out.symm, hb1⟩
  by_cases hp7 : (base != 1) = true ∧ (base != 3) = true
  · have HNO := put (show frB cs (⟨ide, (j : Int), pla, pile, vars, flags, result, mode, value, base, off⟩ : Fr) = false from no_of fun h => by obtain ⟨s9, h9⟩ := (frB_iff _ _).1 h; have := h9.base; simp only at this; rw [bne_iff_ne, bne_iff_ne] at hp7; omega)
    have hp8 := hp7.1
    have hp9 := hp7.2
    clear hp7
    go_enter Tryz.func90, Tryz.ntmps90
    go_wp2
    go_ret
    exact ⟨ret_bool HNO.out.symm, hb1⟩
  have hbs : ((base != 1) = false ∨ ((base != 1) = true ∧ (base != 3) = false)) := by
    by_cases h1 : base = 1
    · exact .inl (by simp [h1])
    · refine .inr ⟨by simp [h1], ?_⟩
      by_cases h3 : base = 3
      · simp [h3]
      · exact absurd ⟨by simp [h1], by simp [h3]⟩ hp7
  have HOK := put (fun (h1 : bound ide = true) (h2 : bound result = true) (h3 : bound value = true) (h4 : allB pile = true) (h5 : allB vars = true) => (frB_iff cs (⟨ide, (j : Int), pla, pile, vars, flags, result, mode, value, base, off⟩ : Fr)).2 ⟨s, ⟨hx.out, by dsimp only; omega, by dsimp only; omega, by have := m5.out; dsimp only; omega, by have a1 := E2.out; dsimp only at a1 ⊢; have a2 := (bne_eq_false_iff_eq).1 hp3; omega, by have a1 := E3.out; have a2 := m4.out; have a3 := (bne_eq_false_iff_eq).1 hp4; dsimp only at a1 ⊢; omega, by dsimp only; omega, hbs.elim (fun h => .inl (bne_eq_false_iff_eq.1 h)) (fun h => .inr (bne_eq_false_iff_eq.1 h.2)), h1, h2, h3, h4, h5⟩⟩)
  have HNO := put (fun (q : bound ide = false ∨ bound result = false ∨ bound value = false ∨ allB pile = false ∨ allB vars = false) => (show frB cs (⟨ide, (j : Int), pla, pile, vars, flags, result, mode, value, base, off⟩ : Fr) = false from no_of fun h => by
    obtain ⟨s9, h9⟩ := (frB_iff _ _).1 h
    rcases q with q | q | q | q | q
    · have := h9.ide; dsimp only at this; rw [q] at this; cases this
    · have := h9.result; dsimp only at this; rw [q] at this; cases this
    · have := h9.value; dsimp only at this; rw [q] at this; cases this
    · have := h9.pile; dsimp only at this; rw [q] at this; cases this
    · have := h9.vrs; dsimp only at this; rw [q] at this; cases this))
  clear hp7
  have R1 := put ((P1.out.below hb1).more hb1.size)
  have R2 := put ((P2.out.below hb1).more hb1.size)
  rcases hbs with hbs | ⟨hbs, hbs2⟩
  all_goals (
    go_enter Tryz.func90, Tryz.ntmps90
    go_wp2_with fail
    refine (inBounds_any ide _).mono ?_
    rintro e w1 ⟨rfl, rfl⟩
    cases u1 : bound ide
    · have HN := put (HNO.out (.inl u1))
      go_wp2
      go_ret
      exact ⟨ret_bool HN.out.symm, hb1⟩
    go_wp2_with fail
    refine (inBounds_any result _).mono ?_
    rintro e w1 ⟨rfl, rfl⟩
    cases u2 : bound result
    · have HN := put (HNO.out (.inr (.inl u2)))
      go_wp2
      go_ret
      exact ⟨ret_bool HN.out.symm, hb1⟩
    go_wp2_with fail
    refine (inBounds_any value _).mono ?_
    rintro e w1 ⟨rfl, rfl⟩
    cases u3 : bound value
    · have HN := put (HNO.out (.inr (.inr (.inl u3))))
      go_wp2
      go_ret
      exact ⟨ret_bool HN.out.symm, hb1⟩
    go_wp2_with fail
    refine (allInBounds_any A1 n1 c1 pile _ R1.out l1).mono ?_
    rintro e w1 ⟨rfl, rfl⟩
    cases u4 : allB pile
    · have HN := put (HNO.out (.inr (.inr (.inr (.inl u4)))))
      go_wp2
      go_ret
      exact ⟨ret_bool HN.out.symm, hb1⟩
    go_wp2_with fail
    refine (allInBounds_any A2 n2 c2 vars _ R2.out l2).mono ?_
    rintro e w1 ⟨rfl, rfl⟩
    cases u5 : allB vars
    · have HN := put (HNO.out (.inr (.inr (.inr (.inr u5)))))
      go_wp2
      go_ret
      exact ⟨ret_bool HN.out.symm, hb1⟩
    have HY := put (HOK.out u1 u2 u3 u4 u5)
    go_wp2
    go_ret
    exact ⟨ret_bool HY.out.symm, hb1⟩)

end Go.Proofs.YtpbkkjiikhjanaaGreatDoor

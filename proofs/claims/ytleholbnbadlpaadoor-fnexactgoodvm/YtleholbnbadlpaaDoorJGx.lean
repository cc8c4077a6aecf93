/-
  Whether a frame is at a call of the one above it: the program's isCalling.
-/
import Derived.Test.YtleholbnbadlpaaDoorJGw
import Derived.Deep.QuietTactic
import Derived.BigQuiet
namespace Go.Proofs.YtleholbnbadlpaaDoor
open Go.RowKit Go.Deep Exs Ht

theorem insB_off {x : Int} (h : insB 17 x = true) : 0 ≤ x := by
  have h' : within x 0 1000000 = true := h
  exact ((within_iff _ _ _).1 h').1
theorem nmB_off {cs : List Cd} {s : Cd} {x : Int} (h : nmB cs s (17, x) = true) : x < (s.sites.length : Int) := by
  have h' : decide (x < (s.sites.length : Int)) = true := h
  exact of_decide_eq_true h'
theorem callB_no (s : Cd) (f g : Fr) (op x : Int) (hi : s.ins[f.pla.toNat]? = some (op, x)) (h : ¬ ((op = 7 ∧ g.fn = x ∧ g.off = false) ∨ (op = 17 ∧ s.sites[x.toNat]? = some g.fn ∧ g.off = true))) : callB s f g = false := no_of fun h' => by
  obtain ⟨op', x', h1, h2⟩ := (callB_iff s f g).1 h'
  rw [hi] at h1
  injection h1 with h1
  injection h1 with e1 e2
  subst e1 e2
  exact h h2
theorem callB_yes (s : Cd) (f g : Fr) (op x : Int) (hi : s.ins[f.pla.toNat]? = some (op, x)) (h : (op = 7 ∧ g.fn = x ∧ g.off = false) ∨ (op = 17 ∧ s.sites[x.toNat]? = some g.fn ∧ g.off = true)) : callB s f g = true := (callB_iff s f g).2 ⟨op, x, hi, h⟩

set_option maxHeartbeats 4000000 in
set_option maxRecDepth 100000 in
theorem isCalling_any (A : Option Addr) (n c : Nat) (cs : List Cd) (j k : Nat) (ide result mode value base : Int) (pile vars : List Int) (flags : List Bool) (off : Bool) (A1 : Option Addr) (n1 c1 : Nat) (A2 : Option Addr) (n2 c2 : Nat) (A3 : Option Addr) (n3 c3 : Nat) (ide' fn' pla' result' mode' value' base' : Int) (pile' vars' : List Int) (flags' : List Bool) (off' : Bool) (A1' : Option Addr) (n1' c1' : Nat) (A2' : Option Addr) (n2' c2' : Nat) (A3' : Option Addr) (n3' c3' : Nat) (s : Cd) (op x : Int) (w : World) (hr : ReadsC w w.heap.size A n cs) (hj : j < n) (hsj : cs[j]? = some s) (hins : s.ins[k]? = some (op, x)) (hnm : nmB cs s (op, x) = true) (hib : insB op x = true) :
    Calls Tryd.prog 48 #[.agg #[.slice A n c], .agg #[.int .i64 ide, .int .i64 (j : Int), .int .i64 (k : Int), .slice A1 n1 c1, .slice A2 n2 c2, .slice A3 n3 c3, .int .i64 result, .int .i64 mode, .int .i64 value, .int .i64 base, .bool off], .agg #[.int .i64 ide', .int .i64 fn', .int .i64 pla', .slice A1' n1' c1', .slice A2' n2' c2', .slice A3' n3' c3', .int .i64 result', .int .i64 mode', .int .i64 value', .int .i64 base', .bool off']] w fun e w' => e = .returned (.bool (callB s (⟨ide, (j : Int), (k : Int), pile, vars, flags, result, mode, value, base, off⟩ : Fr) (⟨ide', fn', pla', pile', vars', flags', result', mode', value', base', off'⟩ : Fr))) ∧ Below w.heap.size w w' := by
  have CN := put (callB_no s (⟨ide, (j : Int), (k : Int), pile, vars, flags, result, mode, value, base, off⟩ : Fr) (⟨ide', fn', pla', pile', vars', flags', result', mode', value', base', off'⟩ : Fr) op x (by simpa using hins))
  have CY := put (callB_yes s (⟨ide, (j : Int), (k : Int), pile, vars, flags, result, mode, value, base, off⟩ : Fr) (⟨ide', fn', pla', pile', vars', flags', result', mode', value', base', off'⟩ : Fr) op x (by simpa using hins))
  generalize callB s (⟨ide, (j : Int), (k : Int), pile, vars, flags, result, mode, value, base, off⟩ : Fr) (⟨ide', fn', pla', pile', vars', flags', result', mode', value', base', off'⟩ : Fr) = ans at CN CY ⊢
  have hb0 : Below w.heap.size w (((w.alloc (.cells #[.slice A n c] 35)).alloc (.cells #[.int .i64 ide, .int .i64 (j : Int), .int .i64 (k : Int), .slice A1 n1 c1, .slice A2 n2 c2, .slice A3 n3 c3, .int .i64 result, .int .i64 mode, .int .i64 value, .int .i64 base, .bool off] 77)).alloc (.cells #[.int .i64 ide', .int .i64 fn', .int .i64 pla', .slice A1' n1' c1', .slice A2' n2' c2', .slice A3' n3' c3', .int .i64 result', .int .i64 mode', .int .i64 value', .int .i64 base', .bool off'] 77)) := (((Below.refl _ _).alloc (Nat.le_refl _) _).alloc (by simp) _).alloc (by simp; omega) _
  have hx0 : Keep (((w.alloc (.cells #[.slice A n c] 35)).alloc (.cells #[.int .i64 ide, .int .i64 (j : Int), .int .i64 (k : Int), .slice A1 n1 c1, .slice A2 n2 c2, .slice A3 n3 c3, .int .i64 result, .int .i64 mode, .int .i64 value, .int .i64 base, .bool off] 77)).alloc (.cells #[.int .i64 ide', .int .i64 fn', .int .i64 pla', .slice A1' n1' c1', .slice A2' n2' c2', .slice A3' n3' c3', .int .i64 result', .int .i64 mode', .int .i64 value', .int .i64 base', .bool off'] 77)) w.heap.size #[.slice A n c] 35 := ((Keep.new _ _ _).alloc _).alloc _
  have hy0 : Keep (((w.alloc (.cells #[.slice A n c] 35)).alloc (.cells #[.int .i64 ide, .int .i64 (j : Int), .int .i64 (k : Int), .slice A1 n1 c1, .slice A2 n2 c2, .slice A3 n3 c3, .int .i64 result, .int .i64 mode, .int .i64 value, .int .i64 base, .bool off] 77)).alloc (.cells #[.int .i64 ide', .int .i64 fn', .int .i64 pla', .slice A1' n1' c1', .slice A2' n2' c2', .slice A3' n3' c3', .int .i64 result', .int .i64 mode', .int .i64 value', .int .i64 base', .bool off'] 77)) (w.heap.size + 1) #[.int .i64 ide, .int .i64 (j : Int), .int .i64 (k : Int), .slice A1 n1 c1, .slice A2 n2 c2, .slice A3 n3 c3, .int .i64 result, .int .i64 mode, .int .i64 value, .int .i64 base, .bool off] 77 := by
    have := (Keep.new (w.alloc (.cells #[.slice A n c] 35)) #[.int .i64 ide, .int .i64 (j : Int), .int .i64 (k : Int), .slice A1 n1 c1, .slice A2 n2 c2, .slice A3 n3 c3, .int .i64 result, .int .i64 mode, .int .i64 value, .int .i64 base, .bool off] 77).alloc (.cells #[.int .i64 ide', .int .i64 fn', .int .i64 pla', .slice A1' n1' c1', .slice A2' n2' c2', .slice A3' n3' c3', .int .i64 result', .int .i64 mode', .int .i64 value', .int .i64 base', .bool off'] 77)
    rw [World.size_alloc] at this
    exact this
  have hz0 : Keep (((w.alloc (.cells #[.slice A n c] 35)).alloc (.cells #[.int .i64 ide, .int .i64 (j : Int), .int .i64 (k : Int), .slice A1 n1 c1, .slice A2 n2 c2, .slice A3 n3 c3, .int .i64 result, .int .i64 mode, .int .i64 value, .int .i64 base, .bool off] 77)).alloc (.cells #[.int .i64 ide', .int .i64 fn', .int .i64 pla', .slice A1' n1' c1', .slice A2' n2' c2', .slice A3' n3' c3', .int .i64 result', .int .i64 mode', .int .i64 value', .int .i64 base', .bool off'] 77)) (w.heap.size + 1 + 1) #[.int .i64 ide', .int .i64 fn', .int .i64 pla', .slice A1' n1' c1', .slice A2' n2' c2', .slice A3' n3' c3', .int .i64 result', .int .i64 mode', .int .i64 value', .int .i64 base', .bool off'] 77 := by
    have := Keep.new ((w.alloc (.cells #[.slice A n c] 35)).alloc (.cells #[.int .i64 ide, .int .i64 (j : Int), .int .i64 (k : Int), .slice A1 n1 c1, .slice A2 n2 c2, .slice A3 n3 c3, .int .i64 result, .int .i64 mode, .int .i64 value, .int .i64 base, .bool off] 77)) #[.int .i64 ide', .int .i64 fn', .int .i64 pla', .slice A1' n1' c1', .slice A2' n2' c2', .slice A3' n3' c3', .int .i64 result', .int .i64 mode', .int .i64 value', .int .i64 base', .bool off'] 77
    rw [World.size_alloc, World.size_alloc] at this
    exact this
  obtain ⟨b, o, s', A4, n4, c4, A5, n5, c5, A6, n6, c6, rfl, hb', g0, g1, g2, g3, g4, r1, r2, r3, hx⟩ := hr.at_ hj
  obtain rfl : s = s' := by have := hx.out; rw [hsj] at this; injection this with this
  have hk : k < n5 := by rw [← r2.1]; exact (List.getElem?_eq_some_iff.1 hins).1
  obtain ⟨b5, o5, op5, x5, hA5, hb5, i0, i1, hi5⟩ := r2.at_ hk
  obtain ⟨rfl, rfl⟩ : op = op5 ∧ x = x5 := by have := hi5.out; rw [hins] at this; injection this with this; injection this with h1 h2; exact ⟨h1, h2⟩
  clear hi5 hsj hx
  subst hA5
  have R1 := put r1
  clear r1 r2 r3 hr
  have q0 := (hb0.cell (p := ⟨b, o + j * 5, none⟩) hb').trans g0
  have q1 := (hb0.cell (p := ⟨b, o + j * 5 + 1, none⟩) hb').trans g1
  have q2 := (hb0.cell (p := ⟨b, o + j * 5 + 2, none⟩) hb').trans g2
  have q3 := (hb0.cell (p := ⟨b, o + j * 5 + 3, none⟩) hb').trans g3
  have q4 := (hb0.cell (p := ⟨b, o + j * 5 + 4, none⟩) hb').trans g4
  have hb1 := hb0.alloc hb0.size (.cells #[.int .i64 s.params, .int .i64 s.vars, .slice A4 n4 c4, .slice (some ⟨b5, o5, none⟩) n5 c5, .slice A6 n6 c6] 72)
  have z0 := (hb1.cell (p := ⟨b5, o5 + k * 2, none⟩) hb5).trans i0
  have z1 := (hb1.cell (p := ⟨b5, o5 + k * 2 + 1, none⟩) hb5).trans i1
  have hb2 := hb1.alloc hb1.size (.cells #[.int .i64 op, .int .i64 x] 92)
  clear g0 g1 g2 g3 g4 i0 i1
  have hjn : (j : Int) < (n : Int) := by omega
  have hj0 : (0 : Int) ≤ (j : Int) := by omega
  have hkn : (k : Int) < (n5 : Int) := by omega
  have hk0 : (0 : Int) ≤ (k : Int) := by omega
  by_cases h7 : op = 7
  · subst h7
    cases off'
    · by_cases hfn : fn' = x
      · have HY := put (CY.out (.inl ⟨rfl, hfn, rfl⟩))
        clear CN CY
        have e1 : (fn' == x) = true := by simp [hfn]
        have HF := put hfn
        clear hfn
        go_enter Tryd.func48, Tryd.ntmps48
        go_wp2
        go_ret
        exact ⟨ret_bool HY.out.symm, hb2⟩
      · have HN := put (CN.out (by rintro (⟨_, h, _⟩ | ⟨h, _⟩); exact hfn h; omega))
        clear CN CY
        have e1 : (fn' == x) = false := by simp [hfn]
        clear hfn
        go_enter Tryd.func48, Tryd.ntmps48
        go_wp2
        go_ret
        exact ⟨ret_bool HN.out.symm, hb2⟩
    · have HN := put (CN.out (by rintro (⟨_, _, h⟩ | ⟨h, _⟩); exact Bool.noConfusion h; omega))
      clear CN CY
      go_enter Tryd.func48, Tryd.ntmps48
      go_wp2
      go_ret
      exact ⟨ret_bool HN.out.symm, hb2⟩
  by_cases h17 : op = 17
  · subst h17
    have e7 : ((17 : Int) == 7) = false := by decide
    cases off'
    · have HN := put (CN.out (by rintro (⟨h, _⟩ | ⟨_, _, h⟩); omega; exact Bool.noConfusion h))
      clear CN CY h7
      go_enter Tryd.func48, Tryd.ntmps48
      go_wp2_with fail
      go_quiet (fail)
      all_goals (
        go_wp2
        go_ret
        exact ⟨ret_bool HN.out.symm, by first | exact hb2 | exact hb2.drew | exact below_drewN hb2 _⟩)
    · have hx0' : 0 ≤ x := insB_off hib
      have hx1 : x < (s.sites.length : Int) := nmB_off hnm
      obtain ⟨i, rfl⟩ : ∃ i : Nat, x = (i : Int) := ⟨x.toNat, by omega⟩
      have hin : i < n4 := by rw [← R1.out.1]; omega
      obtain ⟨b4, o4, y, hA4, hb4, k0, hy⟩ := R1.out.at_ hin
      have hinI : (i : Int) < (n4 : Int) := by omega
      subst hA4
      have v0 := (hb2.cell (p := ⟨b4, o4 + i, none⟩) hb4).trans k0
      clear k0 hx0' hx1
      have hi0 : (0 : Int) ≤ (i : Int) := by omega
      by_cases hfn : fn' = y
      · have HY := put (CY.out (.inr ⟨rfl, by simpa [hfn] using hy.out, rfl⟩))
        have e1 : (fn' == y) = true := by simp [hfn]
        clear CN CY h7 hfn
        go_enter Tryd.func48, Tryd.ntmps48
        go_wp2_with fail
        go_quiet (fail)
        all_goals (
          go_wp2
          go_ret
          exact ⟨ret_bool HY.out.symm, by first | exact hb2 | exact hb2.drew | exact below_drewN hb2 _⟩)
      · have HN := put (CN.out (by rintro (⟨h, _⟩ | ⟨_, h, _⟩); omega; simp [hy.out] at h; exact hfn h.symm))
        have e1 : (fn' == y) = false := by simp [hfn]
        clear CN CY h7 hfn
        go_enter Tryd.func48, Tryd.ntmps48
        go_wp2_with fail
        go_quiet (fail)
        all_goals (
          go_wp2
          go_ret
          exact ⟨ret_bool HN.out.symm, by first | exact hb2 | exact hb2.drew | exact below_drewN hb2 _⟩)
  · have HN := put (CN.out (by rintro (⟨h, _⟩ | ⟨h, _⟩); exact h7 h; exact h17 h))
    have e7 : (op == 7) = false := beq_of h7
    have e17 : (op == 17) = false := beq_of h17
    clear CN CY
    go_enter Tryd.func48, Tryd.ntmps48
    go_wp2
    go_ret
    exact ⟨ret_bool HN.out.symm, hb2⟩

end Go.Proofs.YtleholbnbadlpaaDoor

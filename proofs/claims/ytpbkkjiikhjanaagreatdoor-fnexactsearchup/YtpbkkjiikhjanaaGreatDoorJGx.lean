/-
  Texts joined: Gx Gy.
-/
import Derived.Test.YtpbkkjiikhjanaaGreatDoorJGw
import Derived.Deep.QuietTactic
import Derived.BigQuiet
import Derived.Laws.OwnMore
/-
  Whether a frame is at a call of the one above it: the program's isCalling.
-/
namespace Go.Proofs.YtpbkkjiikhjanaaGreatDoor
open Go.RowKit Go.Deep Exs Ht

theorem insB_off {x : Int} (h : insB 17 x = true) : 0 ≤ x := by
  have h' : within x 0 1000000 = true := h
  exact ((within_iff _ _ _).1 h').1
theorem nmB_off {cs : List Cd} {s : Cd} {x : Int} (h : nmB cs s (17, x) = true) : x < (s.sites.length : Int) := by
  have h' : decide (x < (s.sites.length : Int)) = true := h
  exact of_decide_eq_true h'
theorem callB_no (s : Cd) (f g : Fr) (op x : Int) (hi : s.ins[f.pla.toNat]? = some (op, x)) (h : ¬ ((op = 7 ∧ g.fn = x ∧ g.off = false) ∨ (op = 17 ∧ s.sites[x.toNat]? = some g.fn ∧ g.off = true))) : callB s f g = false := no_of fun h' => by
  obtain ⟨op', x', h1, h2⟩ := (callB_iff s f g).1 h'
  rw [hi] at h1
  injection h1 with h1
  injection h1 with e1 e2
  subst e1 e2
  exact h h2
theorem callB_yes (s : Cd) (f g : Fr) (op x : Int) (hi : s.ins[f.pla.toNat]? = some (op, x)) (h : (op = 7 ∧ g.fn = x ∧ g.off = false) ∨ (op = 17 ∧ s.sites[x.toNat]? = some g.fn ∧ g.off = true)) : callB s f g = true := (callB_iff s f g).2 ⟨op, x, hi, h⟩

set_option maxHeartbeats 4000000 in
set_option maxRecDepth 100000 in
theorem isCalling_any (A : Option Addr) (n c : Nat) (cs : List Cd) (j k : Nat) (ide result mode value base : Int) (pile vars : List Int) (flags : List Bool) (off : Bool) (A1 : Option Addr) (n1 c1 : Nat) (A2 : Option Addr) (n2 c2 : Nat) (A3 : Option Addr) (n3 c3 : Nat) (ide' fn' pla' result' mode' value' base' : Int) (pile' vars' : List Int) (flags' : List Bool) (off' : Bool) (A1' : Option Addr) (n1' c1' : Nat) (A2' : Option Addr) (n2' c2' : Nat) (A3' : Option Addr) (n3' c3' : Nat) (s : Cd) (op x : Int) (w : World) (hr : ReadsC w w.heap.size A n cs) (hj : j < n) (hsj : cs[j]? = some s) (hins : s.ins[k]? = some (op, x)) (hnm : nmB cs s (op, x) = true) (hib : insB op x = true) :
    Calls Tryz.prog 91 #[.agg #[.slice A n c], .agg #[.int .i64 ide, .int .i64 (j : Int), .int .i64 (k : Int), .slice A1 n1 c1, .slice A2 n2 c2, .slice A3 n3 c3, .int .i64 result, .int .i64 mode, .int .i64 value, .int .i64 base, .bool off], .agg #[.int .i64 ide', .int .i64 fn', .int .i64 pla', .slice A1' n1' c1', .slice A2' n2' c2', .slice A3' n3' c3', .int .i64 result', .int .i64 mode', .int .i64 value', .int .i64 base', .bool off']] w fun e w' => e = .returned (.bool (callB s (⟨ide, (j : Int), (k : Int), pile, vars, flags, result, mode, value, base, off⟩ : Fr) (⟨ide', fn', pla', pile', vars', flags', result', mode', value', base', off'⟩ : Fr))) ∧ Below w.heap.size w w' := by
  have CN := put (callB_no s (⟨ide, (j : Int), (k : Int), pile, vars, flags, result, mode, value, base, off⟩ : Fr) (⟨ide', fn', pla', pile', vars', flags', result', mode', value', base', off'⟩ : Fr) op x (by simpa using hins))
  have CY := put (callB_yes s (⟨ide, (j : Int), (k : Int), pile, vars, flags, result, mode, value, base, off⟩ : Fr) (⟨ide', fn', pla', pile', vars', flags', result', mode', value', base', off'⟩ : Fr) op x (by simpa using hins))
  generalize callB s (⟨ide, (j : Int), (k : Int), pile, vars, flags, result, mode, value, base, off⟩ : Fr) (⟨ide', fn', pla', pile', vars', flags', result', mode', value', base', off'⟩ : Fr) = ans at CN CY ⊢
  have hb0 : Below w.heap.size w (((w.alloc (.cells #[.slice A n c] 36)).alloc (.cells #[.int .i64 ide, .int .i64 (j : Int), .int .i64 (k : Int), .slice A1 n1 c1, .slice A2 n2 c2, .slice A3 n3 c3, .int .i64 result, .int .i64 mode, .int .i64 value, .int .i64 base, .bool off] 78)).alloc (.cells #[.int .i64 ide', .int .i64 fn', .int .i64 pla', .slice A1' n1' c1', .slice A2' n2' c2', .slice A3' n3' c3', .int .i64 result', .int .i64 mode', .int .i64 value', .int .i64 base', .bool off'] 78)) := (((Below.refl _ _).alloc (Nat.le_refl _) _).alloc (by simp) _).alloc (by simp; omega) _
  have hx0 : Keep (((w.alloc (.cells #[.slice A n c] 36)).alloc (.cells #[.int .i64 ide, .int .i64 (j : Int), .int .i64 (k : Int), .slice A1 n1 c1, .slice A2 n2 c2, .slice A3 n3 c3, .int .i64 result, .int .i64 mode, .int .i64 value, .int .i64 base, .bool off] 78)).alloc (.cells #[.int .i64 ide', .int .i64 fn', .int .i64 pla', .slice A1' n1' c1', .slice A2' n2' c2', .slice A3' n3' c3', .int .i64 result', .int .i64 mode', .int .i64 value', .int .i64 base', .bool off'] 78)) w.heap.size #[.slice A n c] 36 := ((Keep.new _ _ _).alloc _).alloc _
  have hy0 : Keep (((w.alloc (.cells #[.slice A n c] 36)).alloc (.cells #[.int .i64 ide, .int .i64 (j : Int), .int .i64 (k : Int), .slice A1 n1 c1, .slice A2 n2 c2, .slice A3 n3 c3, .int .i64 result, .int .i64 mode, .int .i64 value, .int .i64 base, .bool off] 78)).alloc (.cells #[.int .i64 ide', .int .i64 fn', .int .i64 pla', .slice A1' n1' c1', .slice A2' n2' c2', .slice A3' n3' c3', .int .i64 result', .int .i64 mode', .int .i64 value', .int .i64 base', .bool off'] 78)) (w.heap.size + 1) #[.int .i64 ide, .int .i64 (j : Int), .int .i64 (k : Int), .slice A1 n1 c1, .slice A2 n2 c2, .slice A3 n3 c3, .int .i64 result, .int .i64 mode, .int .i64 value, .int .i64 base, .bool off] 78 := by
    have := (Keep.new (w.alloc (.cells #[.slice A n c] 36)) #[.int .i64 ide, .int .i64 (j : Int), .int .i64 (k : Int), .slice A1 n1 c1, .slice A2 n2 c2, .slice A3 n3 c3, .int .i64 result, .int .i64 mode, .int .i64 value, .int .i64 base, .bool off] 78).alloc (.cells #[.int .i64 ide', .int .i64 fn', .int .i64 pla', .slice A1' n1' c1', .slice A2' n2' c2', .slice A3' n3' c3', .int .i64 result', .int .i64 mode', .int .i64 value', .int .i64 base', .bool off'] 78)
    rw [World.size_alloc] at this
    exact this
  have hz0 : Keep (((w.alloc (.cells #[.slice A n c] 36)).alloc (.cells #[.int .i64 ide, .int .i64 (j : Int), .int .i64 (k : Int), .slice A1 n1 c1, .slice A2 n2 c2, .slice A3 n3 c3, .int .i64 result, .int .i64 mode, .int .i64 value, .int .i64 base, .bool off] 78)).alloc (.cells #[.int .i64 ide', .int .i64 fn', .int .i64 pla', .slice A1' n1' c1', .slice A2' n2' c2', .slice A3' n3' c3', .int .i64 result', .int .i64 mode', .int .i64 value', .int .i64 base', .bool off'] 78)) (w.heap.size + 1 + 1) #[.int .i64 ide', .int .i64 fn', .int .i64 pla', .slice A1' n1' c1', .slice A2' n2' c2', .slice A3' n3' c3', .int .i64 result', .int .i64 mode', .int .i64 value', .int .i64 base', .bool off'] 78 := by
    have := Keep.new ((w.alloc (.cells #[.slice A n c] 36)).alloc (.cells #[.int .i64 ide, .int .i64 (j : Int), .int .i64 (k : Int), .slice A1 n1 c1, .slice A2 n2 c2, .slice A3 n3 c3, .int .i64 result, .int .i64 mode, .int .i64 value, .int .i64 base, .bool off] 78)) #[.int .i64 ide', .int .i64 fn', .int .i64 pla', .slice A1' n1' c1', .slice A2' n2' c2', .slice A3' n3' c3', .int .i64 result', .int .i64 mode', .int .i64 value', .int .i64 base', .bool off'] 78
    rw [World.size_alloc, World.size_alloc] at this
    exact this
  obtain ⟨b, o, s', A4, n4, c4, A5, n5, c5, A6, n6, c6, rfl, hb', g0, g1, g2, g3, g4, r1, r2, r3, hx⟩ := hr.at_ hj
  obtain rfl : s = s' := by have := hx.out; rw [hsj] at this; injection this with this
  have hk : k < n5 := by rw [← r2.1]; exact (List.getElem?_eq_some_iff.1 hins).1
  obtain ⟨b5, o5, op5, x5, hA5, hb5, i0, i1, hi5⟩ := r2.at_ hk
  obtain ⟨rfl, rfl⟩ : op = op5 ∧ x = x5 := by have := hi5.out; rw [hins] at this; injection this with this; injection this with h1 h2; exact ⟨h1, h2⟩
  clear hi5 hsj hx
  subst hA5
  have R1 := put r1
  clear r1 r2 r3 hr
  have q0 := (hb0.cell (p := ⟨b, o + j * 5, none⟩) hb').trans g0
  have q1 := (hb0.cell (p := ⟨b, o + j * 5 + 1, none⟩) hb').trans g1
  have q2 := (hb0.cell (p := ⟨b, o + j * 5 + 2, none⟩) hb').trans g2
  have q3 := (hb0.cell (p := ⟨b, o + j * 5 + 3, none⟩) hb').trans g3
  have q4 := (hb0.cell (p := ⟨b, o + j * 5 + 4, none⟩) hb').trans g4
  have hb1 := hb0.alloc hb0.size (.cells #[.int .i64 s.params, .int .i64 s.vars, .slice A4 n4 c4, .slice (some ⟨b5, o5, none⟩) n5 c5, .slice A6 n6 c6] 82)
  have z0 := (hb1.cell (p := ⟨b5, o5 + k * 2, none⟩) hb5).trans i0
  have z1 := (hb1.cell (p := ⟨b5, o5 + k * 2 + 1, none⟩) hb5).trans i1
  have hb2 := hb1.alloc hb1.size (.cells #[.int .i64 op, .int .i64 x] 129)
  clear g0 g1 g2 g3 g4 i0 i1
  have hjn : (j : Int) < (n : Int) := by omega
  have hj0 : (0 : Int) ≤ (j : Int) := by omega
  have hkn : (k : Int) < (n5 : Int) := by omega
  have hk0 : (0 : Int) ≤ (k : Int) := by omega
  by_cases h7 : op = 7
  · subst h7
    cases off'
    · by_cases hfn : fn' = x
      · have HY := put (CY.out (.inl ⟨rfl, hfn, rfl⟩))
        clear CN CY
        have e1 : (fn' == x) = true := by simp [hfn]
        have HF := put hfn
        clear hfn
        go_enter Tryz.func91, Tryz.ntmps91
        go_wp2
        go_ret
        exact ⟨ret_bool HY.out.symm, hb2⟩
      · have HN := put (CN.out (by rintro (⟨_, h, _⟩ | ⟨h, _⟩); exact hfn h; omega))
        clear CN CY
        have e1 : (fn' == x) = false := by simp [hfn]
        clear hfn
        go_enter Tryz.func91, Tryz.ntmps91
        go_wp2
        go_ret
        exact ⟨ret_bool HN.out.symm, hb2⟩
    · have HN := put (CN.out (by rintro (⟨_, _, h⟩ | ⟨h, _⟩); exact Bool.noConfusion h; omega))
      clear CN CY
      go_enter Tryz.func91, Tryz.ntmps91
      go_wp2
      go_ret
      exact ⟨ret_bool HN.out.symm, hb2⟩
  by_cases h17 : op = 17
  · subst h17
    have e7 : ((17 : Int) == 7) = false := by decide
    cases off'
    · have HN := put (CN.out (by rintro (⟨h, _⟩ | ⟨_, _, h⟩); omega; exact Bool.noConfusion h))
      clear CN CY h7
      go_enter Tryz.func91, Tryz.ntmps91
      go_wp2_with fail
      go_quiet (fail)
      all_goals (
        go_wp2
        go_ret
        exact ⟨ret_bool HN.out.symm, by first | exact hb2 | exact hb2.drew | exact below_drewN hb2 _⟩)
    · have hx0' : 0 ≤ x := insB_off hib
      have hx1 : x < (s.sites.length : Int) := nmB_off hnm
      obtain ⟨i, rfl⟩ : ∃ i : Nat, x = (i : Int) := ⟨x.toNat, by omega⟩
      have hin : i < n4 := by rw [← R1.out.1]; omega
      obtain ⟨b4, o4, y, hA4, hb4, k0, hy⟩ := R1.out.at_ hin
      have hinI : (i : Int) < (n4 : Int) := by omega
      subst hA4
      have v0 := (hb2.cell (p := ⟨b4, o4 + i, none⟩) hb4).trans k0
      clear k0 hx0' hx1
      have hi0 : (0 : Int) ≤ (i : Int) := by omega
      by_cases hfn : fn' = y
      · have HY := put (CY.out (.inr ⟨rfl, by simpa [hfn] using hy.out, rfl⟩))
        have e1 : (fn' == y) = true := by simp [hfn]
        clear CN CY h7 hfn
        go_enter Tryz.func91, Tryz.ntmps91
        go_wp2_with fail
        go_quiet (fail)
        all_goals (
          go_wp2
          go_ret
          exact ⟨ret_bool HY.out.symm, by first | exact hb2 | exact hb2.drew | exact below_drewN hb2 _⟩)
      · have HN := put (CN.out (by rintro (⟨h, _⟩ | ⟨_, h, _⟩); omega; simp [hy.out] at h; exact hfn h.symm))
        have e1 : (fn' == y) = false := by simp [hfn]
        clear CN CY h7 hfn
        go_enter Tryz.func91, Tryz.ntmps91
        go_wp2_with fail
        go_quiet (fail)
        all_goals (
          go_wp2
          go_ret
          exact ⟨ret_bool HN.out.symm, by first | exact hb2 | exact hb2.drew | exact below_drewN hb2 _⟩)
  · have HN := put (CN.out (by rintro (⟨h, _⟩ | ⟨h, _⟩); exact h7 h; exact h17 h))
    have e7 : (op == 7) = false := beq_of h7
    have e17 : (op == 17) = false := beq_of h17
    clear CN CY
    go_enter Tryz.func91, Tryz.ntmps91
    go_wp2
    go_ret
    exact ⟨ret_bool HN.out.symm, hb2⟩

end Go.Proofs.YtpbkkjiikhjanaaGreatDoor

/-
  The heights of all codes of an image: a row of rows of the call's own. The program's heightsOfAll.
-/
namespace Go.Proofs.YtpbkkjiikhjanaaGreatDoor
open Go.RowKit Go.Deep Exs Ht

/-- Block g is a row of n rows of numbers, of which the first ones are ls; these lie in later blocks. -/
def RoomL (w : World) (g n : Nat) (ls : List (List Int)) : Prop :=
  ∃ cs : Array Value, w.heap[g]? = some (.cells cs 26 (0, 0)) ∧ cs.size = n ∧ ∀ (j : Nat) (l : List Int), ls[j]? = some l → ∃ v, cs[j]? = some v ∧ Nums w (g + 1) 3 .i64 v l
section
variable {w w' : World} {g n : Nat} {ls : List (List Int)}
theorem RoomL.lt (h : RoomL w g n ls) : g < w.heap.size := by obtain ⟨cs, h1, _⟩ := h; exact (Array.getElem?_eq_some_iff.1 h1).1
theorem RoomL.below (h : RoomL w g n ls) (hb : Below w.heap.size w w') : RoomL w' g n ls := by
  have hl := h.lt
  obtain ⟨cs, h1, h2, h3⟩ := h
  refine ⟨cs, (hb.block g hl).trans h1, h2, fun j l hj => ?_⟩
  obtain ⟨v, a1, a2⟩ := h3 j l hj
  exact ⟨v, a1, a2.belowNew hb⟩
theorem RoomL.drew (h : RoomL w g n ls) : RoomL w.drew g n ls := h
theorem RoomL.drewN (h : RoomL w g n ls) (q : Nat) : RoomL (w.drewN q) g n ls := h
theorem RoomL.has (h : RoomL w g n ls) (j : Nat) (hj : j < n) : ∃ v, w.cell? ⟨g, j, none⟩ = some v := by
  obtain ⟨cs, h1, h2, _⟩ := h
  exact ⟨cs[j]'(by omega), by rw [cell_of_row w g j cs _ (0, 0) h1]; exact Array.getElem?_eq_getElem (by omega)⟩
theorem RoomL.frozen (h : RoomL w g n ls) (j : Nat) : w.frozen? ⟨g, j, none⟩ = false := by
  obtain ⟨cs, h1, _⟩ := h
  simp [World.frozen?, h1]
theorem RoomL.at_ (h : RoomL w g n ls) {j : Nat} {l : List Int} (hj : ls[j]? = some l) : ∃ A c, w.cell? ⟨g, j, none⟩ = some (.slice A l.length c) ∧ Reads w w.heap.size .i64 A l.length l := by
  obtain ⟨cs, h1, h2, h3⟩ := h
  obtain ⟨v, a1, a2⟩ := h3 j l hj
  obtain ⟨A, c, rfl, hr⟩ := a2.reads
  exact ⟨A, c, by rw [cell_of_row w g j cs _ (0, 0) h1]; exact a1, hr⟩
theorem RoomL.made (w : World) (n : Nat) : RoomL (w.alloc (.cells (madeCells #[.slice none 0 0] n) 26)) w.heap.size n [] :=
  ⟨_, heap_alloc_new _ _, by rw [size_madeCells], fun j l hj => by simp at hj⟩
theorem RoomL.push (h : RoomL w g n ls) (hc : ls.length < n) (v : Value) (l : List Int) (hv : Nums w (g + 1) 3 .i64 v l) : RoomL (w.setCell ⟨g, ls.length, none⟩ v) g n (ls ++ [l]) := by
  obtain ⟨cs, h1, h2, h3⟩ := h
  refine ⟨cs.setIfInBounds ls.length v, by simp [World.setCell, Array.getElem?_modify, h1], by simpa using h2, fun j l' hj => ?_⟩
  by_cases hj' : j = ls.length
  · subst hj'
    rw [List.getElem?_append_right (Nat.le_refl _)] at hj
    simp at hj
    subst hj
    exact ⟨v, by rw [Array.getElem?_setIfInBounds]; simp [h2, hc], hv.other (Nat.lt_succ_self g)⟩
  · have hlt : j < (ls ++ [l]).length := (List.getElem?_eq_some_iff.1 hj).1
    rw [List.length_append] at hlt
    simp at hlt
    rw [List.getElem?_append_left (by omega)] at hj
    obtain ⟨u, a1, a2⟩ := h3 j l' hj
    exact ⟨u, by rw [Array.getElem?_setIfInBounds]; simp [Ne.symm hj', a1], a2.other (Nat.lt_succ_self g)⟩
end
/-- A code's heights, as the program has them. -/
noncomputable def hgL (cs : List Cd) (s : Cd) : List Int := (htAns (hts (gr cs s))).1
theorem infoL : (Tryz.prog.info? 26).map (fun i => (i.zero, i.size, i.bytes)) = some (some (.slice none 0 0), 1, 24) := by kernel_rfl

set_option maxHeartbeats 4000000 in
set_option maxRecDepth 100000 in
theorem heightsOfAll_any (A : Option Addr) (n c : Nat) (cs : List Cd) (w : World) (hr : ReadsC w w.heap.size A n cs) (hg : giB cs = true) (hkd : Kinds w) (hpos : 0 < w.heap.size) :
    Calls Tryz.prog 89 #[.agg #[.slice A n c]] w fun e w' => ∃ g, e = .returned (.slice (some ⟨g, 0, none⟩) n n) ∧ w.heap.size ≤ g ∧ RoomL w' g n (cs.map (hgL cs)) ∧ Below w.heap.size w w' := by
  have hlen := hr.1
  have hn5 : n ≤ 5 := by have := ((imB_iff cs).1 ((giB_iff cs).1 hg).1).1; omega
  have HC := put (fun (s : Cd) (h : s ∈ cs) => good_code hg h)
  have HP := put ((imB_iff cs).1 ((giB_iff cs).1 hg).1).2
  clear hg
  have HKK := put hkd
  clear hkd
  have hmk := fun W => run_make_rows (P := Tryz.prog) 49 26 (.slice none 0 0) 1 24 Tryz.underlying49 infoL n (by omega) (by omega) W
  simp only [Value.cells, Nat.mul_one] at hmk
  have hb0 := (Below.refl w.heap.size w).alloc (Nat.le_refl _) (Obj.cells #[.slice A n c] 36)
  have k0 := Keep.new w #[.slice A n c] 36
  have hR0 := RoomL.made (w.alloc (Obj.cells #[.slice A n c] 36)) n
  have hb1 := hb0.alloc hb0.size (.cells (madeCells #[.slice none 0 0] n) 26)
  have k1 := k0.alloc (.cells (madeCells #[.slice none 0 0] n) 26)
  rw [World.size_alloc] at hR0
  have y0 := k1.cell 0
  simp at y0
  go_enter Tryz.func89, Tryz.ntmps89
  go_wp2
  generalize (w.alloc (Obj.cells #[.slice A n c] 36)).alloc (.cells (madeCells #[.slice none 0 0] n) 26) = W0 at hR0 hb1 k1 y0 ⊢
  clear hmk k0 hb0
  go_loopw [13] (fun i wr => ∃ k : Nat, k ≤ n ∧ i = .int .i64 k ∧ RoomL wr (w.heap.size + 1) n ((cs.take k).map (hgL cs)) ∧ Keep wr w.heap.size #[.slice A n c] 36 ∧ Below w.heap.size w wr) (fun i _ => n - (intOf i).toNat)
  case atStart => exact ⟨0, Nat.zero_le _, rfl, by simpa using hR0, k1, hb1⟩
  case round =>
    clear y0 hR0 hb1 k1
    obtain ⟨k, hk, rfl, hroom, hkeep, hbel⟩ := hrel
    by_cases hlt : k < n
    · obtain ⟨b9, off9, s, A1, n1, c1, A2, n2, c2, A3, n3, c3, hA9, hb9, g0, g1, g2, g3, g4, r1, r2, r3, hx⟩ := (hr.below hbel).at_ hlt
      obtain ⟨m1, m2, m3, m4, hh, m5, _⟩ := HC.out _ (mem_of_at hx.out)
      have CC := put (fun W (hW : Below w.heap.size w W) (hW2 : Below wr.heap.size wr W) => heightsIn_any A n c cs s A1 n1 c1 A2 n2 c2 A3 n3 c3 W (hr.now hW) ((((IsCd.mk r1 r2 r3).more hbel.size).below hW2).more hW2.size) hn5 (HP.out s (mem_of_at hx.out)) HP.out m1 m3 m4 (HKK.out.below hW hpos) (by have := hW.size; omega))
      unfold cdV at CC
      have hB := (Below.refl wr.heap.size wr).alloc (Nat.le_refl _) (Obj.cells #[.int .i64 s.params, .int .i64 s.vars, .slice A1 n1 c1, .slice A2 n2 c2, .slice A3 n3 c3] 82)
      have bw2 := hbel.trans (hB.mono hbel.size)
      have k3 := hkeep.below hB
      have kn := Keep.new wr #[.int .i64 s.params, .int .i64 s.vars, .slice A1 n1 c1, .slice A2 n2 c2, .slice A3 n3 c3] 82
      have y0 := k3.cell 0
      simp at y0
      subst hA9
      have hroom2 := hroom.below hB
      have hmore := put (show (cs.take (k + 1)).map (hgL cs) = (cs.take k).map (hgL cs) ++ [hgL cs s] by rw [takeA_more hx.out]; simp)
      have hlk := put (show ((cs.take k).map (hgL cs)).length = k by rw [List.length_map, List.length_take]; omega)
      clear r1 r2 r3 m1 m2 m3 m4 m5
      clear hroom
      go_wp2_with fail
      refine (CC.out _ bw2 hB).mono ?_
      rintro e w2 ⟨v, rfl, hv, hb2⟩
      obtain ⟨A8, m8, c8, rfl⟩ : ∃ A8 m8 c8, v = .slice A8 m8 c8 := by obtain ⟨A8, c8, h8, _⟩ := hv.reads; exact ⟨A8, _, c8, h8⟩
      have hroom3 := hroom2.below hb2
      have k4 := k3.below hb2
      have bw3 := bw2.trans (hb2.mono bw2.size)
      have hv2 : Nums w2 (w.heap.size + 1 + 1) 3 .i64 (.slice A8 m8 c8) (hgL cs s) := hv.more (by have := hroom2.lt; omega)
      obtain ⟨u0, cu⟩ := hroom3.has k hlt
      have fu := hroom3.frozen k
      have hfin := put (show RoomL (w2.setCell ⟨w.heap.size + 1, k, none⟩ (.slice A8 m8 c8)) (w.heap.size + 1) n ((cs.take (k + 1)).map (hgL cs)) ∧ Keep (w2.setCell ⟨w.heap.size + 1, k, none⟩ (.slice A8 m8 c8)) w.heap.size #[.slice (some ⟨b9, off9, none⟩) n c] 36 ∧ Below w.heap.size w (w2.setCell ⟨w.heap.size + 1, k, none⟩ (.slice A8 m8 c8)) from by
        have h1 := hroom3.push (by rw [hlk.out]; exact hlt) (.slice A8 m8 c8) (hgL cs s) hv2
        rw [hlk.out] at h1
        rw [hmore.out]
        exact ⟨h1, k4.other (by omega) _ _, bw3.setCell (p := ⟨w.heap.size + 1, k, none⟩) (Nat.le_succ _) (.slice A8 m8 c8)⟩)
      have hkI : (k : Int) < (n : Int) := by omega
      clear hroom2 hroom3 k3 k4 kn y0 hv hv2 hb2 bw3 hkeep CC hB
      go_wp2
      go_roundw
      case rel => exact ⟨k + 1, by omega, by go_num, hfin.out.1, hfin.out.2.1, hfin.out.2.2⟩
      case measure => simp [intOf]; omega
    · have hfin := put (show cs.take k = cs from List.take_of_length_le (by omega))
      rw [hfin.out] at hroom
      go_wp2
      go_ret
      exact ⟨w.heap.size + 1, rfl, by omega, hroom, hbel⟩

end Go.Proofs.YtpbkkjiikhjanaaGreatDoor

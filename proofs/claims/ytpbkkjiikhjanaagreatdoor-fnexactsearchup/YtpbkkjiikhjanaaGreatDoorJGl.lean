/-
  Whether a machine is good, as the reference has it: l8Good.
-/
import Derived.Test.YtpbkkjiikhjanaaGreatDoorJGs
import Derived.Test.YtpbkkjiikhjanaaGreatDoorJCoSz
namespace Go.Proofs.YtpbkkjiikhjanaaGreatDoor
open Go.RowKit Go.Deep Exs Ht

open Classical in
noncomputable def l8B (cs : List Cd) (m : Mc) : Bool := @decide (RestGd m ∧ EndGd m ∧ FrsGd cs m.frames) (Classical.propDecidable _)
theorem l8B_iff (cs : List Cd) (m : Mc) : l8B cs m = true ↔ RestGd m ∧ EndGd m ∧ FrsGd cs m.frames := by unfold l8B; exact @decide_eq_true_iff _ (Classical.propDecidable _)
set_option maxHeartbeats 400000 in
theorem l1Least_any (a b : Int) (w : World) : Calls Tryz.prog 81 #[.int .i64 a, .int .i64 b] w fun e w' => e = .returned (.int .i64 (if a < b then a else b)) ∧ w = w' := by
  by_cases h : a < b
  · rw [if_pos h]
    go_enter Tryz.func81, Tryz.ntmps81
    go_wp2
    go_ret
    exact ⟨rfl, rfl⟩
  · rw [if_neg h]
    go_enter Tryz.func81, Tryz.ntmps81
    go_wp2
    go_ret
    exact ⟨rfl, rfl⟩

set_option maxHeartbeats 8000000 in
set_option maxRecDepth 100000 in
theorem l8Good_any (A : Option Addr) (n c : Nat) (cs : List Cd) (C : Option Addr) (m d : Nat) (fs : List Fr) (T2 : Option Addr) (m2 d2 : Nat) (trace : List Int) (T3 : Option Addr) (m3 d3 : Nat) (notes : List Row3) (used code value made : Int) (w : World) (hr : ReadsC w w.heap.size A n cs) (hf : ReadsFr w w.heap.size C m fs) (ht : Reads w w.heap.size .i64 T2 m2 trace) (hs : ∀ f ∈ fs, SmallFr f) (hm : m ≤ 1048576) (hm2 : m2 ≤ 1048576) (hg : giB cs = true) :
    Calls Tryz.prog 52 #[.agg #[.slice A n c], .agg #[.slice C m d, .slice T2 m2 d2, .int .i64 used, .int .i64 code, .int .i64 value, .int .i64 made, .slice T3 m3 d3]] w fun e w' => e = .returned (.bool (l8B cs (⟨fs, trace, used, code, value, made, notes⟩ : Mc))) ∧ Below w.heap.size w w' := by
  have NO := put (fun (h : ¬ (RestGd (⟨fs, trace, used, code, value, made, notes⟩ : Mc) ∧ EndGd (⟨fs, trace, used, code, value, made, notes⟩ : Mc) ∧ FrsGd cs fs)) => (show l8B cs (⟨fs, trace, used, code, value, made, notes⟩ : Mc) = false from no_of fun h' => h ((l8B_iff _ _).1 h')))
  have YES := put (fun (h1 : RestGd (⟨fs, trace, used, code, value, made, notes⟩ : Mc)) (h2 : EndGd (⟨fs, trace, used, code, value, made, notes⟩ : Mc)) (h3 : FrsGd cs fs) => (l8B_iff cs (⟨fs, trace, used, code, value, made, notes⟩ : Mc)).2 ⟨h1, h2, h3⟩)
  generalize l8B cs (⟨fs, trace, used, code, value, made, notes⟩ : Mc) = ans at NO YES ⊢
  have hlen := hr.1
  have hfl := hf.1
  have HSM := put hs
  have HGI := put hg
  have hb0 : Below w.heap.size w ((w.alloc (.cells #[.slice A n c] 36)).alloc (.cells #[.slice C m d, .slice T2 m2 d2, .int .i64 used, .int .i64 code, .int .i64 value, .int .i64 made, .slice T3 m3 d3] 41)) := ((Below.refl _ _).alloc (Nat.le_refl _) _).alloc (by simp) _
  have kx : Keep ((w.alloc (.cells #[.slice A n c] 36)).alloc (.cells #[.slice C m d, .slice T2 m2 d2, .int .i64 used, .int .i64 code, .int .i64 value, .int .i64 made, .slice T3 m3 d3] 41)) w.heap.size #[.slice A n c] 36 := (Keep.new _ _ _).alloc _
  have kv : Keep ((w.alloc (.cells #[.slice A n c] 36)).alloc (.cells #[.slice C m d, .slice T2 m2 d2, .int .i64 used, .int .i64 code, .int .i64 value, .int .i64 made, .slice T3 m3 d3] 41)) (w.heap.size + 1) #[.slice C m d, .slice T2 m2 d2, .int .i64 used, .int .i64 code, .int .i64 value, .int .i64 made, .slice T3 m3 d3] 41 := by
    have := Keep.new (w.alloc (.cells #[.slice A n c] 36)) #[.slice C m d, .slice T2 m2 d2, .int .i64 used, .int .i64 code, .int .i64 value, .int .i64 made, .slice T3 m3 d3] 41
    rw [World.size_alloc] at this
    exact this
  have HRR := put hr
  have HFF := put hf
  have T := put ((ht.below hb0).more hb0.size)
  clear hs hg hr hf ht
  go_enter Tryz.func52, Tryz.ntmps52
  go_wp2_with fail
  refine (l1In_any code 0 4 _).mono ?_
  rintro e w1 ⟨rfl, rfl⟩
  cases u1 : within code 0 4
  · have HN := put (NO.out (fun h9 => by have a := (within_iff _ _ _).2 h9.1.code; dsimp only at a; rw [u1] at a; cases a))
    go_wp2
    go_ret
    exact ⟨ret_bool HN.out.symm, hb0⟩
  go_wp2_with fail
  refine (l1In_any used 0 10 _).mono ?_
  rintro e w1 ⟨rfl, rfl⟩
  cases u2 : within used 0 10
  · have HN := put (NO.out (fun h9 => by have a := (within_iff _ _ _).2 h9.1.used; dsimp only at a; rw [u2] at a; cases a))
    go_wp2
    go_ret
    exact ⟨ret_bool HN.out.symm, hb0⟩
  go_wp2_with fail
  refine (l1In_any made 0 1000000 _).mono ?_
  rintro e w1 ⟨rfl, rfl⟩
  cases u3 : within made 0 1000000
  · have HN := put (NO.out (fun h9 => by have a := (within_iff _ _ _).2 h9.1.made; dsimp only at a; rw [u3] at a; cases a))
    go_wp2
    go_ret
    exact ⟨ret_bool HN.out.symm, hb0⟩
  go_wp2_with fail
  refine (l2Bound_any value _).mono ?_
  rintro e w1 ⟨rfl, rfl⟩
  cases u4 : bound value
  · have HN := put (NO.out (fun h9 => by have a := h9.1.value; dsimp only at a; rw [u4] at a; cases a))
    go_wp2
    go_ret
    exact ⟨ret_bool HN.out.symm, hb0⟩
  go_wp2_with fail
  refine (l8Bounds_any T2 m2 d2 trace _ T.out hm2).mono ?_
  rintro e w1 ⟨rfl, rfl⟩
  cases u5 : allB trace
  · have HN := put (NO.out (fun h9 => by have a := h9.1.trace; dsimp only at a; rw [u5] at a; cases a))
    go_wp2
    go_ret
    exact ⟨ret_bool HN.out.symm, hb0⟩
  have HREST := put (show RestGd (⟨fs, trace, used, code, value, made, notes⟩ : Mc) from ⟨(within_iff _ _ _).1 u2, (within_iff _ _ _).1 u1, (within_iff _ _ _).1 u3, u4, u5⟩)
  have hc4 := (within_iff _ _ _).1 u1
  clear u1 u2 u3 u4 u5 T
  by_cases z0 : code = 0
  · have b0 : (code == 0) = true := by simp [z0]
    have b1 : (code != 0) = false := by simp [z0]
    by_cases hm0 : m = 0
    · have HN := put (NO.out (fun h9 => by have := h9.2.1.1 z0; dsimp only at this; omega))
      have e0 : ((m : Int) == 0) = true := by simp [hm0]
      clear z0 hm0 hc4
      go_wp2
      go_ret
      exact ⟨ret_bool HN.out.symm, hb0⟩
    · have HE := put (show EndGd (⟨fs, trace, used, code, value, made, notes⟩ : Mc) from ⟨fun _ => by dsimp only; omega, fun h => absurd z0 h⟩)
      have hmp : 0 < m := by omega
      have e0 : ((m : Int) == 0) = false := by simp [hm0]
      have e2 : (0 : Int) < (m : Int) := by omega
      clear z0 hm0 hc4
      obtain ⟨b, o, f0, A1, n1, c1, A2, n2, c2, A3, n3, c3, hC, hb', g0, g1, g2, g3, g4, g5, g6, g7, g8, g9, g10, r0, hx⟩ := HFF.out.at_ hmp
      subst hC
      simp only [Nat.zero_mul, Nat.add_zero] at g10
      have x10 := (hb0.cell (p := ⟨b, o + 10, none⟩) hb').trans g10
      clear g0 g1 g2 g3 g4 g5 g6 g7 g8 g9 g10 r0
      cases hq : f0.off
      rotate_left
      · have HN := put (NO.out (fun h9 => by have := h9.2.2.off _ hx.out; rw [hq] at this; cases this))
        rw [hq] at x10
        clear hq
        go_wp2
        go_ret
        exact ⟨ret_bool HN.out.symm, hb0⟩
      have HOFF := put (show ∀ f, fs[0]? = some f → f.off = false from fun f h => by rw [hx.out] at h; injection h with h; rw [← h]; exact hq)
      rw [hq] at x10
      clear hq hx
      go_wp2
      clear x10 A1 n1 c1 A2 n2 c2 A3 n3 c3
      go_loopw [74] (fun i wr => ∃ k : Nat, k ≤ m ∧ i = .int .i64 k ∧ Hid (AllTo cs fs k) ∧ Keep wr w.heap.size #[.slice A n c] 36 ∧ Keep wr (w.heap.size + 1) #[.slice (some ⟨b, o, none⟩) m d, .slice T2 m2 d2, .int .i64 used, .int .i64 code, .int .i64 value, .int .i64 made, .slice T3 m3 d3] 41 ∧ Below w.heap.size w wr) (fun i _ => m - (intOf i).toNat)
      case atStart => exact ⟨0, Nat.zero_le _, rfl, put (fun i f h => by omega), kx, kv, hb0⟩
      case round =>
        clear kx kv hb0
        obtain ⟨k, hk, rfl, hall, kx, kv, bw⟩ := hrel
        by_cases hlt : k < m
        · obtain ⟨b7, o7, f, A1, n1, c1, A2, n2, c2, A3, n3, c3, hC, hb1', g0, g1, g2, g3, g4, g5, g6, g7, g8, g9, g10, r0, hx⟩ := HFF.out.at_ hlt
          injection hC with hC
          injection hC with e1 e2'
          subst e1 e2'
          obtain ⟨ide, fn, pla, pile, vars, flags, result, mode, value', base, off⟩ := f
          have hsm := HSM.out _ (mem_of_at hx.out)
          have s1 : n1 ≤ 1048576 := by have := r0.pile.1; have := hsm.1; dsimp only at *; omega
          have s2 : n2 ≤ 1048576 := by have := r0.vars.1; have := hsm.2.1; dsimp only at *; omega
          have R0 := put r0
          clear r0 hsm
          have x0 := (bw.cell (p := ⟨b, o + k * 11, none⟩) hb').trans g0
          have x1 := (bw.cell (p := ⟨b, o + k * 11 + 1, none⟩) hb').trans g1
          have x2 := (bw.cell (p := ⟨b, o + k * 11 + 2, none⟩) hb').trans g2
          have x3 := (bw.cell (p := ⟨b, o + k * 11 + 3, none⟩) hb').trans g3
          have x4 := (bw.cell (p := ⟨b, o + k * 11 + 4, none⟩) hb').trans g4
          have x5 := (bw.cell (p := ⟨b, o + k * 11 + 5, none⟩) hb').trans g5
          have x6 := (bw.cell (p := ⟨b, o + k * 11 + 6, none⟩) hb').trans g6
          have x7 := (bw.cell (p := ⟨b, o + k * 11 + 7, none⟩) hb').trans g7
          have x8 := (bw.cell (p := ⟨b, o + k * 11 + 8, none⟩) hb').trans g8
          have x9 := (bw.cell (p := ⟨b, o + k * 11 + 9, none⟩) hb').trans g9
          have x10 := (bw.cell (p := ⟨b, o + k * 11 + 10, none⟩) hb').trans g10
          clear g0 g1 g2 g3 g4 g5 g6 g7 g8 g9 g10
          have hB := (Below.refl wr.heap.size wr).alloc (Nat.le_refl _) (Obj.cells #[.int .i64 ide, .int .i64 fn, .int .i64 pla, .slice A1 n1 c1, .slice A2 n2 c2, .slice A3 n3 c3, .int .i64 result, .int .i64 mode, .int .i64 value', .int .i64 base, .bool off] 78)
          have bw2 := bw.trans (hB.mono bw.size)
          have kx2 := kx.below hB
          have kv2 := kv.below hB
          have kn := Keep.new wr #[.int .i64 ide, .int .i64 fn, .int .i64 pla, .slice A1 n1 c1, .slice A2 n2 c2, .slice A3 n3 c3, .int .i64 result, .int .i64 mode, .int .i64 value', .int .i64 base, .bool off] 78
          have hkw : IntKind.i64.wrap ((k : Int) + 1) = (k : Int) + 1 := IntWalk.i64_in _ ⟨by omega, by omega⟩
          have hmw : IntKind.i64.wrap ((m : Int) - 1) = (m : Int) - 1 := IntWalk.i64_in _ ⟨by omega, by omega⟩
          have hgn : ∃ k1 : Nat, k1 < m ∧ (∃ last : Bool, ((k : Int) == (m : Int) - 1) = last ∧ (last = false → k1 = k + 1) ∧ (last = true → fs[k + 1]? = none)) ∧ (if (k : Int) + 1 < (m : Int) - 1 then (k : Int) + 1 else (m : Int) - 1) = (k1 : Int) := by
            by_cases h1 : k + 1 < m
            · refine ⟨k + 1, h1, ⟨false, by simp; omega, fun _ => rfl, fun h => Bool.noConfusion h⟩, ?_⟩
              split <;> omega
            · refine ⟨k, hlt, ⟨true, by simp; omega, fun h => Bool.noConfusion h, fun _ => List.getElem?_eq_none (by omega)⟩, ?_⟩
              rw [if_neg (by omega)]
              omega
          obtain ⟨k1, hk1, ⟨last, hlast, hl1, hl2⟩, hleast⟩ := hgn
          have LL := put (fun W => (show Calls Tryz.prog 81 #[.int .i64 ((k : Int) + 1), .int .i64 ((m : Int) - 1)] W fun e w' => e = .returned (.int .i64 (k1 : Int)) ∧ Below W.heap.size W w' from (l1Least_any ((k : Int) + 1) ((m : Int) - 1) W).mono (fun e w' h => ⟨by rw [h.1, hleast], by rw [← h.2]; exact Below.refl _ _⟩)))
          obtain ⟨b8, o8, q, B1, m1', d1, B2, m2', d2', B3, m3', d3', hC2, hb2', i0, i1, i2, i3, i4, i5, i6, i7, i8, i9, i10, r2, hx2⟩ := HFF.out.at_ hk1
          injection hC2 with hC2
          injection hC2 with e1 e2'
          subst e1 e2'
          obtain ⟨ide', fn', pla', pile', vars', flags', result', mode', value'', base', off'⟩ := q
          have hab := put (show fs[k + 1]? = if last then none else some (⟨ide', fn', pla', pile', vars', flags', result', mode', value'', base', off'⟩ : Fr) from by
            cases last
            · rw [← hl1 rfl]; exact hx2.out
            · exact hl2 rfl)
          have SG := put (fun W (hW : Below w.heap.size w W) => l8FrameGood_any A n c cs ide fn pla result mode value' base pile vars flags off A1 n1 c1 A2 n2 c2 A3 n3 c3 ide' fn' pla' result' mode' value'' base' pile' vars' flags' off' B1 m1' d1 B2 m2' d2' B3 m3' d3' last fs[k + 1]? hab W (HRR.out.now hW) (R0.out.now hW) s1 s2 HGI.out)
          clear r2 hl1 hl2 hleast s1 s2
          have uy := cell_regrown (kx2.cell 0)
          have uv := cell_regrown (kv2.cell 0)
          have un0 := cell_regrown (kn.cell 0)
          have un1 := cell_regrown (kn.cell 1)
          have un2 := cell_regrown (kn.cell 2)
          have un3 := cell_regrown (kn.cell 3)
          have un4 := cell_regrown (kn.cell 4)
          have un5 := cell_regrown (kn.cell 5)
          have un6 := cell_regrown (kn.cell 6)
          have un7 := cell_regrown (kn.cell 7)
          have un8 := cell_regrown (kn.cell 8)
          have un9 := cell_regrown (kn.cell 9)
          have un10 := cell_regrown (kn.cell 10)
          have ui0 := cell_regrown ((bw2.cell (p := ⟨b, o + k1 * 11, none⟩) hb').trans i0)
          have ui1 := cell_regrown ((bw2.cell (p := ⟨b, o + k1 * 11 + 1, none⟩) hb').trans i1)
          have ui2 := cell_regrown ((bw2.cell (p := ⟨b, o + k1 * 11 + 2, none⟩) hb').trans i2)
          have ui3 := cell_regrown ((bw2.cell (p := ⟨b, o + k1 * 11 + 3, none⟩) hb').trans i3)
          have ui4 := cell_regrown ((bw2.cell (p := ⟨b, o + k1 * 11 + 4, none⟩) hb').trans i4)
          have ui5 := cell_regrown ((bw2.cell (p := ⟨b, o + k1 * 11 + 5, none⟩) hb').trans i5)
          have ui6 := cell_regrown ((bw2.cell (p := ⟨b, o + k1 * 11 + 6, none⟩) hb').trans i6)
          have ui7 := cell_regrown ((bw2.cell (p := ⟨b, o + k1 * 11 + 7, none⟩) hb').trans i7)
          have ui8 := cell_regrown ((bw2.cell (p := ⟨b, o + k1 * 11 + 8, none⟩) hb').trans i8)
          have ui9 := cell_regrown ((bw2.cell (p := ⟨b, o + k1 * 11 + 9, none⟩) hb').trans i9)
          have ui10 := cell_regrown ((bw2.cell (p := ⟨b, o + k1 * 11 + 10, none⟩) hb').trans i10)
          simp at uy uv un0 un1 un2 un3 un4 un5 un6 un7 un8 un9 un10
          clear i0 i1 i2 i3 i4 i5 i6 i7 i8 i9 i10
          have hk1I : (k1 : Int) < (m : Int) := by omega
          have hk10 : (0 : Int) ≤ (k1 : Int) := by omega
          have KX := put kx2
          have KV := put kv2
          clear kx2 kv2 kn kx kv hB
          go_wp2_with fail
          clear x0 x1 x2 x3 x4 x5 x6 x7 x8 x9 x10
          generalize hWW : wr.alloc (Obj.cells #[.int .i64 ide, .int .i64 fn, .int .i64 pla, .slice A1 n1 c1, .slice A2 n2 c2, .slice A3 n3 c3, .int .i64 result, .int .i64 mode, .int .i64 value', .int .i64 base, .bool off] 78) = W at bw2 SG LL KX KV uy uv un0 un1 un2 un3 un4 un5 un6 un7 un8 un9 un10 ui0 ui1 ui2 ui3 ui4 ui5 ui6 ui7 ui8 ui9 ui10 ⊢
          clear hWW
          refine wp_region_quiet_below (by kernel_rfl) (by kernel_rfl) ?_
          repeat (first | go_big_quiet_step (first | (go_at_call 81; exact Calls.regrown_of (LL.out _)) | (go_at_call 80; exact Calls.regrown_of (SG.out _ (bw2.trans ((below_regrown W _ _).mono bw2.size))))) | quiet_step (fail))
          refine wpQuiet_nil ?_
          intro _ hw'
          obtain ⟨⟨dq, osq⟩, hw''⟩ := hw'
          subst hw''
          have hr9 := below_regrown W dq osq
          have bw3 := bw2.trans (hr9.mono bw2.size)
          cases hg9 : frgB cs (⟨ide, fn, pla, pile, vars, flags, result, mode, value', base, off⟩ : Fr) fs[k + 1]?
          · have HN := put (NO.out (fun h9 => by
              have h1 := (frgB_iff _ _ _).2 (h9.2.2.all k _ hx.out)
              rw [hg9] at h1
              cases h1))
            go_wp2
            go_ret
            exact ⟨ret_bool HN.out.symm, bw3⟩
          · have hall2 := put (hall.out.more hx.out ((frgB_iff _ _ _).1 hg9))
            go_wp2
            go_roundw
            case rel => exact ⟨k + 1, by omega, by go_num, hall2, KX.out.below hr9, KV.out.below hr9, bw3⟩
            case measure => simp [intOf]; omega
        · have hfin := put (YES.out HREST.out HE.out ⟨HOFF.out, fun i f h => hall.out i f (by have := (List.getElem?_eq_some_iff.1 h).1; omega) h⟩)
          go_wp2
          go_ret
          exact ⟨ret_bool hfin.out.symm, bw⟩
  · have b0 : (code == 0) = false := by simp [z0]
    have b1 : (code != 0) = true := by simp [z0]
    by_cases hm0 : m = 0
    · subst hm0
      have e0 : ¬ (0 : Int) < 0 := by omega
      have e1 : decide ((0 : Int) < 0) = false := by decide
      have HY := put (YES.out HREST.out ⟨fun h => absurd h z0, fun _ _ => hfl⟩ ⟨fun f h => by have := (List.getElem?_eq_some_iff.1 h).1; omega, fun j f h => by have := (List.getElem?_eq_some_iff.1 h).1; omega⟩)
      by_cases z4 : code = 4
      · have b2 : (code != 4) = false := by simp [z4]
        clear z0 z4 hc4
        go_wp2
        refine wp_loop_rounds 1 ?_
        rw [rounds_succ]
        go_wp2
        go_ret
        exact ⟨ret_bool HY.out.symm, hb0⟩
      · have b2 : (code != 4) = true := by simp [z4]
        clear z0 z4 hc4
        go_wp2
        refine wp_loop_rounds 1 ?_
        rw [rounds_succ]
        go_wp2
        go_ret
        exact ⟨ret_bool HY.out.symm, hb0⟩
    · by_cases z4 : code = 4
      · have b2 : (code != 4) = false := by simp [z4]
        have HE := put (show EndGd (⟨fs, trace, used, code, value, made, notes⟩ : Mc) from ⟨fun h => absurd h z0, fun _ h => absurd z4 h⟩)
        have hmp : 0 < m := by omega
        have e2 : (0 : Int) < (m : Int) := by omega
        clear z0 z4 hm0 hc4
        obtain ⟨b, o, f0, A1, n1, c1, A2, n2, c2, A3, n3, c3, hC, hb', g0, g1, g2, g3, g4, g5, g6, g7, g8, g9, g10, r0, hx⟩ := HFF.out.at_ hmp
        subst hC
        simp only [Nat.zero_mul, Nat.add_zero] at g10
        have x10 := (hb0.cell (p := ⟨b, o + 10, none⟩) hb').trans g10
        clear g0 g1 g2 g3 g4 g5 g6 g7 g8 g9 g10 r0
        cases hq : f0.off
        rotate_left
        · have HN := put (NO.out (fun h9 => by have := h9.2.2.off _ hx.out; rw [hq] at this; cases this))
          rw [hq] at x10
          clear hq
          go_wp2
          go_ret
          exact ⟨ret_bool HN.out.symm, hb0⟩
        have HOFF := put (show ∀ f, fs[0]? = some f → f.off = false from fun f h => by rw [hx.out] at h; injection h with h; rw [← h]; exact hq)
        rw [hq] at x10
        clear hq hx
        go_wp2
        clear x10 A1 n1 c1 A2 n2 c2 A3 n3 c3
        go_loopw [74] (fun i wr => ∃ k : Nat, k ≤ m ∧ i = .int .i64 k ∧ Hid (AllTo cs fs k) ∧ Keep wr w.heap.size #[.slice A n c] 36 ∧ Keep wr (w.heap.size + 1) #[.slice (some ⟨b, o, none⟩) m d, .slice T2 m2 d2, .int .i64 used, .int .i64 code, .int .i64 value, .int .i64 made, .slice T3 m3 d3] 41 ∧ Below w.heap.size w wr) (fun i _ => m - (intOf i).toNat)
        case atStart => exact ⟨0, Nat.zero_le _, rfl, put (fun i f h => by omega), kx, kv, hb0⟩
        case round =>
          clear kx kv hb0
          obtain ⟨k, hk, rfl, hall, kx, kv, bw⟩ := hrel
          by_cases hlt : k < m
          · obtain ⟨b7, o7, f, A1, n1, c1, A2, n2, c2, A3, n3, c3, hC, hb1', g0, g1, g2, g3, g4, g5, g6, g7, g8, g9, g10, r0, hx⟩ := HFF.out.at_ hlt
            injection hC with hC
            injection hC with e1 e2'
            subst e1 e2'
            obtain ⟨ide, fn, pla, pile, vars, flags, result, mode, value', base, off⟩ := f
            have hsm := HSM.out _ (mem_of_at hx.out)
            have s1 : n1 ≤ 1048576 := by have := r0.pile.1; have := hsm.1; dsimp only at *; omega
            have s2 : n2 ≤ 1048576 := by have := r0.vars.1; have := hsm.2.1; dsimp only at *; omega
            have R0 := put r0
            clear r0 hsm
            have x0 := (bw.cell (p := ⟨b, o + k * 11, none⟩) hb').trans g0
            have x1 := (bw.cell (p := ⟨b, o + k * 11 + 1, none⟩) hb').trans g1
            have x2 := (bw.cell (p := ⟨b, o + k * 11 + 2, none⟩) hb').trans g2
            have x3 := (bw.cell (p := ⟨b, o + k * 11 + 3, none⟩) hb').trans g3
            have x4 := (bw.cell (p := ⟨b, o + k * 11 + 4, none⟩) hb').trans g4
            have x5 := (bw.cell (p := ⟨b, o + k * 11 + 5, none⟩) hb').trans g5
            have x6 := (bw.cell (p := ⟨b, o + k * 11 + 6, none⟩) hb').trans g6
            have x7 := (bw.cell (p := ⟨b, o + k * 11 + 7, none⟩) hb').trans g7
            have x8 := (bw.cell (p := ⟨b, o + k * 11 + 8, none⟩) hb').trans g8
            have x9 := (bw.cell (p := ⟨b, o + k * 11 + 9, none⟩) hb').trans g9
            have x10 := (bw.cell (p := ⟨b, o + k * 11 + 10, none⟩) hb').trans g10
            clear g0 g1 g2 g3 g4 g5 g6 g7 g8 g9 g10
            have hB := (Below.refl wr.heap.size wr).alloc (Nat.le_refl _) (Obj.cells #[.int .i64 ide, .int .i64 fn, .int .i64 pla, .slice A1 n1 c1, .slice A2 n2 c2, .slice A3 n3 c3, .int .i64 result, .int .i64 mode, .int .i64 value', .int .i64 base, .bool off] 78)
            have bw2 := bw.trans (hB.mono bw.size)
            have kx2 := kx.below hB
            have kv2 := kv.below hB
            have kn := Keep.new wr #[.int .i64 ide, .int .i64 fn, .int .i64 pla, .slice A1 n1 c1, .slice A2 n2 c2, .slice A3 n3 c3, .int .i64 result, .int .i64 mode, .int .i64 value', .int .i64 base, .bool off] 78
            have hkw : IntKind.i64.wrap ((k : Int) + 1) = (k : Int) + 1 := IntWalk.i64_in _ ⟨by omega, by omega⟩
            have hmw : IntKind.i64.wrap ((m : Int) - 1) = (m : Int) - 1 := IntWalk.i64_in _ ⟨by omega, by omega⟩
            have hgn : ∃ k1 : Nat, k1 < m ∧ (∃ last : Bool, ((k : Int) == (m : Int) - 1) = last ∧ (last = false → k1 = k + 1) ∧ (last = true → fs[k + 1]? = none)) ∧ (if (k : Int) + 1 < (m : Int) - 1 then (k : Int) + 1 else (m : Int) - 1) = (k1 : Int) := by
              by_cases h1 : k + 1 < m
              · refine ⟨k + 1, h1, ⟨false, by simp; omega, fun _ => rfl, fun h => Bool.noConfusion h⟩, ?_⟩
                split <;> omega
              · refine ⟨k, hlt, ⟨true, by simp; omega, fun h => Bool.noConfusion h, fun _ => List.getElem?_eq_none (by omega)⟩, ?_⟩
                rw [if_neg (by omega)]
                omega
            obtain ⟨k1, hk1, ⟨last, hlast, hl1, hl2⟩, hleast⟩ := hgn
            have LL := put (fun W => (show Calls Tryz.prog 81 #[.int .i64 ((k : Int) + 1), .int .i64 ((m : Int) - 1)] W fun e w' => e = .returned (.int .i64 (k1 : Int)) ∧ Below W.heap.size W w' from (l1Least_any ((k : Int) + 1) ((m : Int) - 1) W).mono (fun e w' h => ⟨by rw [h.1, hleast], by rw [← h.2]; exact Below.refl _ _⟩)))
            obtain ⟨b8, o8, q, B1, m1', d1, B2, m2', d2', B3, m3', d3', hC2, hb2', i0, i1, i2, i3, i4, i5, i6, i7, i8, i9, i10, r2, hx2⟩ := HFF.out.at_ hk1
            injection hC2 with hC2
            injection hC2 with e1 e2'
            subst e1 e2'
            obtain ⟨ide', fn', pla', pile', vars', flags', result', mode', value'', base', off'⟩ := q
            have hab := put (show fs[k + 1]? = if last then none else some (⟨ide', fn', pla', pile', vars', flags', result', mode', value'', base', off'⟩ : Fr) from by
              cases last
              · rw [← hl1 rfl]; exact hx2.out
              · exact hl2 rfl)
            have SG := put (fun W (hW : Below w.heap.size w W) => l8FrameGood_any A n c cs ide fn pla result mode value' base pile vars flags off A1 n1 c1 A2 n2 c2 A3 n3 c3 ide' fn' pla' result' mode' value'' base' pile' vars' flags' off' B1 m1' d1 B2 m2' d2' B3 m3' d3' last fs[k + 1]? hab W (HRR.out.now hW) (R0.out.now hW) s1 s2 HGI.out)
            clear r2 hl1 hl2 hleast s1 s2
            have uy := cell_regrown (kx2.cell 0)
            have uv := cell_regrown (kv2.cell 0)
            have un0 := cell_regrown (kn.cell 0)
            have un1 := cell_regrown (kn.cell 1)
            have un2 := cell_regrown (kn.cell 2)
            have un3 := cell_regrown (kn.cell 3)
            have un4 := cell_regrown (kn.cell 4)
            have un5 := cell_regrown (kn.cell 5)
            have un6 := cell_regrown (kn.cell 6)
            have un7 := cell_regrown (kn.cell 7)
            have un8 := cell_regrown (kn.cell 8)
            have un9 := cell_regrown (kn.cell 9)
            have un10 := cell_regrown (kn.cell 10)
            have ui0 := cell_regrown ((bw2.cell (p := ⟨b, o + k1 * 11, none⟩) hb').trans i0)
            have ui1 := cell_regrown ((bw2.cell (p := ⟨b, o + k1 * 11 + 1, none⟩) hb').trans i1)
            have ui2 := cell_regrown ((bw2.cell (p := ⟨b, o + k1 * 11 + 2, none⟩) hb').trans i2)
            have ui3 := cell_regrown ((bw2.cell (p := ⟨b, o + k1 * 11 + 3, none⟩) hb').trans i3)
            have ui4 := cell_regrown ((bw2.cell (p := ⟨b, o + k1 * 11 + 4, none⟩) hb').trans i4)
            have ui5 := cell_regrown ((bw2.cell (p := ⟨b, o + k1 * 11 + 5, none⟩) hb').trans i5)
            have ui6 := cell_regrown ((bw2.cell (p := ⟨b, o + k1 * 11 + 6, none⟩) hb').trans i6)
            have ui7 := cell_regrown ((bw2.cell (p := ⟨b, o + k1 * 11 + 7, none⟩) hb').trans i7)
            have ui8 := cell_regrown ((bw2.cell (p := ⟨b, o + k1 * 11 + 8, none⟩) hb').trans i8)
            have ui9 := cell_regrown ((bw2.cell (p := ⟨b, o + k1 * 11 + 9, none⟩) hb').trans i9)
            have ui10 := cell_regrown ((bw2.cell (p := ⟨b, o + k1 * 11 + 10, none⟩) hb').trans i10)
            simp at uy uv un0 un1 un2 un3 un4 un5 un6 un7 un8 un9 un10
            clear i0 i1 i2 i3 i4 i5 i6 i7 i8 i9 i10
            have hk1I : (k1 : Int) < (m : Int) := by omega
            have hk10 : (0 : Int) ≤ (k1 : Int) := by omega
            have KX := put kx2
            have KV := put kv2
            clear kx2 kv2 kn kx kv hB
            go_wp2_with fail
            clear x0 x1 x2 x3 x4 x5 x6 x7 x8 x9 x10
            generalize hWW : wr.alloc (Obj.cells #[.int .i64 ide, .int .i64 fn, .int .i64 pla, .slice A1 n1 c1, .slice A2 n2 c2, .slice A3 n3 c3, .int .i64 result, .int .i64 mode, .int .i64 value', .int .i64 base, .bool off] 78) = W at bw2 SG LL KX KV uy uv un0 un1 un2 un3 un4 un5 un6 un7 un8 un9 un10 ui0 ui1 ui2 ui3 ui4 ui5 ui6 ui7 ui8 ui9 ui10 ⊢
            clear hWW
            refine wp_region_quiet_below (by kernel_rfl) (by kernel_rfl) ?_
            repeat (first | go_big_quiet_step (first | (go_at_call 81; exact Calls.regrown_of (LL.out _)) | (go_at_call 80; exact Calls.regrown_of (SG.out _ (bw2.trans ((below_regrown W _ _).mono bw2.size))))) | quiet_step (fail))
            refine wpQuiet_nil ?_
            intro _ hw'
            obtain ⟨⟨dq, osq⟩, hw''⟩ := hw'
            subst hw''
            have hr9 := below_regrown W dq osq
            have bw3 := bw2.trans (hr9.mono bw2.size)
            cases hg9 : frgB cs (⟨ide, fn, pla, pile, vars, flags, result, mode, value', base, off⟩ : Fr) fs[k + 1]?
            · have HN := put (NO.out (fun h9 => by
                have h1 := (frgB_iff _ _ _).2 (h9.2.2.all k _ hx.out)
                rw [hg9] at h1
                cases h1))
              go_wp2
              go_ret
              exact ⟨ret_bool HN.out.symm, bw3⟩
            · have hall2 := put (hall.out.more hx.out ((frgB_iff _ _ _).1 hg9))
              go_wp2
              go_roundw
              case rel => exact ⟨k + 1, by omega, by go_num, hall2, KX.out.below hr9, KV.out.below hr9, bw3⟩
              case measure => simp [intOf]; omega
          · have hfin := put (YES.out HREST.out HE.out ⟨HOFF.out, fun i f h => hall.out i f (by have := (List.getElem?_eq_some_iff.1 h).1; omega) h⟩)
            go_wp2
            go_ret
            exact ⟨ret_bool hfin.out.symm, bw⟩
      · have b2 : (code != 4) = true := by simp [z4]
        have HN := put (NO.out (fun h9 => by have := h9.2.1.2 z0 z4; dsimp only at this; omega))
        have e2 : (0 : Int) < (m : Int) := by omega
        clear z0 z4 hm0 hc4
        go_wp2
        go_ret
        exact ⟨ret_bool HN.out.symm, hb0⟩

end Go.Proofs.YtpbkkjiikhjanaaGreatDoor

/-
  Whether the frames of a machine are good: the program's goodFrames.
-/
import Derived.Test.YtpbkkjiikhjanaaGreatDoorJGx
import Derived.Deep.QuietTactic
import Derived.BigQuiet
import Derived.Lib.QuietBelow
namespace Go.Proofs.YtpbkkjiikhjanaaGreatDoor
open Go.RowKit Go.Deep Exs Ht

theorem hgL_is {cs : List Cd} (hg : giB cs = true) {s : Cd} (hs : s ∈ cs) : hts (gr cs s) = some (hgL cs s) ∧ (hgL cs s).length = s.ins.length := by
  obtain ⟨_, _, _, _, hh, h, _⟩ := good_code hg hs
  have e : hgL cs s = hh := by unfold hgL; rw [h]; rfl
  rw [e]
  exact ⟨h, (hts_is h).len⟩
/-- What the program looks at of a frame that fits, in one piece. -/
theorem frOk_parts {cs : List Cd} (hg : giB cs = true) {f : Fr} {s : Cd} (h : FrOk cs f s) : ∃ (j p : Nat) (op x : Int) (q : Int), f.fn = (j : Int) ∧ f.pla = (p : Int) ∧ cs[j]? = some s ∧ p < s.ins.length ∧ s.ins[p]? = some (op, x) ∧ (hgL cs s)[p]? = some q ∧ -1 ≤ q ∧ q ≤ 40 ∧ nmB cs s (op, x) = true ∧ insB op x = true := by
  have hm : s ∈ cs := List.mem_of_getElem? h.at_
  obtain ⟨a1, _⟩ := good_code hg hm
  obtain ⟨b1, b2⟩ := hgL_is hg hm
  have h0 := h.pla0
  have h1 := h.pla1
  have hp : f.pla.toNat < s.ins.length := by omega
  have hq : f.pla.toNat < (hgL cs s).length := by omega
  have e1 := List.getElem?_eq_getElem hp
  have e2 := List.getElem?_eq_getElem hq
  have hc := ((cdB_iff s).1 (((imB_iff cs).1 ((giB_iff cs).1 hg).1).2 s hm)).2 _ (List.mem_of_getElem? e1)
  have hn := (namedB_iff cs s).1 a1 _ (List.mem_of_getElem? e1)
  refine ⟨f.fn.toNat, f.pla.toNat, s.ins[f.pla.toNat].1, s.ins[f.pla.toNat].2, (hgL cs s)[f.pla.toNat], (Int.toNat_of_nonneg h.fn0).symm, (Int.toNat_of_nonneg h0).symm, h.at_, hp, e1, e2, ?_, ?_, hn, hc⟩
  · rcases (hts_is b1).at_ _ _ e2 with ⟨h, _⟩ | ⟨h, _⟩ <;> omega
  · rcases (hts_is b1).at_ _ _ e2 with ⟨_, r⟩ | ⟨h, _⟩
    · exact ((hts_is b1).ok.1 _ _ r).2
    · omega
theorem FrGd.last {cs : List Cd} {f : Fr} {s : Cd} {hs : List Int} {h : Int} {t : Token} (hok : FrOk cs f s) (h1 : hts (gr cs s) = some hs) (h2 : hs[f.pla.toNat]? = some h) (h3 : s.ins[f.pla.toNat]? = some t) (h4 : (f.pile.length : Int) = h) : FrGd cs f none :=
  ⟨s, hok, fun _ hg => (by cases hg), hs, h, t, h1, h2, h3, h4⟩
theorem FrGd.call {cs : List Cd} {f g : Fr} {s : Cd} {hs : List Int} {h : Int} {t : Token} (hok : FrOk cs f s) (h1 : hts (gr cs s) = some hs) (h2 : hs[f.pla.toNat]? = some h) (h3 : s.ins[f.pla.toNat]? = some t) (h4 : (f.pile.length : Int) = h - tkI cs t.1 t.2) (hc : CallOk s f g) : FrGd cs f (some g) :=
  ⟨s, hok, fun _ hg => (Option.some.inj hg) ▸ hc, hs, h, t, h1, h2, h3, h4⟩
theorem FrGd.parts {cs : List Cd} {f : Fr} {ab : Option Fr} {s : Cd} {hs : List Int} {h : Int} {t : Token} (hg : FrGd cs f ab) (hcs : cs[f.fn.toNat]? = some s) (h1 : hts (gr cs s) = some hs) (h2 : hs[f.pla.toNat]? = some h) (h3 : s.ins[f.pla.toNat]? = some t) : (f.pile.length : Int) = lowH cs t.1 t.2 h ab ∧ ∀ g, ab = some g → CallOk s f g := by
  obtain ⟨s', a1, a2, hs', h', t', b1, b2, b3, b4⟩ := hg
  have e1 : s' = s := by have := a1.at_; rw [hcs] at this; injection this with this; exact this.symm
  subst e1
  rw [h1] at b1
  injection b1 with b1
  subst b1
  rw [h2] at b2
  injection b2 with b2
  rw [h3] at b3
  injection b3 with b3
  subst b2 b3
  exact ⟨b4, a2⟩
theorem nmB_call {cs : List Cd} {s : Cd} {x : Int} (h : nmB cs s (7, x) = true) : x < (cs.length : Int) := by
  have h' : decide (x < (cs.length : Int)) = true := h
  exact of_decide_eq_true h'
def AllTo (cs : List Cd) (fs : List Fr) (k : Nat) : Prop := ∀ i f, i < k → fs[i]? = some f → FrGd cs f fs[i + 1]?
theorem AllTo.more {cs : List Cd} {fs : List Fr} {k : Nat} {f : Fr} (h : AllTo cs fs k) (hf : fs[k]? = some f) (hg : FrGd cs f fs[k + 1]?) : AllTo cs fs (k + 1) := fun i q hi hq => by
  by_cases hi' : i < k
  · exact h i q hi' hq
  · obtain rfl : i = k := by omega
    rw [hf] at hq
    injection hq with hq
    subst hq
    exact hg

set_option maxHeartbeats 8000000 in
set_option maxRecDepth 100000 in
theorem goodFrames_any (A : Option Addr) (n c : Nat) (cs : List Cd) (C : Option Addr) (m d : Nat) (fs : List Fr) (w : World) (hr : ReadsC w w.heap.size A n cs) (hf : ReadsFr w w.heap.size C m fs) (hs : ∀ f ∈ fs, SmallFr f) (hm : m ≤ 1048576) (hg : giB cs = true) (hkd : Kinds w) (hpos : 0 < w.heap.size) :
    Calls Tryz.prog 61 #[.agg #[.slice A n c], .slice C m d] w fun e w' => e = .returned (.bool (frsB cs fs)) ∧ Below w.heap.size w w' := by
  have hlen := hr.1
  have hfl := hf.1
  have hn5 : n ≤ 5 := by have := ((imB_iff cs).1 ((giB_iff cs).1 hg).1).1; omega
  have HPT := put (fun (f : Fr) (s : Cd) (h : FrOk cs f s) => frOk_parts hg h)
  have HGI := put (fun (s : Cd) (h : s ∈ cs) => hgL_is hg h)
  have HSM := put hs
  have HPA := put ((imB_iff cs).1 ((giB_iff cs).1 hg).1).2
  have hb0 := (Below.refl w.heap.size w).alloc (Nat.le_refl _) (Obj.cells #[.slice A n c] 36)
  have k0 := Keep.new w #[.slice A n c] 36
  have HH := put (heightsOfAll_any A n c cs _ (hr.now hb0) hg (hkd.below hb0 hpos) (by have := hb0.size; omega))
  have HKK := put hkd
  have HRR := put hr
  have HFF := put hf
  clear hs hg hkd hr hf
  have y0 := k0.cell 0
  simp at y0
  by_cases hoff : 0 < m ∧ ∃ f, fs[0]? = some f ∧ f.off = true
  · have HN := put (show frsB cs fs = false from no_of fun h => by obtain ⟨_, f, h1, h2⟩ := hoff; have := ((frsB_iff _ _).1 h).off f h1; rw [h2] at this; cases this)
    obtain ⟨hm0, f, hf0, hfo⟩ := hoff
    obtain ⟨b, o, s, A1, n1, c1, A2, n2, c2, A3, n3, c3, hC, hb', g0, g1, g2, g3, g4, g5, g6, g7, g8, g9, g10, r0, hx⟩ := HFF.out.at_ hm0
    obtain rfl : f = s := by have := hx.out; rw [hf0] at this; injection this
    simp only [Nat.zero_mul, Nat.add_zero] at g10
    rw [hfo] at g10
    subst hC
    have hmI : (0 : Int) < (m : Int) := by omega
    have x10 := (hb0.cell (p := ⟨b, o + 10, none⟩) hb').trans g10
    clear hx g0 g1 g2 g3 g4 g5 g6 g7 g8 g9 g10
    go_enter Tryz.func61, Tryz.ntmps61
    go_wp2
    go_ret
    exact ⟨ret_bool HN.out.symm, hb0⟩
  have HOFF := put (show ∀ f, fs[0]? = some f → f.off = false from fun f h => by
    cases hq : f.off
    · rfl
    · exact absurd ⟨by have := (List.getElem?_eq_some_iff.1 h).1; omega, f, h, hq⟩ hoff)
  have hm0 : m = 0 ∨ (0 < m ∧ ∃ b o, C = some ⟨b, o, none⟩ ∧ ((w.alloc (Obj.cells #[.slice A n c] 36)).cell? ⟨b, o + 10, none⟩ = some (.bool false))) := by
    by_cases h : 0 < m
    · refine .inr ⟨h, ?_⟩
      obtain ⟨b, o, s, A1, n1, c1, A2, n2, c2, A3, n3, c3, hC, hb', g0, g1, g2, g3, g4, g5, g6, g7, g8, g9, g10, r0, hx⟩ := HFF.out.at_ h
      refine ⟨b, o, hC, ?_⟩
      simp only [Nat.zero_mul, Nat.add_zero] at g10
      rw [HOFF.out s hx.out] at g10
      exact (hb0.cell (p := ⟨b, o + 10, none⟩) hb').trans g10
    · exact .inl (by omega)
  clear hoff
  rcases hm0 with hm0 | ⟨hm0, b, o, rfl, x10⟩
  · subst hm0
    go_enter Tryz.func61, Tryz.ntmps61
    go_wp2_with fail
    clear y0
    refine HH.out.mono ?_
    rintro e w1 ⟨g, rfl, hgB, hroom, hb1⟩
    have HY := put (show frsB cs fs = true from (frsB_iff _ _).2 ⟨HOFF.out, fun j f h => by have := (List.getElem?_eq_some_iff.1 h).1; omega⟩)
    have hbb := hb0.trans (hb1.mono hb0.size)
    clear hroom hb1
    go_wp2
    refine wp_loop_rounds 1 ?_
    rw [rounds_succ]
    go_wp2
    go_ret
    exact ⟨ret_bool HY.out.symm, hbb⟩
  · have hmI : (0 : Int) < (m : Int) := by omega
    go_enter Tryz.func61, Tryz.ntmps61
    go_wp2_with fail
    clear y0 x10
    refine HH.out.mono ?_
    rintro e w1 ⟨g, rfl, hgB, hroom, hb1⟩
    have hbb := hb0.trans (hb1.mono hb0.size)
    have kk := k0.below hb1
    clear hb1 k0 hb0 hmI
    go_wp2
    go_loopw [22] (fun i wr => ∃ k : Nat, k ≤ m ∧ i = .int .i64 k ∧ Hid (AllTo cs fs k) ∧ Below w1.heap.size w1 wr) (fun i _ => m - (intOf i).toNat)
    case atStart => exact ⟨0, Nat.zero_le _, rfl, put (fun i f h => by omega), Below.refl _ _⟩
    case round =>
      obtain ⟨k, hk, rfl, hall, hbel⟩ := hrel
      by_cases hlt : k < m
      · have bw := hbb.trans (hbel.mono hbb.size)
        obtain ⟨b9, o9, f, A1, n1, c1, A2, n2, c2, A3, n3, c3, hC, hb', g0, g1, g2, g3, g4, g5, g6, g7, g8, g9, g10, r0, hx⟩ := (HFF.out.below bw).at_ hlt
        injection hC with hC
        injection hC with e1 e2
        subst e1 e2
        obtain ⟨ide, fn, pla, pile, vars, flags, result, mode, value, base, off⟩ := f
        have hsm := HSM.out _ (mem_of_at hx.out)
        have en1 := put r0.pile.1
        have GFr := put (fun W (hW : Below w.heap.size w W) (hW2 : Below wr.heap.size wr W) => goodFrame_any A n c cs ide fn pla result mode value base pile vars flags off A1 n1 c1 A2 n2 c2 A3 n3 c3 W (HRR.out.now hW) (((r0.more bw.size).below hW2).more hW2.size) (by have := r0.pile.1; have := hsm.1; dsimp only at *; omega) (by have := r0.vars.1; have := hsm.2.1; dsimp only at *; omega))
        have hB := (Below.refl wr.heap.size wr).alloc (Nat.le_refl _) (Obj.cells #[.int .i64 ide, .int .i64 fn, .int .i64 pla, .slice A1 n1 c1, .slice A2 n2 c2, .slice A3 n3 c3, .int .i64 result, .int .i64 mode, .int .i64 value, .int .i64 base, .bool off] 78)
        have bw2 := bw.trans (hB.mono bw.size)
        have k3 := (kk.below hbel).below hB
        have kn := Keep.new wr #[.int .i64 ide, .int .i64 fn, .int .i64 pla, .slice A1 n1 c1, .slice A2 n2 c2, .slice A3 n3 c3, .int .i64 result, .int .i64 mode, .int .i64 value, .int .i64 base, .bool off] 78
        have y0 := k3.cell 0
        simp at y0
        have hroom3 := (hroom.below hbel).below hB
        have hlw := hbel.trans (hB.mono hbel.size)
        clear r0 hsm
        go_wp2_with fail
        refine (GFr.out _ bw2 hB).mono ?_
        rintro e w2 ⟨rfl, hb2⟩
        have bw3 := bw2.trans (hb2.mono bw2.size)
        cases hfr : frB cs (⟨ide, fn, pla, pile, vars, flags, result, mode, value, base, off⟩ : Fr)
        · have HN := put (show frsB cs fs = false from no_of fun h => by
            obtain ⟨s9, h9, _⟩ := ((frsB_iff _ _).1 h).all k _ hx.out
            have := (frB_iff _ _).2 ⟨s9, h9⟩
            rw [hfr] at this
            cases this)
          go_wp2
          go_ret
          exact ⟨ret_bool HN.out.symm, bw3⟩
        · obtain ⟨s, hok⟩ := (frB_iff _ _).1 hfr
          have HOK := put hok
          obtain ⟨j, p, op, x, q, hfn, hpla, hcs, hp, hins, hq, q1, q2, hnm, hib⟩ := HPT.out _ _ hok
          dsimp only at hfn hpla
          subst hfn hpla
          clear hok hfr GFr
          have kn2 := kn.below hb2
          have k4 := k3.below hb2
          have y0' := k4.cell 0
          simp at y0'
          have hroom4 := hroom3.below hb2
          have hjn : j < n := by rw [← hlen]; exact (List.getElem?_eq_some_iff.1 hcs).1
          have hml : (cs.map (hgL cs))[j]? = some (hgL cs s) := by rw [List.getElem?_map, hcs]; rfl
          obtain ⟨A8, c8, hrow, hrd⟩ := hroom4.at_ hml
          obtain ⟨hgi, hgl⟩ := HGI.out s (mem_of_at hcs)
          have hp8 : p < (hgL cs s).length := by rw [hgl]; exact hp
          obtain ⟨b8, o8, q', rfl, hb8, hq8, hq'⟩ := hrd.at_ hp8
          obtain rfl : q' = q := by have := hq'.out; rw [hq] at this; injection this with this; exact this.symm
          obtain ⟨l8, hl8⟩ : ∃ l8, (hgL cs s).length = l8 := ⟨_, rfl⟩
          rw [hl8] at hrow
          have hpI : (p : Int) < (l8 : Int) := by omega
          have hjI : (j : Int) < (n : Int) := by omega
          have hj0 : (0 : Int) ≤ (j : Int) := by omega
          have hp0 : (0 : Int) ≤ (p : Int) := by omega
          have HP8 := put hp8
          have HL8 := put hl8
          have HQ := put hq
          have HGIS := put hgi
          have HCS := put hcs
          have HINS := put hins
          have HPL := put hp
          clear hml hrd hq' hgl hp8 hl8 hq hgi hcs hins hp
          have z0 := kn2.cell 0
          have z1 := kn2.cell 1
          have z2 := kn2.cell 2
          have z3 := kn2.cell 3
          have z4 := kn2.cell 4
          have z5 := kn2.cell 5
          have z6 := kn2.cell 6
          have z7 := kn2.cell 7
          have z8 := kn2.cell 8
          have z9 := kn2.cell 9
          have z10 := kn2.cell 10
          simp at z0 z1 z2 z3 z4 z5 z6 z7 z8 z9 z10
          clear y0 hroom hroom3 kn k3 hB hbel g0 g1 g2 g3 g4 g5 g6 g7 g8 g9 g10
          have hkw : IntKind.i64.wrap ((k : Int) + 1) = (k : Int) + 1 := IntWalk.i64_in _ ⟨by omega, by omega⟩
          go_wp2_with fail
          go_quiet (fail)
          have hbd := below_drewN bw3 nq
          have y3 : (w2.drewN nq).cell? ⟨w.heap.size, 0, none⟩ = some (.slice A n c) := y0'
          have kd : Keep (w2.drewN nq) wr.heap.size #[.int .i64 ide, .int .i64 (j : Int), .int .i64 (p : Int), .slice A1 n1 c1, .slice A2 n2 c2, .slice A3 n3 c3, .int .i64 result, .int .i64 mode, .int .i64 value, .int .i64 base, .bool off] 78 := kn2
          have hbelW : Below w1.heap.size w1 (w2.drewN nq) := below_drewN (hlw.trans (hb2.mono hlw.size)) nq
          clear hb2
          clear z0 z1 z2 z3 z4 z5 z6 z7 z8 z9 z10 y0' hroom4 kn2 k4 hrow hq8
          generalize w2.drewN nq = W at hbd y3 kd hbelW ⊢
          have z0 := kd.cell 0
          have z1 := kd.cell 1
          have z2 := kd.cell 2
          have z3 := kd.cell 3
          have z4 := kd.cell 4
          have z5 := kd.cell 5
          have z6 := kd.cell 6
          have z7 := kd.cell 7
          have z8 := kd.cell 8
          have z9 := kd.cell 9
          have z10 := kd.cell 10
          simp at z0 z1 z2 z3 z4 z5 z6 z7 z8 z9 z10
          clear kd
          by_cases hk1 : k + 1 < m
          · have hk1I : (k : Int) + 1 < (m : Int) := by omega
            have hk10 : (0 : Int) ≤ (k : Int) + 1 := by omega
            have hkt : ((k : Int) + 1).toNat = k + 1 := by omega
            obtain ⟨b7, o7, f2, B1, m1, d1, B2, m2, d2, B3, m3, d3, hC2, hb7, i0, i1, i2, i3, i4, i5, i6, i7, i8, i9, i10, r2, hx2⟩ := (HFF.out.below hbd).at_ hk1
            injection hC2 with hC2
            injection hC2 with e1 e2
            subst e1 e2
            obtain ⟨ide', fn', pla', pile', vars', flags', result', mode', value', base', off'⟩ := f2
            have CI := put (fun W (hW : Below w.heap.size w W) => isCalling_any A n c cs j p ide result mode value base pile vars flags off A1 n1 c1 A2 n2 c2 A3 n3 c3 ide' fn' pla' result' mode' value' base' pile' vars' flags' off' B1 m1 d1 B2 m2 d2 B3 m3 d3 s op x W (HRR.out.now hW) (by omega) HCS.out HINS.out hnm hib)
            clear r2
            have uy := cell_regrown y3
            have uz0 := cell_regrown z0
            have ui0 := cell_regrown i0
            have uz1 := cell_regrown z1
            have ui1 := cell_regrown i1
            have uz2 := cell_regrown z2
            have ui2 := cell_regrown i2
            have uz3 := cell_regrown z3
            have ui3 := cell_regrown i3
            have uz4 := cell_regrown z4
            have ui4 := cell_regrown i4
            have uz5 := cell_regrown z5
            have ui5 := cell_regrown i5
            have uz6 := cell_regrown z6
            have ui6 := cell_regrown i6
            have uz7 := cell_regrown z7
            have ui7 := cell_regrown i7
            have uz8 := cell_regrown z8
            have ui8 := cell_regrown i8
            have uz9 := cell_regrown z9
            have ui9 := cell_regrown i9
            have uz10 := cell_regrown z10
            have ui10 := cell_regrown i10
            have hnext := put (show fs[k + 1]? = some (⟨ide', fn', pla', pile', vars', flags', result', mode', value', base', off'⟩ : Fr) from hx2.out)
            clear z0 i0 z1 i1 z2 i2 z3 i3 z4 i4 z5 i5 z6 i6 z7 i7 z8 i8 z9 i9 z10 i10 y3
            go_wp2
            refine wp_region_quiet_below (by kernel_rfl) (by kernel_rfl) ?_
            repeat (first | go_big_quiet_step ((go_at_call 91; exact Calls.regrown_of (CI.out _ (hbd.trans ((below_regrown W _ _).mono hbd.size))))) | quiet_step (fail))
            refine wpQuiet_nil ?_
            intro _ hw'
            obtain ⟨⟨dq1, osq1⟩, hw''⟩ := hw'
            subst hw''
            have hbd1 := hbd.trans ((below_regrown W dq1 osq1).mono hbd.size)
            have hbl1 := hbelW.trans ((below_regrown W dq1 osq1).mono hbelW.size)
            have hy5 := uy dq1 osq1
            have hz0 := uz0 dq1 osq1
            have hz1 := uz1 dq1 osq1
            have hz2 := uz2 dq1 osq1
            have hz3 := uz3 dq1 osq1
            have hz4 := uz4 dq1 osq1
            have hz5 := uz5 dq1 osq1
            have hz6 := uz6 dq1 osq1
            have hz7 := uz7 dq1 osq1
            have hz8 := uz8 dq1 osq1
            have hz9 := uz9 dq1 osq1
            have hz10 := uz10 dq1 osq1
            clear uy uz0 ui0 uz1 ui1 uz2 ui2 uz3 ui3 uz4 ui4 uz5 ui5 uz6 ui6 uz7 ui7 uz8 ui8 uz9 ui9 uz10 ui10
            generalize Go.Sort.grow (redrawn W dq1) osq1 = W1 at hbd1 hbl1 hy5 hz0 hz1 hz2 hz3 hz4 hz5 hz6 hz7 hz8 hz9 hz10 ⊢
            cases hcb : callB s (⟨ide, (j : Int), (p : Int), pile, vars, flags, result, mode, value, base, off⟩ : Fr) (⟨ide', fn', pla', pile', vars', flags', result', mode', value', base', off'⟩ : Fr)
            · have HN := put (show frsB cs fs = false from no_of fun h => by
                have h1 := ((frsB_iff _ _).1 h).all k _ hx.out
                rw [hnext.out] at h1
                have h2 := (callB_iff _ _ _).2 ((h1.parts HCS.out HGIS.out HQ.out HINS.out).2 _ rfl)
                rw [hcb] at h2
                cases h2)
              go_wp2
              go_ret
              exact ⟨ret_bool HN.out.symm, hbd1⟩
            · have hcall := put ((callB_iff _ _ _).1 hcb)
              obtain ⟨b6, o6, s', A4, n4, c4, A5, n5, c5, A6, n6, c6, hA6, hb6, g0, g1, g2, g3, g4, r3, r4, r5, hx6⟩ := HRR.out.at_ hjn
              obtain rfl : s = s' := by have := hx6.out; rw [HCS.out] at this; injection this
              have hp5 : p < n5 := by rw [← r4.1]; exact HPL.out
              obtain ⟨b5, o5, op5, x5, hA5, hb5, i0, i1, hi5⟩ := r4.at_ hp5
              obtain ⟨rfl, rfl⟩ : op = op5 ∧ x = x5 := by have := hi5.out; rw [HINS.out] at this; injection this with this; injection this with h1 h2; exact ⟨h1, h2⟩
              subst hA5
              have TK := put (fun W (hW : Below w.heap.size w W) => insTakes_any A n c cs op x W (HRR.out.now hW) (HKK.out.below hW hpos) (by have := hW.size; omega) hib (fun h7 => by subst h7; have := nmB_call hnm; omega))
              subst hA6
              have uy := cell_regrown hy5
              have uz0 := cell_regrown hz0
              have uz1 := cell_regrown hz1
              have uz2 := cell_regrown hz2
              have uz3 := cell_regrown hz3
              have uz4 := cell_regrown hz4
              have uz5 := cell_regrown hz5
              have uz6 := cell_regrown hz6
              have uz7 := cell_regrown hz7
              have uz8 := cell_regrown hz8
              have uz9 := cell_regrown hz9
              have uz10 := cell_regrown hz10
              have v3 := cell_regrown ((hbd1.cell (p := ⟨b6, o6 + j * 5 + 3, none⟩) hb6).trans g3)
              have v5 := cell_regrown ((hbd1.cell (p := ⟨b5, o5 + p * 2, none⟩) hb5).trans i0)
              have v6 := cell_regrown ((hbd1.cell (p := ⟨b5, o5 + p * 2 + 1, none⟩) hb5).trans i1)
              have hp5I : (p : Int) < (n5 : Int) := by omega
              clear g0 g1 g2 g3 g4 r3 r4 r5 i0 i1 hx6 hi5 CI hcb
              have htk := tkI_is HPA.out op x
              have TKE := put (rfl : tkI cs op x = tkI cs op x)
              revert TKE TK htk
              generalize hz : tkI cs op x = tk
              intro TK htk TKE
              have HZ := put hz
              clear hz TKE
              have hwr : IntKind.i64.wrap (q' - tk) = q' - tk := IntWalk.i64_in _ ⟨by omega, by omega⟩
              go_wp2
              refine wp_region_quiet_below (by kernel_rfl) (by kernel_rfl) ?_
              repeat (first | go_big_quiet_step ((go_at_call 92; exact Calls.regrown_of (TK.out _ (hbd1.trans ((below_regrown W1 _ _).mono hbd1.size))))) | quiet_step (fail))
              refine wpQuiet_nil ?_
              intro _ hw'
              obtain ⟨⟨dq2, osq2⟩, hw''⟩ := hw'
              subst hw''
              have hbd2 := hbd1.trans ((below_regrown W1 dq2 osq2).mono hbd1.size)
              have hbl2 := hbl1.trans ((below_regrown W1 dq2 osq2).mono hbl1.size)
              have hy6 := uy dq2 osq2
              have hw0 := uz0 dq2 osq2
              have hw1 := uz1 dq2 osq2
              have hw2 := uz2 dq2 osq2
              have hw3 := uz3 dq2 osq2
              have hw4 := uz4 dq2 osq2
              have hw5 := uz5 dq2 osq2
              have hw6 := uz6 dq2 osq2
              have hw7 := uz7 dq2 osq2
              have hw8 := uz8 dq2 osq2
              have hw9 := uz9 dq2 osq2
              have hw10 := uz10 dq2 osq2
              clear uy uz0 hz0 uz1 hz1 uz2 hz2 uz3 hz3 uz4 hz4 uz5 hz5 uz6 hz6 uz7 hz7 uz8 hz8 uz9 hz9 uz10 hz10 hy5
              generalize Go.Sort.grow (redrawn W1 dq2) osq2 = W2 at hbd2 hbl2 hy6 hw0 hw1 hw2 hw3 hw4 hw5 hw6 hw7 hw8 hw9 hw10 ⊢
              by_cases hq0 : (n1 : Int) = q' - tk
              · have e1 : ((n1 : Int) != q' - tk) = false := by simp [hq0]
                have hall2 := put (hall.out.more hx.out (by
                  rw [hnext.out]
                  exact FrGd.call HOK.out HGIS.out HQ.out HINS.out (by have := en1.out; have := HZ.out; dsimp only at *; omega) hcall.out))
                clear hq0
                go_wp2
                go_roundw
                case rel => exact ⟨k + 1, by omega, by go_num, hall2, hbl2⟩
                case measure => simp [intOf]; omega
              · have e1 : ((n1 : Int) != q' - tk) = true := by simp [hq0]
                have HN := put (show frsB cs fs = false from no_of fun h => by
                  have h1 := ((frsB_iff _ _).1 h).all k _ hx.out
                  rw [hnext.out] at h1
                  have h2 := (h1.parts HCS.out HGIS.out HQ.out HINS.out).1
                  have := en1.out
                  have := HZ.out
                  simp only [lowH] at h2
                  omega)
                clear hq0
                go_wp2
                go_ret
                exact ⟨ret_bool HN.out.symm, hbd2⟩
          · have hk1I : ¬ (k : Int) + 1 < (m : Int) := by omega
            have hnone := put (show fs[k + 1]? = none from List.getElem?_eq_none (by omega))
            by_cases hq0 : (n1 : Int) = q'
            · have e1 : ((n1 : Int) != q') = false := by simp [hq0]
              have hall2 := put (hall.out.more hx.out (by
                rw [hnone.out]
                exact FrGd.last HOK.out HGIS.out HQ.out HINS.out (by have := en1.out; dsimp only at *; omega)))
              clear hq0
              go_wp2
              go_roundw
              case rel => exact ⟨k + 1, by omega, by go_num, hall2, hbelW⟩
              case measure => simp [intOf]; omega
            · have e1 : ((n1 : Int) != q') = true := by simp [hq0]
              have HN := put (show frsB cs fs = false from no_of fun h => by
                have h1 := ((frsB_iff _ _).1 h).all k _ hx.out
                rw [hnone.out] at h1
                have h2 := (h1.parts HCS.out HGIS.out HQ.out HINS.out).1
                have := en1.out
                simp only [lowH] at h2
                omega)
              clear hq0
              go_wp2
              go_ret
              exact ⟨ret_bool HN.out.symm, hbd⟩
      · have hfin := put (show frsB cs fs = true from (frsB_iff _ _).2 ⟨HOFF.out, fun i f h => hall.out i f (by have := (List.getElem?_eq_some_iff.1 h).1; omega) h⟩)
        have bw := hbb.trans (hbel.mono hbb.size)
        go_wp2
        go_ret
        exact ⟨ret_bool hfin.out.symm, bw⟩
end Go.Proofs.YtpbkkjiikhjanaaGreatDoor

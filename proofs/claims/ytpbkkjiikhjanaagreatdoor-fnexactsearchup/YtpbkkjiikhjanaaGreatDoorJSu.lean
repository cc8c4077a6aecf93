/-
  The last frame that may stop a panic: SearchUp of both sides.
-/
import Derived.Test.YtpbkkjiikhjanaaGreatDoorJGg
import Derived.Stop.RegionWithIn
import Derived.ScopeJumps
namespace Go.Proofs.YtpbkkjiikhjanaaGreatDoor
open Go.RowKit Go.Deep Go.Shelf Exs Ht
attribute [local go_sem] Oper.semAt_some

theorem suAns_no {cs : List Cd} {m : Mc} (h : gvB cs m = false) : suAns cs m = (0, false) := by unfold suAns; rw [if_neg (by rw [h]; decide)]
theorem suAns_hit {cs : List Cd} {m : Mc} {k : Nat} (h : gvB cs m = true) (hk : suK cs m.frames m.frames.length = some k) : suAns cs m = ((k : Int), true) := by unfold suAns; rw [if_pos h, hk]
theorem suAns_none {cs : List Cd} {m : Mc} (h : gvB cs m = true) (hk : suK cs m.frames m.frames.length = none) : suAns cs m = (0, false) := by unfold suAns; rw [if_pos h, hk]
theorem suK_hit {cs : List Cd} {fs : List Fr} {k : Nat} (h : mayK cs fs k = true) : suK cs fs (k + 1) = some k := by rw [suK, if_pos h]
theorem suK_next {cs : List Cd} {fs : List Fr} {k : Nat} (h : mayK cs fs k = false) : suK cs fs (k + 1) = suK cs fs k := by rw [suK, if_neg (by rw [h]; decide)]

set_option maxHeartbeats 4000000 in
set_option maxRecDepth 100000 in
theorem specSearchUp_any (A : Option Addr) (n c : Nat) (cs : List Cd) (C : Option Addr) (m d : Nat) (fs : List Fr) (T2 : Option Addr) (m2 d2 : Nat) (trace : List Int) (T3 : Option Addr) (m3 d3 : Nat) (notes : List Row3) (used code value made : Int) (w : World) (hr : ReadsC w w.heap.size A n cs) (hf : ReadsFr w w.heap.size C m fs) (ht : Reads w w.heap.size .i64 T2 m2 trace) (hsm : SmallI cs) (hs : ∀ f ∈ fs, SmallFr f) (hm : m ≤ 1048576) (hm2 : m2 ≤ 1048576) :
    Calls Tryz.prog 14 #[.agg #[.slice A n c], .agg #[.slice C m d, .slice T2 m2 d2, .int .i64 used, .int .i64 code, .int .i64 value, .int .i64 made, .slice T3 m3 d3]] w fun e w' => e = .returned (.tuple #[.int .i64 (suAns cs (⟨fs, trace, used, code, value, made, notes⟩ : Mc)).1, .bool (suAns cs (⟨fs, trace, used, code, value, made, notes⟩ : Mc)).2]) ∧ Below w.heap.size w w' := by
  have G0 := put (suAns_no (cs := cs) (m := (⟨fs, trace, used, code, value, made, notes⟩ : Mc)))
  have G1 := put (fun (hg : gvB cs (⟨fs, trace, used, code, value, made, notes⟩ : Mc) = true) (k : Nat) (h : suK cs fs fs.length = some k) => suAns_hit (m := (⟨fs, trace, used, code, value, made, notes⟩ : Mc)) hg h)
  have G2 := put (fun (hg : gvB cs (⟨fs, trace, used, code, value, made, notes⟩ : Mc) = true) (h : suK cs fs fs.length = none) => suAns_none (m := (⟨fs, trace, used, code, value, made, notes⟩ : Mc)) hg h)
  generalize suAns cs (⟨fs, trace, used, code, value, made, notes⟩ : Mc) = ans at G0 G1 G2 ⊢
  have GV := put (fun W (hW : Below w.heap.size w W) => specGoodVm_any A n c cs C m d fs T2 m2 d2 trace T3 m3 d3 notes used code value made W (hr.now hW) (hf.now hW) (ht.now hW) hsm hs hm hm2)
  have LM := put (fun (hg : gvB cs (⟨fs, trace, used, code, value, made, notes⟩ : Mc) = true) (k : Nat) (hk : k < m) W (hW : Below w.heap.size w W) => l9May_any A n c cs C m d fs T2 m2 d2 T3 m3 d3 used code value made k W (hr.now hW) (hf.now hW) hs hm (gdF_of hg) hk (fun c hc => (hsm.2 c hc).2.1))
  have HFL := put hf.1
  have HM := put hm
  clear hsm hs hr hf ht
  have hb0 : Below w.heap.size w ((w.alloc (.cells #[.slice A n c] 36)).alloc (.cells #[.slice C m d, .slice T2 m2 d2, .int .i64 used, .int .i64 code, .int .i64 value, .int .i64 made, .slice T3 m3 d3] 41)) := ((Below.refl _ _).alloc (Nat.le_refl _) _).alloc (by simp) _
  have kx : Keep ((w.alloc (.cells #[.slice A n c] 36)).alloc (.cells #[.slice C m d, .slice T2 m2 d2, .int .i64 used, .int .i64 code, .int .i64 value, .int .i64 made, .slice T3 m3 d3] 41)) w.heap.size #[.slice A n c] 36 := (Keep.new _ _ _).alloc _
  have kv : Keep ((w.alloc (.cells #[.slice A n c] 36)).alloc (.cells #[.slice C m d, .slice T2 m2 d2, .int .i64 used, .int .i64 code, .int .i64 value, .int .i64 made, .slice T3 m3 d3] 41)) (w.heap.size + 1) #[.slice C m d, .slice T2 m2 d2, .int .i64 used, .int .i64 code, .int .i64 value, .int .i64 made, .slice T3 m3 d3] 41 := by
    have := Keep.new (w.alloc (.cells #[.slice A n c] 36)) #[.slice C m d, .slice T2 m2 d2, .int .i64 used, .int .i64 code, .int .i64 value, .int .i64 made, .slice T3 m3 d3] 41
    rw [World.size_alloc] at this
    exact this
  have hwm : IntKind.i64.wrap ((m : Int) - 1) = (m : Int) - 1 := IntWalk.i64_in _ ⟨by omega, by omega⟩
  go_enter Tryz.func14, Tryz.ntmps14
  go_wp2_with fail
  generalize ((w.alloc (.cells #[.slice A n c] 36)).alloc (.cells #[.slice C m d, .slice T2 m2 d2, .int .i64 used, .int .i64 code, .int .i64 value, .int .i64 made, .slice T3 m3 d3] 41)) = W at hb0 kx kv GV ⊢
  refine (GV.out _ hb0).mono ?_
  rintro e w1 ⟨rfl, hb1⟩
  have hbd := hb0.trans (hb1.mono hb0.size)
  have kx1 := kx.below hb1
  have kv1 := kv.below hb1
  clear kx kv hb1 hb0
  have y0 := kv1.cell 0
  simp at y0
  cases hg : gvB cs (⟨fs, trace, used, code, value, made, notes⟩ : Mc)
  · have HN := put (G0.out hg)
    go_wp2
    go_ret2
    exact ⟨by rw [HN.out]; rfl, hbd⟩
  go_wp2
  clear y0
  go_loopw [6] (fun i wr => ∃ k : Nat, k ≤ m ∧ i = .int .i64 ((k : Int) - 1) ∧ Hid (suK cs fs fs.length = suK cs fs k) ∧ Below w1.heap.size w1 wr) (fun i _ => (intOf i + 1).toNat)
  case atStart => exact ⟨m, Nat.le_refl _, rfl, put (by rw [HFL.out]), Below.refl _ _⟩
  case round =>
    obtain ⟨k, hk, rfl, hS, bw⟩ := hrel
    have b3 := hbd.trans (bw.mono hbd.size)
    have kx3 := kx1.below bw
    have kv3 := kv1.below bw
    have x0 := kx3.cell 0
    have y0 := kv3.cell 0
    have y1 := kv3.cell 1
    have y2 := kv3.cell 2
    have y3 := kv3.cell 3
    have y4 := kv3.cell 4
    have y5 := kv3.cell 5
    have y6 := kv3.cell 6
    simp at x0 y0 y1 y2 y3 y4 y5 y6
    cases k with
    | zero =>
      have HN := put (G2.out hg (by rw [hS.out]; rfl))
      have hneg : ((0 : Nat) : Int) - 1 = -1 := by omega
      rw [hneg]
      go_wp2
      go_ret2
      exact ⟨by rw [HN.out]; rfl, b3⟩
    | succ k =>
      have hkI : ((k + 1 : Nat) : Int) - 1 = (k : Int) := by omega
      have hk0 : (0 : Int) ≤ (k : Int) := by omega
      have hwk : IntKind.i64.wrap ((k : Int) - 1) = (k : Int) - 1 := IntWalk.i64_in _ ⟨by have := HM.out; omega, by have := HM.out; omega⟩
      rw [hkI]
      have CON := put (LM.out hg k (by omega) _ b3)
      obtain ⟨r, hrr⟩ : ∃ r, mayK cs fs k = r := ⟨_, rfl⟩
      rw [hrr] at CON
      cases r
      · have hS2 := put (hS.out.trans (suK_next hrr))
        clear hS hrr
        go_wp2_with fail
        refine CON.out.mono ?_
        rintro e w2 ⟨rfl, hb2⟩
        go_wp2
        go_roundw
        case rel => exact ⟨k, by omega, rfl, hS2, bw.trans (hb2.mono bw.size)⟩
        case measure => simp [intOf]
      · have HY := put (G1.out hg k (hS.out.trans (suK_hit hrr)))
        clear hS hrr
        go_wp2_with fail
        refine CON.out.mono ?_
        rintro e w2 ⟨rfl, hb2⟩
        go_wp2
        go_ret2
        exact ⟨by rw [HY.out]; rfl, b3.trans (hb2.mono b3.size)⟩

theorem suK_none {cs : List Cd} {fs : List Fr} : ∀ {m : Nat}, (∀ j, j < m → mayK cs fs j = false) → suK cs fs m = none
  | 0, _ => rfl
  | m + 1, h => by rw [suK_next (h m (by omega))]; exact suK_none fun j hj => h j (by omega)
theorem suK_some {cs : List Cd} {fs : List Fr} : ∀ {m k : Nat}, k < m → mayK cs fs k = true → suK cs fs m ≠ none
  | 0, _, hk, _ => by omega
  | m + 1, k, hk, h => by
    cases hm : mayK cs fs m
    · rw [suK_next hm]
      rcases Nat.lt_or_ge k m with h1 | h1
      · exact suK_some h1 h
      · obtain rfl : k = m := by omega
        rw [h] at hm
        cases hm
    · rw [suK_hit hm]; exact fun e => by cases e
/-- How the walk ends. -/
def suRes (cs : List Cd) (fs : List Fr) (m : Nat) : Option Nat := match suK cs fs m with | some _ => none | none => some m
theorem KeepsOthers.of_below {W W' : World} (h : Below W.heap.size W W') : KeepsOthers W W' := ⟨h.size, fun k _ hk _ => (h.block k (Array.getElem?_eq_some_iff.1 hk).1).trans hk⟩

set_option maxRecDepth 100000 in
set_option maxHeartbeats 4000000 in
theorem backFr_steps (F : Fence) (hd : F.depth = none) (n : Nat) (h67 : F.fn 67) (hro : F.round = none) (B L : Nat) (C : Option Addr) (m d : Nat) (fs : List Fr) (st : Nat → Bool) (res : Option Nat) (hm : m ≤ 1048576) (h1 : ∀ k, k < m → st k = true → res = none) (h2 : (∀ j, j < m → st j = false) → res = some m) (w : World) :
    Steps F n Tryz.prog 67 #[.pointer (some ⟨B, 0, none⟩)] (fun x : Int × Value => #[.int .i64 x.1, x.2]) (fun _ _ => True) (fun k x => k < m ∧ x.1 = (m : Int) - 1 - (k : Int)) (fun k _ => if st k = true then none else some (k + 1)) 0 res (fun W => W.cell? ⟨B, 0, none⟩ = some (.slice C m d) ∧ ReadsFr W L C m fs) w := by
  intro l J Jx W hW hJ hQ hY h0
  have hdd : ∀ k : Nat, (F.depth.isSome = true → 1 ≤ k) := fun k h => by rw [hd] at h; cases h
  have y0 := (hQ 0 W h0).2.1
  have hw0 : IntKind.i64.wrap ((m : Int) - 1) = (m : Int) - 1 := IntWalk.i64_in _ ⟨by omega, by omega⟩
  have H1 := put h1
  have H2 := put h2
  clear h1 h2
  show CallsIn F n Tryz.prog 67 #[.func (.yield l) #[] #[], .pointer (some ⟨B, 0, none⟩)] W _
  refine callsIn_of_wp Tryz.func67 rfl h67 ?_ hro
  simp only [Tryz.ntmps67, List.size_toArray, List.length_cons, List.length_nil, Nat.reduceAdd, Nat.reduceSub, Array.replicate_succ, Array.replicate_zero, List.push_toArray, List.append_toArray, List.nil_append, List.cons_append]
  gi_wp2
  gi_loopw [3] (fun i wr => ∃ k : Nat, k ≤ m ∧ i = .int .i64 ((m : Int) - 1 - (k : Int)) ∧ Hid (∀ j, j < k → st j = false) ∧ J k wr) (fun i _ => (intOf i + 1).toNat)
  case atStart => exact ⟨0, Nat.zero_le _, by simp, put (fun j hj => by omega), h0⟩
  case round =>
    obtain ⟨k, hk, rfl, hall, hJk⟩ := hrel
    clear y0
    by_cases hlt : k < m
    · obtain ⟨kk, hkk⟩ : ∃ kk : Nat, (m : Int) - 1 - (k : Int) = (kk : Int) := ⟨m - 1 - k, by omega⟩
      obtain ⟨z0, hz⟩ := (hQ k wr hJk).2
      obtain ⟨bC, oC, f, A1, n1, c1, A2, n2, c2, A3, n3, c3, rfl, hbC, g0, g1, g2, g3, g4, g5, g6, g7, g8, g9, g10, r0, hx⟩ := hz.at_ (show kk < m by omega)
      have hyy := hY k ((kk : Int), .agg #[.int .i64 f.ide, .int .i64 f.fn, .int .i64 f.pla, .slice A1 n1 c1, .slice A2 n2 c2, .slice A3 n3 c3, .int .i64 f.result, .int .i64 f.mode, .int .i64 f.value, .int .i64 f.base, .bool f.off]) wr hJk ⟨hlt, hkk.symm⟩
      obtain ⟨ide, fn', pla, pile, vars, flags, result, mode, value', base, off⟩ := f
      dsimp only at g0 g1 g2 g3 g4 g5 g6 g7 g8 g9 g10 hyy
      have HKK := put hkk
      have hkI : (kk : Int) < (m : Int) := by omega
      have hk0 : (0 : Int) ≤ (kk : Int) := by omega
      have hwk : IntKind.i64.wrap ((kk : Int) - 1) = (kk : Int) - 1 := IntWalk.i64_in _ ⟨by omega, by omega⟩
      rw [hkk]
      clear hz hkk hY hQ hJk r0 hx
      cases hst : st k
      · rw [hst, if_neg (by decide)] at hyy
        have hall2 := put (fun j (hj : j < k + 1) => show st j = false from by rcases Nat.lt_or_ge j k with h | h; exact hall.out j h; rw [show j = k by omega]; exact hst)
        clear hst hall
        obtain ⟨fn, tmps, assign, body, hy, hR⟩ := hyy
        gi_wp2_with ((try refine ⟨hdd _, ?_⟩); refine hR.mono ?_; clear hR; rintro e W2 (⟨_, ⟨⟩, rfl, hJ2, _⟩ | ⟨⟨⟩, _⟩))
        go_roundw
        case rel => exact ⟨k + 1, by omega, by have := HKK.out; congr 1; omega, hall2, hJ2⟩
        case measure => simp [intOf]
      · rw [hst, if_pos rfl] at hyy
        have HN := put (H1.out k hlt hst)
        clear hst hall
        obtain ⟨fn, tmps, assign, body, hy, hR⟩ := hyy
        gi_wp2_with ((try refine ⟨hdd _, ?_⟩); refine hR.mono ?_; clear hR; rintro e W2 (⟨_, ⟨⟩, _⟩ | ⟨_, rfl, hx2⟩))
        (try simp only [Exit.inBlock, Exit.then])
        refine bodyPost_ret (results_none rfl _ _ _) rfl ?_
        exact ⟨⟨_, rfl⟩, .inr ⟨HN.out, hx2⟩⟩
    · obtain rfl : k = m := by omega
      have hneg : (k : Int) - 1 - (k : Int) = -1 := by omega
      rw [hneg]
      gi_wp2
      go_end0
      exact ⟨⟨_, rfl⟩, .inl ⟨k, H2.out hall.out, hJk⟩⟩

set_option maxRecDepth 100000 in
theorem backwardFr_any (A : Option Addr) (n c : Nat) (w : World) : Calls Tryz.prog 41 #[.slice A n c] w fun e w' => e = .returned (.func (.func 67) #[] #[.pointer (some ⟨w.heap.size, 0, none⟩)]) ∧ w' = w.alloc (.cells #[.slice A n c] 38) := by
  go_enter Tryz.func41, Tryz.ntmps41
  go_wp2
  go_ret
  exact ⟨rfl, rfl⟩

set_option maxHeartbeats 8000000 in
set_option maxRecDepth 100000 in
theorem implSearchUp_any (A : Option Addr) (n c : Nat) (cs : List Cd) (C : Option Addr) (m d : Nat) (fs : List Fr) (T2 : Option Addr) (m2 d2 : Nat) (trace : List Int) (T3 : Option Addr) (m3 d3 : Nat) (notes : List Row3) (used code value made : Int) (w : World) (hr : ReadsC w w.heap.size A n cs) (hf : ReadsFr w w.heap.size C m fs) (ht : Reads w w.heap.size .i64 T2 m2 trace) (hsm : SmallI cs) (hs : ∀ f ∈ fs, SmallFr f) (hm : m ≤ 1048576) (hm2 : m2 ≤ 1048576) (hd : m ≤ d) (hkd : Kinds w) (hpos : 0 < w.heap.size) :
    Calls Tryz.prog 15 #[.agg #[.slice A n c], .agg #[.slice C m d, .slice T2 m2 d2, .int .i64 used, .int .i64 code, .int .i64 value, .int .i64 made, .slice T3 m3 d3]] w fun e w' => e = .returned (.tuple #[.int .i64 (suAns cs (⟨fs, trace, used, code, value, made, notes⟩ : Mc)).1, .bool (suAns cs (⟨fs, trace, used, code, value, made, notes⟩ : Mc)).2]) ∧ Below w.heap.size w w' := by
  have G0 := put (suAns_no (cs := cs) (m := (⟨fs, trace, used, code, value, made, notes⟩ : Mc)))
  have G1 := put (fun (hg : gvB cs (⟨fs, trace, used, code, value, made, notes⟩ : Mc) = true) (k : Nat) (h : suK cs fs fs.length = some k) => suAns_hit (m := (⟨fs, trace, used, code, value, made, notes⟩ : Mc)) hg h)
  have G2 := put (fun (hg : gvB cs (⟨fs, trace, used, code, value, made, notes⟩ : Mc) = true) (h : suK cs fs fs.length = none) => suAns_none (m := (⟨fs, trace, used, code, value, made, notes⟩ : Mc)) hg h)
  generalize suAns cs (⟨fs, trace, used, code, value, made, notes⟩ : Mc) = ans at G0 G1 G2 ⊢
  have GV := put (fun W (hW : Below w.heap.size w W) => goodVm_any A n c cs C m d fs T2 m2 d2 trace T3 m3 d3 notes used code value made W (hr.now hW) (hf.now hW) (ht.now hW) hs hm hm2 (hkd.below hW hpos) (by have := hW.size; omega))
  have LM := put (fun (hg : gvB cs (⟨fs, trace, used, code, value, made, notes⟩ : Mc) = true) (k : Nat) (hk : k < m) (b o : Nat) (hC : C = some ⟨b, o, none⟩) W (hW : Below w.heap.size w W) => show Calls Tryz.prog 36 #[.agg #[.slice A n c], .slice (some ⟨b, o + k * 11, none⟩) (m - k) (d - k)] W (fun e w' => e = .returned (.bool (mayK cs fs k)) ∧ Below W.heap.size W w') by
    have h1 := mayStop_any A n c cs (some ⟨b, o + k * 11, none⟩) (m - k) (d - k) (fs.drop k) W (hr.now hW) (ReadsFr.drop (by subst hC; exact hf.now hW) hk) (fun f hf' => hs f (List.mem_of_mem_drop hf')) (by omega) (fun f hf' => gdF_of hg f (List.mem_of_mem_drop hf')) (by omega) (fun c hc => (hsm.2 c hc).2.1)
    rwa [mayK_drop] at h1)
  have HFF := put hf
  have HFL := put hf.1
  have HM := put hm
  clear hs hkd hr hf ht hsm
  have hb0 : Below w.heap.size w ((((w.alloc (.cells #[.slice A n c] 36)).alloc (.cells #[.slice C m d, .slice T2 m2 d2, .int .i64 used, .int .i64 code, .int .i64 value, .int .i64 made, .slice T3 m3 d3] 41)).alloc (.cells #[.int .i64 0] 3)).alloc (.cells #[.bool false] 4)) := ((((Below.refl _ _).alloc (Nat.le_refl _) _).alloc (by simp) _).alloc (by simp; omega) _).alloc (by simp; omega) _
  have kx := (((Keep.new w #[.slice A n c] 36).alloc (.cells #[.slice C m d, .slice T2 m2 d2, .int .i64 used, .int .i64 code, .int .i64 value, .int .i64 made, .slice T3 m3 d3] 41)).alloc (.cells #[.int .i64 0] 3)).alloc (.cells #[.bool false] 4)
  have kv := ((Keep.new (w.alloc (.cells #[.slice A n c] 36)) #[.slice C m d, .slice T2 m2 d2, .int .i64 used, .int .i64 code, .int .i64 value, .int .i64 made, .slice T3 m3 d3] 41).alloc (.cells #[.int .i64 0] 3)).alloc (.cells #[.bool false] 4)
  have k4 := (Keep.new ((w.alloc (.cells #[.slice A n c] 36)).alloc (.cells #[.slice C m d, .slice T2 m2 d2, .int .i64 used, .int .i64 code, .int .i64 value, .int .i64 made, .slice T3 m3 d3] 41)) #[.int .i64 0] 3).alloc (.cells #[.bool false] 4)
  have k5 := Keep.new (((w.alloc (.cells #[.slice A n c] 36)).alloc (.cells #[.slice C m d, .slice T2 m2 d2, .int .i64 used, .int .i64 code, .int .i64 value, .int .i64 made, .slice T3 m3 d3] 41)).alloc (.cells #[.int .i64 0] 3)) #[.bool false] 4
  simp only [World.size_alloc] at kv k4 k5
  have v0 := kv.cell 0
  have v1 := kv.cell 1
  have v2 := kv.cell 2
  have v3 := kv.cell 3
  have v4 := kv.cell 4
  have v5 := kv.cell 5
  have v6 := kv.cell 6
  have u0 := kx.cell 0
  simp only [List.getElem?_toArray, List.getElem?_cons_zero, List.getElem?_cons_succ] at v0 v1 v2 v3 v4 v5 v6 u0
  cases hg : gvB cs (⟨fs, trace, used, code, value, made, notes⟩ : Mc)
  · have HN := put (G0.out hg)
    have GV' := GV
    rw [hg] at GV'
    clear GV G1 G2 LM HFF
    go_enter Tryz.func15, Tryz.ntmps15
    go_wp2_with fail
    generalize ((((w.alloc (.cells #[.slice A n c] 36)).alloc (.cells #[.slice C m d, .slice T2 m2 d2, .int .i64 used, .int .i64 code, .int .i64 value, .int .i64 made, .slice T3 m3 d3] 41)).alloc (.cells #[.int .i64 0] 3)).alloc (.cells #[.bool false] 4)) = W at hb0 kx kv k4 k5 v0 v1 v2 v3 v4 v5 v6 u0 GV' ⊢
    refine (GV'.out _ hb0).mono ?_
    rintro e w1 ⟨rfl, hb1⟩
    have hbd := hb0.trans (hb1.mono hb0.size)
    have k4' := k4.below hb1
    have k5' := k5.below hb1
    clear kx kv k4 k5 v0 v1 v2 v3 v4 v5 v6 u0 hb1 hb0
    have f4 := k4'.frozen 0
    have f5 := k5'.frozen 0
    have q4 := ((k4'.set 0 (.int .i64 0)).other (g' := w.heap.size + 1 + 1 + 1) (by omega) 0 (.bool false)).cell 0
    have q5 := ((k5'.other (g' := w.heap.size + 1 + 1) (by omega) 0 (.int .i64 0)).set 0 (.bool false)).cell 0
    have y4 := k4'.cell 0
    have y5 := k5'.cell 0
    simp at q4 q5 y4 y5
    have hbz : Below w.heap.size w ((w1.setCell ⟨w.heap.size + 1 + 1, 0, none⟩ (.int .i64 0)).setCell ⟨w.heap.size + 1 + 1 + 1, 0, none⟩ (.bool false)) := (hbd.setCell (by simp; omega) _).setCell (by simp; omega) _
    go_wp2
    (try simp only [Exit.inBlock, Exit.then])
    refine bodyPost_ret (v := .tuple #[.int .i64 0, .bool false]) (by simp [results, Tryz.results15, go_sem, q4, q5]) rfl ?_
    exact ⟨by first | (rw [HN.out]; done) | (rw [HN.out]; rfl), hbz⟩
  refine (callsIn_wide (n := 5)).1 ?_
  refine callsIn_of_wp_marks Tryz.func15 rfl trivial ?_ rfl
  simp only [Tryz.ntmps15, List.size_toArray, List.length_cons, List.length_nil, Nat.reduceAdd, Nat.reduceSub, Array.replicate_succ, Array.replicate_zero, List.push_toArray, List.append_toArray, List.nil_append, List.cons_append]
  refine wpIn_wide.2 ?_
  rw [hg] at GV
  go_wp2_with fail
  generalize ((((w.alloc (.cells #[.slice A n c] 36)).alloc (.cells #[.slice C m d, .slice T2 m2 d2, .int .i64 used, .int .i64 code, .int .i64 value, .int .i64 made, .slice T3 m3 d3] 41)).alloc (.cells #[.int .i64 0] 3)).alloc (.cells #[.bool false] 4)) = W at hb0 kx kv k4 k5 v0 v1 v2 v3 v4 v5 v6 u0 GV ⊢
  refine (GV.out _ hb0).mono ?_
  rintro e w1 ⟨rfl, hb1⟩
  have hbd := hb0.trans (hb1.mono hb0.size)
  have kx1 := kx.below hb1
  have kv1 := kv.below hb1
  have k41 := k4.below hb1
  have k51 := k5.below hb1
  clear kx kv k4 k5 v0 v1 v2 v3 v4 v5 v6 u0 hb1 hb0 GV G0
  have y0 := kv1.cell 0
  simp at y0
  go_wp2_with fail
  clear y0
  refine (backwardFr_any C m d w1).mono ?_
  rintro e w9 ⟨rfl, rfl⟩
  have kB := Keep.new w1 #[.slice C m d] 38
  have hsz1 : w.heap.size + 1 + 1 + 1 + 1 ≤ w1.heap.size := by have := k51.lt; omega
  obtain ⟨B, hB⟩ : ∃ B, w1.heap.size = B := ⟨_, rfl⟩
  have kx9 := kx1.alloc (.cells #[.slice C m d] 38)
  have kv9 := kv1.alloc (.cells #[.slice C m d] 38)
  have k49 := k41.alloc (.cells #[.slice C m d] 38)
  have k59 := k51.alloc (.cells #[.slice C m d] 38)
  have hb9 := hbd.alloc hbd.size (.cells #[.slice C m d] 38)
  rw [hB] at kB hsz1 ⊢
  have hs9 : (w1.alloc (.cells #[.slice C m d] 38)).heap.size = B + 1 := by simp [hB]
  clear kx1 kv1 k41 k51 hbd hB
  generalize w1.alloc (.cells #[.slice C m d] 38) = W9 at kB kx9 kv9 k49 k59 hb9 hs9 ⊢
  go_wp2_with fail
  refine (wpIn_wide (n := 5)).1 ?_
  refine' range_steps (F := Fence.wide) (n := 5) (encs := fun x : Int × Value => #[.int .i64 x.1, x.2]) (Adm := fun (k : Nat) (x : Int × Value) => k < m ∧ x.1 = (m : Int) - 1 - (k : Int)) (next := fun k _ => if mayK cs fs (m - 1 - k) = true then none else some (k + 1)) (s0 := 0) (res := suRes cs fs m) (Qw := fun W => W.cell? ⟨B, 0, none⟩ = some (.slice C m d) ∧ ReadsFr W w.heap.size C m fs) (Kp := fun _ _ => True) rfl (by omega) (gf := 67) (lb := #[.pointer (some ⟨B, 0, none⟩)]) rfl trivial (enters_of Tryz.func67 (by kernel_rfl) rfl) (fun _ _ => trivial) (fun _ _ _ _ _ => trivial) (backFr_steps Fence.wide rfl _ trivial rfl B w.heap.size C m d fs (fun k => mayK cs fs (m - 1 - k)) (suRes cs fs m) hm (fun k hk h => by have := suK_some (m := m) (show m - 1 - k < m by omega) h; unfold suRes; cases hq : suK cs fs m with | some _ => rfl | none => exact absurd hq this) (fun h => by unfold suRes; rw [suK_none (m := m) fun j hj => by have := h (m - 1 - j) (by omega); rwa [show m - 1 - (m - 1 - j) = j by omega] at this]) W9) (fun _ => rfl)
    (fun k W => Keep W w.heap.size #[.slice A n c] 36 ∧ Keep W (w.heap.size + 1) #[.slice C m d, .slice T2 m2 d2, .int .i64 used, .int .i64 code, .int .i64 value, .int .i64 made, .slice T3 m3 d3] 41 ∧ Keep W (w.heap.size + 1 + 1) #[.int .i64 0] 3 ∧ Keep W (w.heap.size + 1 + 1 + 1) #[.bool false] 4 ∧ Keep W B #[.slice C m d] 38 ∧ k ≤ m ∧ Hid (suK cs fs m = suK cs fs (m - k)) ∧ Below w.heap.size w W ∧ B + 1 ≤ W.heap.size)
    (fun W => ∃ k, Hid (suK cs fs m = some k) ∧ Keep W (w.heap.size + 1 + 1) #[.int .i64 (k : Int)] 3 ∧ Keep W (w.heap.size + 1 + 1 + 1) #[.bool true] 4 ∧ Below w.heap.size w W ∧ B + 1 ≤ W.heap.size) ?hI ?hIx ⟨kx9, kv9, k49, k59, kB, Nat.zero_le _, put rfl, hb9, by omega⟩ ?hQ _ ?assign ?body ?done ?stop
  case hI =>
    rintro k W W' row ⟨h1, h2, h3, h4, h5, hk, hS, hb, hz⟩ hg' hr'
    have sm := Same.own hg' fun r e => (hr' r e).2
    exact ⟨sm.keep h1 (by decide), sm.keep h2 (by decide), sm.keep h3 (by decide), sm.keep h4 (by decide), sm.keep h5 (by decide), hk, hS, hb.grown hg' hb.size fun j e => by have := (hr' j e).1; omega, Nat.le_trans hz hg'.size⟩
  case hIx =>
    rintro _ W W' row ⟨k, hS, h3, h4, hb, hz⟩ hg' hr'
    have sm := Same.own hg' fun r e => (hr' r e).2
    exact ⟨k, hS, sm.keep h3 (by decide), sm.keep h4 (by decide), hb.grown hg' hb.size fun j e => by have := (hr' j e).1; omega, Nat.le_trans hz hg'.size⟩
  case hQ =>
    rintro k W ⟨h1, h2, h3, h4, h5, hk, hS, hb, hz⟩
    exact ⟨by have := h5.cell 0; simpa using this, HFF.out.below hb⟩
  case assign =>
    intro l x W K hK
    gi_wp2
    exact hK
  case body =>
    rintro l k ⟨x, y⟩ W ⟨h1, h2, h3, h4, h5, hk, hS, hb, hz⟩ ⟨hkn, hx⟩
    replace hx : x = (m : Int) - 1 - (k : Int) := hx
    obtain ⟨kk, hkk⟩ : ∃ kk : Nat, m - 1 - k = kk := ⟨_, rfl⟩
    have hxn : x = (kk : Int) := by omega
    have e1 : m - k = kk + 1 := by omega
    have e2 : m - (k + 1) = kk := by omega
    rw [e1] at hS
    dsimp only
    rw [hkk]
    subst hxn
    obtain ⟨bC, oC, _, _, _, _, _, _, _, _, _, _, hC, _⟩ := HFF.out.at_ (show kk < m by omega)
    subst hC
    have MS := put (LM.out hg kk (by omega) bC oC rfl W.drew hb.drew)
    obtain ⟨r, hrr⟩ : ∃ r, mayK cs fs kk = r := ⟨_, rfl⟩
    rw [hrr] at MS ⊢
    have x0 := h1.cell 0
    have y0 := h2.cell 0
    simp at x0 y0
    have hkI : (kk : Int) ≤ (m : Int) := by omega
    have hk0 : (0 : Int) ≤ (kk : Int) := by omega
    have hne : ¬ d = kk := by omega
    have HX := put hx
    have HKK := put hkk
    clear hx hkk
    cases r
    · have hS2 := put (hS.out.trans (suK_next hrr))
      clear hS hrr
      gi_wp2
      gi_region_with (go_simp; refine ⟨trivial, (CallsIn.inRound l (callsIn_wide.2 MS.out)).mono ?_⟩; rintro e W5 ⟨rfl, hb5⟩)
      all_goals (
        have hbW : Below W.heap.size W W5 := (Below.refl W.heap.size W).drew.trans hb5
        gi_wp2
        exact ⟨k + 1, rfl, KeepsOthers.of_below hbW, trivial, h1.below hbW, h2.below hbW, h3.below hbW, h4.below hbW, h5.below hbW, by omega, put (by rw [e2]; exact hS2.out), hb.trans (hbW.mono hb.size), Nat.le_trans hz hbW.size⟩)
    · have hS2 := put (hS.out.trans (suK_hit hrr))
      clear hS hrr
      gi_wp2
      gi_region_with (go_simp; refine ⟨trivial, (CallsIn.inRound l (callsIn_wide.2 MS.out)).mono ?_⟩; rintro e W5 ⟨rfl, hb5⟩)
      all_goals (
        have hbW : Below W.heap.size W W5 := (Below.refl W.heap.size W).drew.trans hb5
        have k4 := h3.below hbW
        have k5 := h4.below hbW
        have f4 := k4.frozen 0
        have f5 := k5.frozen 0
        have y4 := k4.cell 0
        have y5 := k5.cell 0
        simp at y4 y5
        have ko : KeepsOthers W ((W5.setCell ⟨w.heap.size + 1 + 1, 0, none⟩ (.int .i64 (kk : Int))).setCell ⟨w.heap.size + 1 + 1 + 1, 0, none⟩ (.bool true)) := ((KeepsOthers.of_below hbW).trans (KeepsOthers.setCell _ _ _)).trans (KeepsOthers.setCell _ _ _)
        have q4 : Keep ((W5.setCell ⟨w.heap.size + 1 + 1, 0, none⟩ (.int .i64 (kk : Int))).setCell ⟨w.heap.size + 1 + 1 + 1, 0, none⟩ (.bool true)) (w.heap.size + 1 + 1) #[.int .i64 (kk : Int)] 3 := (k4.set 0 (.int .i64 (kk : Int))).other (by omega) 0 (.bool true)
        have q5 : Keep ((W5.setCell ⟨w.heap.size + 1 + 1, 0, none⟩ (.int .i64 (kk : Int))).setCell ⟨w.heap.size + 1 + 1 + 1, 0, none⟩ (.bool true)) (w.heap.size + 1 + 1 + 1) #[.bool true] 4 := (k5.other (g' := w.heap.size + 1 + 1) (by omega) 0 (.int .i64 (kk : Int))).set 0 (.bool true)
        have bz : Below w.heap.size w ((W5.setCell ⟨w.heap.size + 1 + 1, 0, none⟩ (.int .i64 (kk : Int))).setCell ⟨w.heap.size + 1 + 1 + 1, 0, none⟩ (.bool true)) := ((hb.trans (hbW.mono hb.size)).setCell (by simp; omega) _).setCell (by simp; omega) _
        have sz := Nat.le_trans hz ko.size
        gi_wp2
        exact ⟨rfl, ko, kk, hS2, q4, q5, bz, sz⟩)
  case done =>
    rintro D k W hD hres ⟨h1, h2, h3, h4, h5, hk, hS, hb, hz⟩ hK
    have hD' : B + 1 ≤ D := by omega
    have hno : suK cs fs m = none := by
      unfold suRes at hres
      cases hq : suK cs fs m with
      | none => rfl
      | some _ => rw [hq] at hres; cases hres
    have HN := put (G2.out hg (by rw [HFL.out]; exact hno))
    clear hres hno
    have f4 := h3.frozen 0
    have f5 := h4.frozen 0
    have y4 := h3.cell 0
    have y5 := h4.cell 0
    simp at y4 y5
    have q4 : Keep (((W.setCell ⟨w.heap.size + 1 + 1, 0, none⟩ (.int .i64 0)).setCell ⟨w.heap.size + 1 + 1 + 1, 0, none⟩ (.bool false)).putObj D (.deferred none)) (w.heap.size + 1 + 1) #[.int .i64 0] 3 := (World.putObj_heap_other (by omega)).trans ((h3.set 0 (.int .i64 0)).other (by omega) 0 (.bool false))
    have q5 : Keep (((W.setCell ⟨w.heap.size + 1 + 1, 0, none⟩ (.int .i64 0)).setCell ⟨w.heap.size + 1 + 1 + 1, 0, none⟩ (.bool false)).putObj D (.deferred none)) (w.heap.size + 1 + 1 + 1) #[.bool false] 4 := (World.putObj_heap_other (by omega)).trans ((h4.other (g' := w.heap.size + 1 + 1) (by omega) 0 (.int .i64 0)).set 0 (.bool false))
    have hK' : ((W.setCell ⟨w.heap.size + 1 + 1, 0, none⟩ (.int .i64 0)).setCell ⟨w.heap.size + 1 + 1 + 1, 0, none⟩ (.bool false)).heap[D]? = some (.deferred (some [])) := (Below.heap_setCell _ _ _ _ (show D ≠ w.heap.size + 1 + 1 + 1 by omega)).trans ((Below.heap_setCell _ _ _ _ (show D ≠ w.heap.size + 1 + 1 by omega)).trans hK)
    have bz : Below w.heap.size w (((W.setCell ⟨w.heap.size + 1 + 1, 0, none⟩ (.int .i64 0)).setCell ⟨w.heap.size + 1 + 1 + 1, 0, none⟩ (.bool false)).putObj D (.deferred none)) := ((hb.setCell (by simp; omega) _).setCell (by simp; omega) _).grown (grownBy_putObj' _ D _) (by simp; exact hb.size) (fun j e => by cases e; omega)
    have r4 := q4.cell 0
    have r5 := q5.cell 0
    simp at r4 r5
    clear h1 h2 h3 h4 h5 q4 q5
    go_wp2
    refine ⟨by simp, .inl ⟨_, _, rfl, run_takeDeferred hK', ?_⟩⟩
    exact ⟨.tuple #[.int .i64 0, .bool false], by simp [results, Tryz.results15, go_sem, r4, r5], by first | (rw [HN.out]; done) | (rw [HN.out]; rfl), bz⟩
  case stop =>
    rintro D W hD hres ⟨k, hS, h3, h4, hb, hz⟩ hK
    have hD' : B + 1 ≤ D := by omega
    have HN := put (G1.out hg k (by rw [HFL.out]; exact hS.out))
    clear hres
    have q4 : Keep (W.putObj D (.deferred none)) (w.heap.size + 1 + 1) #[.int .i64 (k : Int)] 3 := (World.putObj_heap_other (by omega)).trans h3
    have q5 : Keep (W.putObj D (.deferred none)) (w.heap.size + 1 + 1 + 1) #[.bool true] 4 := (World.putObj_heap_other (by omega)).trans h4
    have bz : Below w.heap.size w (W.putObj D (.deferred none)) := hb.grown (grownBy_putObj' _ D _) hb.size (fun j e => by cases e; omega)
    have r4 := q4.cell 0
    have r5 := q5.cell 0
    simp at r4 r5
    gi_wp2
    refine ⟨by simp, .inl ⟨_, _, rfl, run_takeDeferred hK, ?_⟩⟩
    exact ⟨.tuple #[.int .i64 (k : Int), .bool true], by simp [results, Tryz.results15, go_sem, r4, r5], by first | (rw [HN.out]; done) | (rw [HN.out]; rfl), bz⟩

end Go.Proofs.YtpbkkjiikhjanaaGreatDoor

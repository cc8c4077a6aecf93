/-
  Functions of a good program are lowered; the reference's LowerFunc.
-/
import Derived.Test.YtpmpjiigmjnniaaGreatJLowF
import Derived.Test.YtpmpjiigmjnniaaGreatJAlone
import Derived.Test.YtpmpjiigmjnniaaGreatJSitI
namespace Go.Proofs.YtpmpjiigmjnniaaGreat
open Go.RowKit Exs

theorem ge_short {ts : List Token} {vars : Int} {ps : List Int} (h : ge ts vars ps = true) : ts.length ≤ 12 := by
  refine Classical.byContradiction fun hc => ?_
  unfold ge at h
  rw [highAns_long hc] at h
  cases h
theorem prog_fn {fs : List Fc} (h : progB fs = true) {f : Fc} (hf : f ∈ fs) (hs : SmallF f) : FnOk f ∧ f.stmts.length ≤ 16 ∧ (sitesL f).length ≤ 4 := by
  have h1 := alone_order (prog_alone h hf)
  have h16 := prog_stmts h hf
  have h0 := h
  simp only [progB, Bool.and_eq_true, decide_eq_true_eq, List.all_eq_true] at h0
  have hb := h0.2 f hf
  simp only [funcB, Bool.and_eq_true] at hb
  have hsh := hb.1
  simp only [shapeB, Bool.and_eq_true, decide_eq_true_eq, List.all_eq_true] at hsh
  refine ⟨⟨⟨h1.1, hs, fun j s hj => ?_, rfl, by omega⟩, fun n hn => by have := h1.2.1 n hn; omega, by rw [h1.2.2, run_length]; omega⟩, h16, by have := sites_many f.stmts 0; unfold sitesL; omega⟩
  have hfs := (fieldsB_iff s f.vars).1 (hsh.1.1.2 s (List.mem_of_getElem? hj))
  have hex := (List.all_eq_true.1 hb.2.1) s (List.mem_of_getElem? hj)
  rcases (exB_iff f.vars _ s).1 hex with he | he
  · have := hfs.2.2.2.2.1 he; omega
  · exact ge_short he
theorem lowC_len {f : Fc} (h : FnOk f) (h16 : f.stmts.length ≤ 16) (h4 : (sitesL f).length ≤ 4) (ho : (ord f f.stmts.length f.body).length = f.stmts.length) : (lowC f).ins.length ≤ 300 := by
  have h1 := lowB_len h.low.ex f.stmts.length f.body 0 h.body h.low.nest
  unfold lowC lowIs
  simp only [List.length_append, offsTo_length, List.length_cons, List.length_nil]
  omega
theorem prog_len {fs : List Fc} (h : progB fs = true) {f : Fc} (hf : f ∈ fs) (hs : SmallF f) : (lowC f).ins.length ≤ 300 := by
  obtain ⟨h1, h2, h3⟩ := prog_fn h hf hs
  exact lowC_len h1 h2 h3 (by rw [(alone_order (prog_alone h hf)).2.2, run_length])

/-- What LowerFunc answers: a code, where there is one. -/
def lfAns (fs : List Fc) (k : Int) : Option Cd := if hasF fs k then (fs[k.toNat]?).map lowC else none
theorem lfAns_no {fs : List Fc} {k : Int} (h : hasF fs k = false) : lfAns fs k = none := by simp [lfAns, h]
theorem lfAns_at {fs : List Fc} {q : Nat} {f : Fc} (h : hasF fs (q : Int) = true) (hf : fs[q]? = some f) : lfAns fs (q : Int) = some (lowC f) := by
  unfold lfAns
  rw [if_pos h, Int.toNat_natCast, hf]
  rfl
def noCd : Cd := ⟨0, 0, [], [], []⟩
theorem own_none (w : World) (B : Nat) : OwnCd w B noCd (.slice none 0 0) (.slice none 0 0) (.slice none 0 0) := ⟨Nums.nil _ _ _ _, Inss.nil _ _, Rws.nil _ _⟩

set_option maxHeartbeats 2000000 in
set_option maxRecDepth 100000 in
theorem specLowerFunc_any (A : Option Addr) (n c : Nat) (fs : List Fc) (k : Int) (w : World) (hr : ReadsF w w.heap.size A n fs) (hs : SmallP fs) :
    Calls Tryz.prog 6 #[.agg #[.slice A n c], .int .i64 k] w fun e w' => ∃ vs vi vr, e = .returned (.tuple #[.agg #[.int .i64 ((lfAns fs k).getD noCd).params, .int .i64 ((lfAns fs k).getD noCd).vars, vs, vi, vr], .bool (lfAns fs k).isSome]) ∧ OwnCd w' w.heap.size ((lfAns fs k).getD noCd) vs vi vr ∧ Below w.heap.size w w' := by
  have hl2 : n ≤ 1048576 := by rw [← hr.1]; exact hs.1
  have HL := put hr.1
  have hw1 : IntKind.i64.wrap ((n : Int) - 1) = (n : Int) - 1 := IntWalk.i64_in _ ⟨by omega, by omega⟩
  have hb0 : Below w.heap.size w ((w.alloc (.cells #[.slice A n c] 35)).alloc (.cells #[.int .i64 0, .int .i64 0, .slice none 0 0, .slice none 0 0, .slice none 0 0] 30)) := ((Below.refl _ _).alloc (Nat.le_refl _) _).alloc (by simp) _
  have hk0 : Keep ((w.alloc (.cells #[.slice A n c] 35)).alloc (.cells #[.int .i64 0, .int .i64 0, .slice none 0 0, .slice none 0 0, .slice none 0 0] 30)) w.heap.size #[.slice A n c] 35 := (Keep.new w #[.slice A n c] 35).alloc _
  have hz0 : Keep ((w.alloc (.cells #[.slice A n c] 35)).alloc (.cells #[.int .i64 0, .int .i64 0, .slice none 0 0, .slice none 0 0, .slice none 0 0] 30)) (w.heap.size + 1) #[.int .i64 0, .int .i64 0, .slice none 0 0, .slice none 0 0, .slice none 0 0] 30 := by
    have := Keep.new (w.alloc (.cells #[.slice A n c] 35)) #[.int .i64 0, .int .i64 0, .slice none 0 0, .slice none 0 0, .slice none 0 0] 30
    rwa [World.size_alloc] at this
  go_enter Tryz.func6, Tryz.ntmps6
  go_wp2_with fail
  generalize hW : (w.alloc (.cells #[.slice A n c] 35)).alloc (.cells #[.int .i64 0, .int .i64 0, .slice none 0 0, .slice none 0 0, .slice none 0 0] 30) = W0 at hb0 hk0 hz0 ⊢
  clear hW
  refine (specGoodProg_any A n c fs _ (hr.now hb0) hs).mono ?_
  rintro e w1 ⟨rfl, hb1⟩
  rw [progS_eq]
  have b1 : Below w.heap.size w w1 := hb0.trans (hb1.mono hb0.size)
  have k1 := hk0.below hb1
  have z1 := hz0.below hb1
  have y := k1.cell 0
  simp at y
  clear hb0 hk0 hz0 hb1
  cases hg : progB fs with
  | false =>
    have hf := put (lfAns_no (fs := fs) (k := k) (by simp [hasF, hg]))
    clear hg
    have kF := ((((z1.set 0 (.int .i64 0)).set 1 (.int .i64 0)).set 2 (.slice none 0 0)).set 3 (.slice none 0 0)).set 4 (.slice none 0 0)
    simp at kF
    have bF := ((((b1.setCell (p := ⟨w.heap.size + 1, 0, none⟩) (by simp) (.int .i64 0)).setCell (p := ⟨w.heap.size + 1, 1, none⟩) (by simp) (.int .i64 0)).setCell (p := ⟨w.heap.size + 1, 2, none⟩) (by simp) (.slice none 0 0)).setCell (p := ⟨w.heap.size + 1, 3, none⟩) (by simp) (.slice none 0 0)).setCell (p := ⟨w.heap.size + 1, 4, none⟩) (by simp) (.slice none 0 0)
    have u0 := z1.cell 0
    have u1 := z1.cell 1
    have u2 := z1.cell 2
    have u3 := z1.cell 3
    have u4 := z1.cell 4
    have e0 := z1.frozen 0
    have e1 := z1.frozen 1
    have e2 := z1.frozen 2
    have e3 := z1.frozen 3
    have e4 := z1.frozen 4
    simp only [List.getElem?_toArray, List.getElem?_cons_zero, List.getElem?_cons_succ] at u0 u1 u2 u3 u4
    go_wp2
    generalize hWF : ((((w1.setCell ⟨w.heap.size + 1, 0, none⟩ (.int .i64 0)).setCell ⟨w.heap.size + 1, 1, none⟩ (.int .i64 0)).setCell ⟨w.heap.size + 1, 2, none⟩ (.slice none 0 0)).setCell ⟨w.heap.size + 1, 3, none⟩ (.slice none 0 0)).setCell ⟨w.heap.size + 1, 4, none⟩ (.slice none 0 0) = WF at kF bF ⊢
    clear hWF u0 u1 u2 u3 u4
    have q0 := kF.cell 0
    have q1 := kF.cell 1
    have q2 := kF.cell 2
    have q3 := kF.cell 3
    have q4 := kF.cell 4
    simp only [List.getElem?_toArray, List.getElem?_cons_zero, List.getElem?_cons_succ] at q0 q1 q2 q3 q4
    exact bodyPost_ret (v := .tuple #[.agg #[.int .i64 0, .int .i64 0, .slice none 0 0, .slice none 0 0, .slice none 0 0], .bool false]) (by simp [results, Tryz.results6, go_sem, q0, q1, q2, q3, q4]) rfl ⟨.slice none 0 0, .slice none 0 0, .slice none 0 0, by rw [hf.out]; rfl, by rw [hf.out]; exact own_none WF _, bF⟩
  | true =>
    cases hin : within k 0 ((n : Int) - 1) with
    | false =>
      have hno : ¬ (0 ≤ k ∧ k < (n : Int)) := fun h => by have := (within_iff k 0 ((n : Int) - 1)).2 (by omega); rw [hin] at this; cases this
      have hf := put (lfAns_no (fs := fs) (k := k) (by unfold hasF; rw [HL.out]; simp [hno]))
      clear hg hno
      have kF := ((((z1.set 0 (.int .i64 0)).set 1 (.int .i64 0)).set 2 (.slice none 0 0)).set 3 (.slice none 0 0)).set 4 (.slice none 0 0)
      simp at kF
      have bF := ((((b1.setCell (p := ⟨w.heap.size + 1, 0, none⟩) (by simp) (.int .i64 0)).setCell (p := ⟨w.heap.size + 1, 1, none⟩) (by simp) (.int .i64 0)).setCell (p := ⟨w.heap.size + 1, 2, none⟩) (by simp) (.slice none 0 0)).setCell (p := ⟨w.heap.size + 1, 3, none⟩) (by simp) (.slice none 0 0)).setCell (p := ⟨w.heap.size + 1, 4, none⟩) (by simp) (.slice none 0 0)
      have u0 := z1.cell 0
      have u1 := z1.cell 1
      have u2 := z1.cell 2
      have u3 := z1.cell 3
      have u4 := z1.cell 4
      have e0 := z1.frozen 0
      have e1 := z1.frozen 1
      have e2 := z1.frozen 2
      have e3 := z1.frozen 3
      have e4 := z1.frozen 4
      simp only [List.getElem?_toArray, List.getElem?_cons_zero, List.getElem?_cons_succ] at u0 u1 u2 u3 u4
      go_wp2_with (refine (l1In_any _ _ _ _).mono ?_; rintro e w2 ⟨rfl, rfl⟩; rw [hin])
      generalize hWF : ((((w1.setCell ⟨w.heap.size + 1, 0, none⟩ (.int .i64 0)).setCell ⟨w.heap.size + 1, 1, none⟩ (.int .i64 0)).setCell ⟨w.heap.size + 1, 2, none⟩ (.slice none 0 0)).setCell ⟨w.heap.size + 1, 3, none⟩ (.slice none 0 0)).setCell ⟨w.heap.size + 1, 4, none⟩ (.slice none 0 0) = WF at kF bF ⊢
      clear hWF u0 u1 u2 u3 u4
      have q0 := kF.cell 0
      have q1 := kF.cell 1
      have q2 := kF.cell 2
      have q3 := kF.cell 3
      have q4 := kF.cell 4
      simp only [List.getElem?_toArray, List.getElem?_cons_zero, List.getElem?_cons_succ] at q0 q1 q2 q3 q4
      exact bodyPost_ret (v := .tuple #[.agg #[.int .i64 0, .int .i64 0, .slice none 0 0, .slice none 0 0, .slice none 0 0], .bool false]) (by simp [results, Tryz.results6, go_sem, q0, q1, q2, q3, q4]) rfl ⟨.slice none 0 0, .slice none 0 0, .slice none 0 0, by rw [hf.out]; rfl, by rw [hf.out]; exact own_none WF _, bF⟩
    | true =>
      have hin2 := (within_iff _ _ _).1 hin
      obtain ⟨q, rfl⟩ : ∃ q : Nat, k = q := ⟨k.toNat, by omega⟩
      have hqn : q < n := by omega
      obtain ⟨f, hfq⟩ : ∃ f, fs[q]? = some f := ⟨_, List.getElem?_eq_getElem (by have := HL.out; omega)⟩
      have HA := put (lfAns_at (show hasF fs (q : Int) = true by unfold hasF; rw [HL.out, hg]; simp [hqn]) hfq)
      have hmf := List.mem_of_getElem? hfq
      have hsf := hs.2 f hmf
      have HF := put (fun W (hW : Below w.heap.size w W) => l6Func_any A n c fs q f W (hr.now hW) hfq (prog_fn hg hmf hsf).1)
      have HLN := put (prog_len hg hmf hsf)
      clear hg hin2 hfq hmf hsf hr
      go_wp2_with fail
      refine (l1In_any _ _ _ _).mono ?_
      rintro e w' ⟨rfl, rfl⟩
      rw [hin]
      go_wp2_with fail
      refine (HF.out w1 b1).mono ?_
      rintro e w2 ⟨vs, vi, vr, rfl, hown, hb2⟩
      obtain ⟨A1, n1, c1, A2, n2, c2, A3, n3, c3, rfl, rfl, rfl, hcd⟩ := hown.is
      have b2 := b1.trans (hb2.mono b1.size)
      have z2 := z1.below hb2
      have hi300 : n2 ≤ 300 := by have := HLN.out; rw [hcd.ins.1] at this; exact this
      have kF := ((((z2.set 0 (.int .i64 (lowC f).params)).set 1 (.int .i64 (lowC f).vars)).set 2 (.slice A1 n1 c1)).set 3 (.slice A2 n2 c2)).set 4 (.slice A3 n3 c3)
      simp at kF
      have bF := ((((b2.setCell (p := ⟨w.heap.size + 1, 0, none⟩) (by simp) (.int .i64 (lowC f).params)).setCell (p := ⟨w.heap.size + 1, 1, none⟩) (by simp) (.int .i64 (lowC f).vars)).setCell (p := ⟨w.heap.size + 1, 2, none⟩) (by simp) (.slice A1 n1 c1)).setCell (p := ⟨w.heap.size + 1, 3, none⟩) (by simp) (.slice A2 n2 c2)).setCell (p := ⟨w.heap.size + 1, 4, none⟩) (by simp) (.slice A3 n3 c3)
      have u0 := z2.cell 0
      have u1 := z2.cell 1
      have u2 := z2.cell 2
      have u3 := z2.cell 3
      have u4 := z2.cell 4
      have e0 := z2.frozen 0
      have e1 := z2.frozen 1
      have e2 := z2.frozen 2
      have e3 := z2.frozen 3
      have e4 := z2.frozen 4
      have hz2 : w.heap.size + 1 < w2.heap.size := z2.lt
      simp only [List.getElem?_toArray, List.getElem?_cons_zero, List.getElem?_cons_succ] at u0 u1 u2 u3 u4
      go_wp2
      have hz3 : w.heap.size + 1 < w1.heap.size := z1.lt
      have nS := row_set5 (show w2.ownsRow w1.heap.size 3 1 (.slice A1 n1 c1) (lowC f).sites.length ((lowC f).sites.map (Value.int .i64)) from hown.sites) hz3 (.int .i64 (lowC f).params) (.int .i64 (lowC f).vars) (.slice A1 n1 c1) (.slice A2 n2 c2) (.slice A3 n3 c3)
      have nI := row_set5 hown.ins hz3 (.int .i64 (lowC f).params) (.int .i64 (lowC f).vars) (.slice A1 n1 c1) (.slice A2 n2 c2) (.slice A3 n3 c3)
      have nR := row_set5 hown.rows hz3 (.int .i64 (lowC f).params) (.int .i64 (lowC f).vars) (.slice A1 n1 c1) (.slice A2 n2 c2) (.slice A3 n3 c3)
      generalize hWF : ((((w2.setCell ⟨w.heap.size + 1, 0, none⟩ (.int .i64 (lowC f).params)).setCell ⟨w.heap.size + 1, 1, none⟩ (.int .i64 (lowC f).vars)).setCell ⟨w.heap.size + 1, 2, none⟩ (.slice A1 n1 c1)).setCell ⟨w.heap.size + 1, 3, none⟩ (.slice A2 n2 c2)).setCell ⟨w.heap.size + 1, 4, none⟩ (.slice A3 n3 c3) = WF at kF nS nI nR bF ⊢
      clear hWF u0 u1 u2 u3 u4
      have own := OwnCd.under (B := w1.heap.size) (C := lowC f) (W := WF) ⟨nS, nI, nR⟩ b1.size
      have nb := (Below.refl WF.heap.size WF).alloc (Nat.le_refl _) (.cells #[.int .i64 (lowC f).params, .int .i64 (lowC f).vars, .slice A1 n1 c1, .slice A2 n2 c2, .slice A3 n3 c3] 30)
      have kG := kF.below nb
      have ownG := own.below nb
      have bG := bF.trans (nb.mono bF.size)
      generalize WF.alloc (.cells #[.int .i64 (lowC f).params, .int .i64 (lowC f).vars, .slice A1 n1 c1, .slice A2 n2 c2, .slice A3 n3 c3] 30) = WG at kG ownG bG ⊢
      have q0 := kG.cell 0
      have q1 := kG.cell 1
      have q2 := kG.cell 2
      have q3 := kG.cell 3
      have q4 := kG.cell 4
      simp only [List.getElem?_toArray, List.getElem?_cons_zero, List.getElem?_cons_succ] at q0 q1 q2 q3 q4
      exact bodyPost_ret (v := .tuple #[.agg #[.int .i64 (lowC f).params, .int .i64 (lowC f).vars, .slice A1 n1 c1, .slice A2 n2 c2, .slice A3 n3 c3], .bool true]) (by simp [results, Tryz.results6, go_sem, q0, q1, q2, q3, q4]) rfl ⟨.slice A1 n1 c1, .slice A2 n2 c2, .slice A3 n3 c3, by rw [HA.out]; rfl, by rw [HA.out]; exact ownG, bG⟩

end Go.Proofs.YtpmpjiigmjnniaaGreat

/-
  Texts joined: LoM LowO LoP.
-/
import Derived.Test.YtpmpjiigmjnniaaJLoS
import Derived.Test.YtpmpjiigmjnniaaJLowG
import Derived.Test.YtpmpjiigmjnniaaJLoF
/-
  The program's lowStmts, whatever the fuel.
-/
namespace Go.Proofs.Ytpmpjiigmjnniaa
open Go.RowKit Exs

theorem lst_all (f : Fc) (A1 : Option Addr) (n1 c1 : Nat) (A2 : Option Addr) (n2 c2 : Nat) (hf0 : LowOk f n2) (As : Option Addr) (ns cs : Nat) (hns : ns ≤ 1048576) : ∀ g, LstC f A1 n1 c1 A2 n2 c2 As ns cs g
  | 0 => lst_base f A1 n1 c1 A2 n2 c2 As ns cs
  | g + 1 => lst_step f A1 n1 c1 A2 n2 c2 As ns cs g (put (stt_step f A1 n1 c1 A2 n2 c2 hf0 As ns cs g hns (lst_all f A1 n1 c1 A2 n2 c2 hf0 As ns cs hns g)))

end Go.Proofs.Ytpmpjiigmjnniaa

/-
  LongOf: both sides, the program's given what its LowerFunc answers.
-/
namespace Go.Proofs.Ytpmpjiigmjnniaa
open Go.RowKit Exs

/-- What LongOf answers. -/
def loAns (fs : List Fc) (k : Int) : Int × Bool := match lfAns fs k with | some C => ((C.ins.length : Int), true) | none => (0, false)
theorem loAns_eq (fs : List Fc) (k : Int) : loAns fs k = ((((lfAns fs k).getD noCd).ins.length : Int), (lfAns fs k).isSome) := by
  unfold loAns
  cases lfAns fs k <;> rfl

set_option maxHeartbeats 1000000 in
set_option maxRecDepth 100000 in
theorem specLongOf_any (A : Option Addr) (n c : Nat) (fs : List Fc) (k : Int) (w : World) (hr : ReadsF w w.heap.size A n fs) (hs : SmallP fs) :
    Calls Try.prog 5 #[.agg #[.slice A n c], .int .i64 k] w fun e w' => e = .returned (.tuple #[.int .i64 (loAns fs k).1, .bool (loAns fs k).2]) ∧ Below w.heap.size w w' := by
  rw [loAns_eq]
  have HR := put (fun W (hW : Below w.heap.size w W) => specLowerFunc_any A n c fs k W (hr.now hW) hs)
  clear hr hs
  have hb0 : Below w.heap.size w (w.alloc (.cells #[.slice A n c] 30)) := (Below.refl _ _).alloc (Nat.le_refl _) _
  have hk0 := Keep.new w #[.slice A n c] 30
  have y0 := hk0.cell 0
  simp at y0
  go_enter Try.func5, Try.ntmps5
  go_wp2_with fail
  refine (HR.out _ hb0).mono ?_
  rintro e w1 ⟨vs, vi, vr, rfl, hown, hb1⟩
  obtain ⟨A1, n1, c1, A2, n2, c2, A3, n3, c3, rfl, rfl, rfl, hcd⟩ := hown.is
  have b1 : Below w.heap.size w w1 := hb0.trans (hb1.mono hb0.size)
  have hl2 := put hcd.ins.1
  generalize hC : (lfAns fs k).getD noCd = Cc at hown hcd hl2 ⊢
  cases hsome : (lfAns fs k).isSome with
  | false =>
    have hz : Cc.ins.length = 0 := by
      rw [← hC]
      cases hl : lfAns fs k with
      | none => rfl
      | some C => rw [hl] at hsome; cases hsome
    have hC' := put hC
    clear hC hown hcd
    go_wp2
    have kF := Keep.new w1 #[.int .i64 Cc.params, .int .i64 Cc.vars, .slice A1 n1 c1, .slice A2 n2 c2, .slice A3 n3 c3] 39
    have bF := b1.alloc b1.size (.cells #[.int .i64 Cc.params, .int .i64 Cc.vars, .slice A1 n1 c1, .slice A2 n2 c2, .slice A3 n3 c3] 39)
    generalize w1.alloc (.cells #[.int .i64 Cc.params, .int .i64 Cc.vars, .slice A1 n1 c1, .slice A2 n2 c2, .slice A3 n3 c3] 39) = WF at kF bF ⊢
    have q3 := kF.cell 3
    simp only [List.getElem?_toArray, List.getElem?_cons_zero, List.getElem?_cons_succ] at q3
    go_ret2
    exact ⟨by rw [hC'.out, hz, hsome]; rfl, bF⟩
  | true =>
    have hC' := put hC
    clear hC hown hcd
    go_wp2_with fail
    have kF := Keep.new w1 #[.int .i64 Cc.params, .int .i64 Cc.vars, .slice A1 n1 c1, .slice A2 n2 c2, .slice A3 n3 c3] 39
    have bF := b1.alloc b1.size (.cells #[.int .i64 Cc.params, .int .i64 Cc.vars, .slice A1 n1 c1, .slice A2 n2 c2, .slice A3 n3 c3] 39)
    generalize w1.alloc (.cells #[.int .i64 Cc.params, .int .i64 Cc.vars, .slice A1 n1 c1, .slice A2 n2 c2, .slice A3 n3 c3] 39) = WF at kF bF ⊢
    have q3 := kF.cell 3
    simp only [List.getElem?_toArray, List.getElem?_cons_zero, List.getElem?_cons_succ] at q3
    go_wp2
    go_ret2
    exact ⟨by rw [hC'.out, hl2.out, hsome]; rfl, bF⟩

set_option maxHeartbeats 1000000 in
set_option maxRecDepth 100000 in
theorem longOf_of (A : Option Addr) (n c : Nat) (fs : List Fc) (k : Int) (w : World)
    (HR : Hid (∀ W, Below w.heap.size w W → Calls Try.prog 12 #[.agg #[.slice A n c], .int .i64 k] W fun e w' => ∃ vs vi vr, e = .returned (.tuple #[.agg #[.int .i64 ((lfAns fs k).getD noCd).params, .int .i64 ((lfAns fs k).getD noCd).vars, vs, vi, vr], .bool (lfAns fs k).isSome]) ∧ OwnCd w' W.heap.size ((lfAns fs k).getD noCd) vs vi vr ∧ Below W.heap.size W w')) :
    Calls Try.prog 7 #[.agg #[.slice A n c], .int .i64 k] w fun e w' => e = .returned (.tuple #[.int .i64 (loAns fs k).1, .bool (loAns fs k).2]) ∧ Below w.heap.size w w' := by
  rw [loAns_eq]
  have hb0 : Below w.heap.size w (w.alloc (.cells #[.slice A n c] 30)) := (Below.refl _ _).alloc (Nat.le_refl _) _
  have hk0 := Keep.new w #[.slice A n c] 30
  have y0 := hk0.cell 0
  simp at y0
  go_enter Try.func7, Try.ntmps7
  go_wp2_with fail
  refine (HR.out _ hb0).mono ?_
  rintro e w1 ⟨vs, vi, vr, rfl, hown, hb1⟩
  obtain ⟨A1, n1, c1, A2, n2, c2, A3, n3, c3, rfl, rfl, rfl, hcd⟩ := hown.is
  have b1 : Below w.heap.size w w1 := hb0.trans (hb1.mono hb0.size)
  have hl2 := put hcd.ins.1
  generalize hC : (lfAns fs k).getD noCd = Cc at hown hcd hl2 ⊢
  have hC' := put hC
  clear hC hown hcd
  go_wp2_with fail
  have kF := Keep.new w1 #[.int .i64 Cc.params, .int .i64 Cc.vars, .slice A1 n1 c1, .slice A2 n2 c2, .slice A3 n3 c3] 39
  have bF := b1.alloc b1.size (.cells #[.int .i64 Cc.params, .int .i64 Cc.vars, .slice A1 n1 c1, .slice A2 n2 c2, .slice A3 n3 c3] 39)
  generalize w1.alloc (.cells #[.int .i64 Cc.params, .int .i64 Cc.vars, .slice A1 n1 c1, .slice A2 n2 c2, .slice A3 n3 c3] 39) = WF at kF bF ⊢
  have q3 := kF.cell 3
  simp only [List.getElem?_toArray, List.getElem?_cons_zero, List.getElem?_cons_succ] at q3
  go_wp2
  go_ret2
  exact ⟨by rw [hC'.out, hl2.out]; rfl, bF⟩

end Go.Proofs.Ytpmpjiigmjnniaa

/-
  The program's LowerFunc and LongOf.
-/
namespace Go.Proofs.Ytpmpjiigmjnniaa
open Go.RowKit Exs

theorem prog_kinds {fs : List Fc} (h : progB fs = true) {f : Fc} (hf : f ∈ fs) : Kinds9 f := fun j s hj => by
  have h0 := h
  simp only [progB, Bool.and_eq_true, decide_eq_true_eq, List.all_eq_true] at h0
  have hb := h0.2 f hf
  simp only [funcB, Bool.and_eq_true] at hb
  have hsh := hb.1
  simp only [shapeB, Bool.and_eq_true, decide_eq_true_eq, List.all_eq_true] at hsh
  have hfs := (fieldsB_iff s f.vars).1 (hsh.1.1.2 s (List.mem_of_getElem? hj))
  exact ⟨hfs.1, hfs.2.1, fun h6 => List.eq_nil_of_length_eq_zero (hfs.2.2.2.2.1 (.inr h6))⟩

/-- One function of a good program. -/
theorem lowFunc_at {fs : List Fc} (hg : progB fs = true) {f : Fc} (hmf : f ∈ fs) (hsf : SmallF f) (A1 : Option Addr) (n1 c1 : Nat) (A2 : Option Addr) (n2 c2 : Nat) (w : World) (hf : IsFc w w.heap.size f A1 n1 A2 n2) :
    Calls Try.prog 20 #[fcV f A1 n1 c1 A2 n2 c2] w fun e w' => ∃ vs vi vr, e = .returned (.tuple #[.agg #[.int .i64 (lowC f).params, .int .i64 (lowC f).vars, vs, vi, vr], .bool true]) ∧ OwnCd w' w.heap.size (lowC f) vs vi vr ∧ Below w.heap.size w w' := by
  obtain ⟨hok, h16, h4⟩ := prog_fn hg hmf hsf
  have hlk := hok.low
  rw [hf.stmts.1] at hlk
  exact lowFunc_any f A1 n1 c1 A2 n2 c2 w hf hok (prog_go hg hmf) (prog_kinds hg hmf) (prog_len hg hmf hsf) (by have := hok.few; omega) h4 (put fun As ns cs hns => lst_all f A1 n1 c1 A2 n2 c2 hlk As ns cs hns _)

set_option maxHeartbeats 2000000 in
set_option maxRecDepth 100000 in
theorem lowerFunc_any (A : Option Addr) (n c : Nat) (fs : List Fc) (k : Int) (w : World) (hr : ReadsF w w.heap.size A n fs) (hs : SmallP fs) :
    Calls Try.prog 12 #[.agg #[.slice A n c], .int .i64 k] w fun e w' => ∃ vs vi vr, e = .returned (.tuple #[.agg #[.int .i64 ((lfAns fs k).getD noCd).params, .int .i64 ((lfAns fs k).getD noCd).vars, vs, vi, vr], .bool (lfAns fs k).isSome]) ∧ OwnCd w' w.heap.size ((lfAns fs k).getD noCd) vs vi vr ∧ Below w.heap.size w w' := by
  have hl2 : n ≤ 1048576 := by rw [← hr.1]; exact hs.1
  have HL := put hr.1
  have hb0 : Below w.heap.size w ((w.alloc (.cells #[.slice A n c] 30)).alloc (.cells #[.int .i64 0, .int .i64 0, .slice none 0 0, .slice none 0 0, .slice none 0 0] 39)) := ((Below.refl _ _).alloc (Nat.le_refl _) _).alloc (by simp) _
  have hk0 : Keep ((w.alloc (.cells #[.slice A n c] 30)).alloc (.cells #[.int .i64 0, .int .i64 0, .slice none 0 0, .slice none 0 0, .slice none 0 0] 39)) w.heap.size #[.slice A n c] 30 := (Keep.new w #[.slice A n c] 30).alloc _
  have hz0 : Keep ((w.alloc (.cells #[.slice A n c] 30)).alloc (.cells #[.int .i64 0, .int .i64 0, .slice none 0 0, .slice none 0 0, .slice none 0 0] 39)) (w.heap.size + 1) #[.int .i64 0, .int .i64 0, .slice none 0 0, .slice none 0 0, .slice none 0 0] 39 := by
    have := Keep.new (w.alloc (.cells #[.slice A n c] 30)) #[.int .i64 0, .int .i64 0, .slice none 0 0, .slice none 0 0, .slice none 0 0] 39
    rwa [World.size_alloc] at this
  have yy := hk0.cell 0
  simp at yy
  have HF0 := put (hasFunc_any A n c fs k _ (hr.now hb0) hs)
  go_enter Try.func12, Try.ntmps12
  go_wp2_with fail
  generalize hW : (w.alloc (.cells #[.slice A n c] 30)).alloc (.cells #[.int .i64 0, .int .i64 0, .slice none 0 0, .slice none 0 0, .slice none 0 0] 39) = W0 at hb0 hk0 hz0 HF0 ⊢
  clear hW
  refine HF0.out.mono ?_
  rintro e w1 ⟨rfl, hb1⟩
  have b1 : Below w.heap.size w w1 := hb0.trans (hb1.mono hb0.size)
  have k1 := hk0.below hb1
  have z1 := hz0.below hb1
  have y := k1.cell 0
  simp at y
  clear hb0 hk0 hz0 hb1 HF0
  cases hg : hasF fs k with
  | false =>
    have hf := put (lfAns_no (fs := fs) (k := k) hg)
    clear hg
    have kF := ((((z1.set 0 (.int .i64 0)).set 1 (.int .i64 0)).set 2 (.slice none 0 0)).set 3 (.slice none 0 0)).set 4 (.slice none 0 0)
    simp at kF
    have bF := ((((b1.setCell (p := ⟨w.heap.size + 1, 0, none⟩) (by simp) (.int .i64 0)).setCell (p := ⟨w.heap.size + 1, 1, none⟩) (by simp) (.int .i64 0)).setCell (p := ⟨w.heap.size + 1, 2, none⟩) (by simp) (.slice none 0 0)).setCell (p := ⟨w.heap.size + 1, 3, none⟩) (by simp) (.slice none 0 0)).setCell (p := ⟨w.heap.size + 1, 4, none⟩) (by simp) (.slice none 0 0)
    have u0 := z1.cell 0
    have u1 := z1.cell 1
    have u2 := z1.cell 2
    have u3 := z1.cell 3
    have u4 := z1.cell 4
    have e0 := z1.frozen 0
    have e1 := z1.frozen 1
    have e2 := z1.frozen 2
    have e3 := z1.frozen 3
    have e4 := z1.frozen 4
    simp only [List.getElem?_toArray, List.getElem?_cons_zero, List.getElem?_cons_succ] at u0 u1 u2 u3 u4
    go_wp2
    generalize hWF : ((((w1.setCell ⟨w.heap.size + 1, 0, none⟩ (.int .i64 0)).setCell ⟨w.heap.size + 1, 1, none⟩ (.int .i64 0)).setCell ⟨w.heap.size + 1, 2, none⟩ (.slice none 0 0)).setCell ⟨w.heap.size + 1, 3, none⟩ (.slice none 0 0)).setCell ⟨w.heap.size + 1, 4, none⟩ (.slice none 0 0) = WF at kF bF ⊢
    clear hWF u0 u1 u2 u3 u4
    have q0 := kF.cell 0
    have q1 := kF.cell 1
    have q2 := kF.cell 2
    have q3 := kF.cell 3
    have q4 := kF.cell 4
    simp only [List.getElem?_toArray, List.getElem?_cons_zero, List.getElem?_cons_succ] at q0 q1 q2 q3 q4
    exact bodyPost_ret (v := .tuple #[.agg #[.int .i64 0, .int .i64 0, .slice none 0 0, .slice none 0 0, .slice none 0 0], .bool false]) (by simp [results, Try.results12, go_sem, q0, q1, q2, q3, q4]) rfl ⟨.slice none 0 0, .slice none 0 0, .slice none 0 0, by rw [hf.out]; rfl, by rw [hf.out]; exact own_none WF _, bF⟩
  | true =>
    have hin : (0 ≤ k ∧ k < (n : Int)) ∧ progB fs = true := by
      have h := hg
      unfold hasF at h
      rw [HL.out] at h
      simp at h
      exact ⟨⟨h.1.1, h.1.2⟩, h.2⟩
    obtain ⟨q, rfl⟩ : ∃ q : Nat, k = q := ⟨k.toNat, by omega⟩
    have hqn : q < n := by omega
    obtain ⟨f, hfq⟩ : ∃ f, fs[q]? = some f := ⟨_, List.getElem?_eq_getElem (by have := HL.out; omega)⟩
    have HA := put (lfAns_at hg hfq)
    have hmf := List.mem_of_getElem? hfq
    have hsf := hs.2 f hmf
    obtain ⟨b, off, f', B1, m1, d1, B2, m2, d2, hA, hbb, g0, g1, g2, g3, r1, r2, hx⟩ := (hr.below b1).at_ hqn
    obtain rfl : f = f' := by have := hx.out; rw [hfq] at this; injection this
    subst hA
    have HF := put (lowFunc_at hin.2 hmf hsf B1 m1 d1 B2 m2 d2 w1 ((IsFc.mk r1 r2).more b1.size))
    unfold fcV at HF
    clear hg hin hfq hmf hsf hr r1 r2 hx hs
    go_wp2_with fail
    refine HF.out.mono ?_
    rintro e w2 ⟨vs, vi, vr, rfl, hown, hb2⟩
    obtain ⟨A1, n1, c1, A2, n2, c2, A3, n3, c3, rfl, rfl, rfl, hcd⟩ := hown.is
    have b2 := b1.trans (hb2.mono b1.size)
    have z2 := z1.below hb2
    have kF := ((((z2.set 0 (.int .i64 (lowC f).params)).set 1 (.int .i64 (lowC f).vars)).set 2 (.slice A1 n1 c1)).set 3 (.slice A2 n2 c2)).set 4 (.slice A3 n3 c3)
    simp at kF
    have bF := ((((b2.setCell (p := ⟨w.heap.size + 1, 0, none⟩) (by simp) (.int .i64 (lowC f).params)).setCell (p := ⟨w.heap.size + 1, 1, none⟩) (by simp) (.int .i64 (lowC f).vars)).setCell (p := ⟨w.heap.size + 1, 2, none⟩) (by simp) (.slice A1 n1 c1)).setCell (p := ⟨w.heap.size + 1, 3, none⟩) (by simp) (.slice A2 n2 c2)).setCell (p := ⟨w.heap.size + 1, 4, none⟩) (by simp) (.slice A3 n3 c3)
    have u0 := z2.cell 0
    have u1 := z2.cell 1
    have u2 := z2.cell 2
    have u3 := z2.cell 3
    have u4 := z2.cell 4
    have e0 := z2.frozen 0
    have e1 := z2.frozen 1
    have e2 := z2.frozen 2
    have e3 := z2.frozen 3
    have e4 := z2.frozen 4
    have hz2 : w.heap.size + 1 < w2.heap.size := z2.lt
    simp only [List.getElem?_toArray, List.getElem?_cons_zero, List.getElem?_cons_succ] at u0 u1 u2 u3 u4
    clear g0 g1 g2 g3 HF hcd
    go_wp2
    have hz3 : w.heap.size + 1 < w1.heap.size := z1.lt
    have nS := row_set5 (show w2.ownsRow w1.heap.size 3 1 (.slice A1 n1 c1) (lowC f).sites.length ((lowC f).sites.map (Value.int .i64)) from hown.sites) hz3 (.int .i64 (lowC f).params) (.int .i64 (lowC f).vars) (.slice A1 n1 c1) (.slice A2 n2 c2) (.slice A3 n3 c3)
    have nI := row_set5 hown.ins hz3 (.int .i64 (lowC f).params) (.int .i64 (lowC f).vars) (.slice A1 n1 c1) (.slice A2 n2 c2) (.slice A3 n3 c3)
    have nR := row_set5 hown.rows hz3 (.int .i64 (lowC f).params) (.int .i64 (lowC f).vars) (.slice A1 n1 c1) (.slice A2 n2 c2) (.slice A3 n3 c3)
    generalize hWF : ((((w2.setCell ⟨w.heap.size + 1, 0, none⟩ (.int .i64 (lowC f).params)).setCell ⟨w.heap.size + 1, 1, none⟩ (.int .i64 (lowC f).vars)).setCell ⟨w.heap.size + 1, 2, none⟩ (.slice A1 n1 c1)).setCell ⟨w.heap.size + 1, 3, none⟩ (.slice A2 n2 c2)).setCell ⟨w.heap.size + 1, 4, none⟩ (.slice A3 n3 c3) = WF at kF nS nI nR bF ⊢
    clear hWF u0 u1 u2 u3 u4
    have own := OwnCd.under (B := w1.heap.size) (C := lowC f) (W := WF) ⟨nS, nI, nR⟩ b1.size
    have q0 := kF.cell 0
    have q1 := kF.cell 1
    have q2 := kF.cell 2
    have q3 := kF.cell 3
    have q4 := kF.cell 4
    simp only [List.getElem?_toArray, List.getElem?_cons_zero, List.getElem?_cons_succ] at q0 q1 q2 q3 q4
    exact bodyPost_ret (v := .tuple #[.agg #[.int .i64 (lowC f).params, .int .i64 (lowC f).vars, .slice A1 n1 c1, .slice A2 n2 c2, .slice A3 n3 c3], .bool true]) (by simp [results, Try.results12, go_sem, q0, q1, q2, q3, q4]) rfl ⟨.slice A1 n1 c1, .slice A2 n2 c2, .slice A3 n3 c3, by rw [HA.out]; rfl, by rw [HA.out]; exact own, bF⟩

theorem implLongOf_any (A : Option Addr) (n c : Nat) (fs : List Fc) (k : Int) (w : World) (hr : ReadsF w w.heap.size A n fs) (hs : SmallP fs) :
    Calls Try.prog 7 #[.agg #[.slice A n c], .int .i64 k] w fun e w' => e = .returned (.tuple #[.int .i64 (loAns fs k).1, .bool (loAns fs k).2]) ∧ Below w.heap.size w w' :=
  longOf_of A n c fs k w (put fun W hW => lowerFunc_any A n c fs k W (hr.now hW) hs)

end Go.Proofs.Ytpmpjiigmjnniaa

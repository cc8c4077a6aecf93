/-
  Texts joined: LoM LowO LoP PrgEq.
-/
import Derived.Test.YtpmpjiigmjnniaaGreatJLoS
import Derived.Test.YtpmpjiigmjnniaaGreatJLowG
import Derived.Test.YtpmpjiigmjnniaaGreatJLoF
import Derived.Test.YtpmpjiigmjnniaaGreatJPrgTo2
import Derived.Test.YtpmpjiigmjnniaaGreatJNeeds
/-
  The program's lowStmts, whatever the fuel.
-/
namespace Go.Proofs.YtpmpjiigmjnniaaGreat
open Go.RowKit Exs

theorem lst_all (f : Fc) (A1 : Option Addr) (n1 c1 : Nat) (A2 : Option Addr) (n2 c2 : Nat) (hf0 : LowOk f n2) (As : Option Addr) (ns cs : Nat) (hns : ns ≤ 1048576) : ∀ g, LstC f A1 n1 c1 A2 n2 c2 As ns cs g
  | 0 => lst_base f A1 n1 c1 A2 n2 c2 As ns cs
  | g + 1 => lst_step f A1 n1 c1 A2 n2 c2 As ns cs g (put (stt_step f A1 n1 c1 A2 n2 c2 hf0 As ns cs g hns (lst_all f A1 n1 c1 A2 n2 c2 hf0 As ns cs hns g)))

end Go.Proofs.YtpmpjiigmjnniaaGreat

/-
  LongOf: both sides, the program's given what its LowerFunc answers.
-/
namespace Go.Proofs.YtpmpjiigmjnniaaGreat
open Go.RowKit Exs

/-- What LongOf answers. -/
def loAns (fs : List Fc) (k : Int) : Int × Bool := match lfAns fs k with | some C => ((C.ins.length : Int), true) | none => (0, false)
theorem loAns_eq (fs : List Fc) (k : Int) : loAns fs k = ((((lfAns fs k).getD noCd).ins.length : Int), (lfAns fs k).isSome) := by
  unfold loAns
  cases lfAns fs k <;> rfl

end Go.Proofs.YtpmpjiigmjnniaaGreat

/-
  The program's LowerFunc and LongOf.
-/
namespace Go.Proofs.YtpmpjiigmjnniaaGreat
open Go.RowKit Exs

theorem prog_kinds {fs : List Fc} (h : progB fs = true) {f : Fc} (hf : f ∈ fs) : Kinds9 f := fun j s hj => by
  have h0 := h
  simp only [progB, Bool.and_eq_true, decide_eq_true_eq, List.all_eq_true] at h0
  have hb := h0.2 f hf
  simp only [funcB, Bool.and_eq_true] at hb
  have hsh := hb.1
  simp only [shapeB, Bool.and_eq_true, decide_eq_true_eq, List.all_eq_true] at hsh
  have hfs := (fieldsB_iff s f.vars).1 (hsh.1.1.2 s (List.mem_of_getElem? hj))
  exact ⟨hfs.1, hfs.2.1, fun h6 => List.eq_nil_of_length_eq_zero (hfs.2.2.2.2.1 (.inr h6))⟩

/-- One function of a good program. -/
theorem lowFunc_at {fs : List Fc} (hg : progB fs = true) {f : Fc} (hmf : f ∈ fs) (hsf : SmallF f) (A1 : Option Addr) (n1 c1 : Nat) (A2 : Option Addr) (n2 c2 : Nat) (w : World) (hf : IsFc w w.heap.size f A1 n1 A2 n2) :
    Calls Tryz.prog 25 #[fcV f A1 n1 c1 A2 n2 c2] w fun e w' => ∃ vs vi vr, e = .returned (.tuple #[.agg #[.int .i64 (lowC f).params, .int .i64 (lowC f).vars, vs, vi, vr], .bool true]) ∧ OwnCd w' w.heap.size (lowC f) vs vi vr ∧ Below w.heap.size w w' := by
  obtain ⟨hok, h16, h4⟩ := prog_fn hg hmf hsf
  have hlk := hok.low
  rw [hf.stmts.1] at hlk
  exact lowFunc_any f A1 n1 c1 A2 n2 c2 w hf hok (prog_go hg hmf) (prog_kinds hg hmf) (prog_len hg hmf hsf) (by have := hok.few; omega) h4 (put fun As ns cs hns => lst_all f A1 n1 c1 A2 n2 c2 hlk As ns cs hns _)

set_option maxHeartbeats 2000000 in
set_option maxRecDepth 100000 in
theorem lowerFunc_any (A : Option Addr) (n c : Nat) (fs : List Fc) (k : Int) (w : World) (hr : ReadsF w w.heap.size A n fs) (hs : SmallP fs) :
    Calls Tryz.prog 8 #[.agg #[.slice A n c], .int .i64 k] w fun e w' => ∃ vs vi vr, e = .returned (.tuple #[.agg #[.int .i64 ((lfAns fs k).getD noCd).params, .int .i64 ((lfAns fs k).getD noCd).vars, vs, vi, vr], .bool (lfAns fs k).isSome]) ∧ OwnCd w' w.heap.size ((lfAns fs k).getD noCd) vs vi vr ∧ Below w.heap.size w w' := by
  have hl2 : n ≤ 1048576 := by rw [← hr.1]; exact hs.1
  have HL := put hr.1
  have hb0 : Below w.heap.size w ((w.alloc (.cells #[.slice A n c] 35)).alloc (.cells #[.int .i64 0, .int .i64 0, .slice none 0 0, .slice none 0 0, .slice none 0 0] 30)) := ((Below.refl _ _).alloc (Nat.le_refl _) _).alloc (by simp) _
  have hk0 : Keep ((w.alloc (.cells #[.slice A n c] 35)).alloc (.cells #[.int .i64 0, .int .i64 0, .slice none 0 0, .slice none 0 0, .slice none 0 0] 30)) w.heap.size #[.slice A n c] 35 := (Keep.new w #[.slice A n c] 35).alloc _
  have hz0 : Keep ((w.alloc (.cells #[.slice A n c] 35)).alloc (.cells #[.int .i64 0, .int .i64 0, .slice none 0 0, .slice none 0 0, .slice none 0 0] 30)) (w.heap.size + 1) #[.int .i64 0, .int .i64 0, .slice none 0 0, .slice none 0 0, .slice none 0 0] 30 := by
    have := Keep.new (w.alloc (.cells #[.slice A n c] 35)) #[.int .i64 0, .int .i64 0, .slice none 0 0, .slice none 0 0, .slice none 0 0] 30
    rwa [World.size_alloc] at this
  have yy := hk0.cell 0
  simp at yy
  have HF0 := put (hasFunc_any A n c fs k _ (hr.now hb0) hs)
  go_enter Tryz.func8, Tryz.ntmps8
  go_wp2_with fail
  generalize hW : (w.alloc (.cells #[.slice A n c] 35)).alloc (.cells #[.int .i64 0, .int .i64 0, .slice none 0 0, .slice none 0 0, .slice none 0 0] 30) = W0 at hb0 hk0 hz0 HF0 ⊢
  clear hW
  refine HF0.out.mono ?_
  rintro e w1 ⟨rfl, hb1⟩
  have b1 : Below w.heap.size w w1 := hb0.trans (hb1.mono hb0.size)
  have k1 := hk0.below hb1
  have z1 := hz0.below hb1
  have y := k1.cell 0
  simp at y
  clear hb0 hk0 hz0 hb1 HF0
  cases hg : hasF fs k with
  | false =>
    have hf := put (lfAns_no (fs := fs) (k := k) hg)
    clear hg
    have kF := ((((z1.set 0 (.int .i64 0)).set 1 (.int .i64 0)).set 2 (.slice none 0 0)).set 3 (.slice none 0 0)).set 4 (.slice none 0 0)
    simp at kF
    have bF := ((((b1.setCell (p := ⟨w.heap.size + 1, 0, none⟩) (by simp) (.int .i64 0)).setCell (p := ⟨w.heap.size + 1, 1, none⟩) (by simp) (.int .i64 0)).setCell (p := ⟨w.heap.size + 1, 2, none⟩) (by simp) (.slice none 0 0)).setCell (p := ⟨w.heap.size + 1, 3, none⟩) (by simp) (.slice none 0 0)).setCell (p := ⟨w.heap.size + 1, 4, none⟩) (by simp) (.slice none 0 0)
    have u0 := z1.cell 0
    have u1 := z1.cell 1
    have u2 := z1.cell 2
    have u3 := z1.cell 3
    have u4 := z1.cell 4
    have e0 := z1.frozen 0
    have e1 := z1.frozen 1
    have e2 := z1.frozen 2
    have e3 := z1.frozen 3
    have e4 := z1.frozen 4
    simp only [List.getElem?_toArray, List.getElem?_cons_zero, List.getElem?_cons_succ] at u0 u1 u2 u3 u4
    go_wp2
    generalize hWF : ((((w1.setCell ⟨w.heap.size + 1, 0, none⟩ (.int .i64 0)).setCell ⟨w.heap.size + 1, 1, none⟩ (.int .i64 0)).setCell ⟨w.heap.size + 1, 2, none⟩ (.slice none 0 0)).setCell ⟨w.heap.size + 1, 3, none⟩ (.slice none 0 0)).setCell ⟨w.heap.size + 1, 4, none⟩ (.slice none 0 0) = WF at kF bF ⊢
    clear hWF u0 u1 u2 u3 u4
    have q0 := kF.cell 0
    have q1 := kF.cell 1
    have q2 := kF.cell 2
    have q3 := kF.cell 3
    have q4 := kF.cell 4
    simp only [List.getElem?_toArray, List.getElem?_cons_zero, List.getElem?_cons_succ] at q0 q1 q2 q3 q4
    exact bodyPost_ret (v := .tuple #[.agg #[.int .i64 0, .int .i64 0, .slice none 0 0, .slice none 0 0, .slice none 0 0], .bool false]) (by simp [results, Tryz.results8, go_sem, q0, q1, q2, q3, q4]) rfl ⟨.slice none 0 0, .slice none 0 0, .slice none 0 0, by rw [hf.out]; rfl, by rw [hf.out]; exact own_none WF _, bF⟩
  | true =>
    have hin : (0 ≤ k ∧ k < (n : Int)) ∧ progB fs = true := by
      have h := hg
      unfold hasF at h
      rw [HL.out] at h
      simp at h
      exact ⟨⟨h.1.1, h.1.2⟩, h.2⟩
    obtain ⟨q, rfl⟩ : ∃ q : Nat, k = q := ⟨k.toNat, by omega⟩
    have hqn : q < n := by omega
    obtain ⟨f, hfq⟩ : ∃ f, fs[q]? = some f := ⟨_, List.getElem?_eq_getElem (by have := HL.out; omega)⟩
    have HA := put (lfAns_at hg hfq)
    have hmf := List.mem_of_getElem? hfq
    have hsf := hs.2 f hmf
    obtain ⟨b, off, f', B1, m1, d1, B2, m2, d2, hA, hbb, g0, g1, g2, g3, r1, r2, hx⟩ := (hr.below b1).at_ hqn
    obtain rfl : f = f' := by have := hx.out; rw [hfq] at this; injection this
    subst hA
    have HF := put (lowFunc_at hin.2 hmf hsf B1 m1 d1 B2 m2 d2 w1 ((IsFc.mk r1 r2).more b1.size))
    unfold fcV at HF
    clear hg hin hfq hmf hsf hr r1 r2 hx hs
    go_wp2_with fail
    refine HF.out.mono ?_
    rintro e w2 ⟨vs, vi, vr, rfl, hown, hb2⟩
    obtain ⟨A1, n1, c1, A2, n2, c2, A3, n3, c3, rfl, rfl, rfl, hcd⟩ := hown.is
    have b2 := b1.trans (hb2.mono b1.size)
    have z2 := z1.below hb2
    have kF := ((((z2.set 0 (.int .i64 (lowC f).params)).set 1 (.int .i64 (lowC f).vars)).set 2 (.slice A1 n1 c1)).set 3 (.slice A2 n2 c2)).set 4 (.slice A3 n3 c3)
    simp at kF
    have bF := ((((b2.setCell (p := ⟨w.heap.size + 1, 0, none⟩) (by simp) (.int .i64 (lowC f).params)).setCell (p := ⟨w.heap.size + 1, 1, none⟩) (by simp) (.int .i64 (lowC f).vars)).setCell (p := ⟨w.heap.size + 1, 2, none⟩) (by simp) (.slice A1 n1 c1)).setCell (p := ⟨w.heap.size + 1, 3, none⟩) (by simp) (.slice A2 n2 c2)).setCell (p := ⟨w.heap.size + 1, 4, none⟩) (by simp) (.slice A3 n3 c3)
    have u0 := z2.cell 0
    have u1 := z2.cell 1
    have u2 := z2.cell 2
    have u3 := z2.cell 3
    have u4 := z2.cell 4
    have e0 := z2.frozen 0
    have e1 := z2.frozen 1
    have e2 := z2.frozen 2
    have e3 := z2.frozen 3
    have e4 := z2.frozen 4
    have hz2 : w.heap.size + 1 < w2.heap.size := z2.lt
    simp only [List.getElem?_toArray, List.getElem?_cons_zero, List.getElem?_cons_succ] at u0 u1 u2 u3 u4
    clear g0 g1 g2 g3 HF hcd
    go_wp2
    have hz3 : w.heap.size + 1 < w1.heap.size := z1.lt
    have nS := row_set5 (show w2.ownsRow w1.heap.size 3 1 (.slice A1 n1 c1) (lowC f).sites.length ((lowC f).sites.map (Value.int .i64)) from hown.sites) hz3 (.int .i64 (lowC f).params) (.int .i64 (lowC f).vars) (.slice A1 n1 c1) (.slice A2 n2 c2) (.slice A3 n3 c3)
    have nI := row_set5 hown.ins hz3 (.int .i64 (lowC f).params) (.int .i64 (lowC f).vars) (.slice A1 n1 c1) (.slice A2 n2 c2) (.slice A3 n3 c3)
    have nR := row_set5 hown.rows hz3 (.int .i64 (lowC f).params) (.int .i64 (lowC f).vars) (.slice A1 n1 c1) (.slice A2 n2 c2) (.slice A3 n3 c3)
    generalize hWF : ((((w2.setCell ⟨w.heap.size + 1, 0, none⟩ (.int .i64 (lowC f).params)).setCell ⟨w.heap.size + 1, 1, none⟩ (.int .i64 (lowC f).vars)).setCell ⟨w.heap.size + 1, 2, none⟩ (.slice A1 n1 c1)).setCell ⟨w.heap.size + 1, 3, none⟩ (.slice A2 n2 c2)).setCell ⟨w.heap.size + 1, 4, none⟩ (.slice A3 n3 c3) = WF at kF nS nI nR bF ⊢
    clear hWF u0 u1 u2 u3 u4
    have own := OwnCd.under (B := w1.heap.size) (C := lowC f) (W := WF) ⟨nS, nI, nR⟩ b1.size
    have q0 := kF.cell 0
    have q1 := kF.cell 1
    have q2 := kF.cell 2
    have q3 := kF.cell 3
    have q4 := kF.cell 4
    simp only [List.getElem?_toArray, List.getElem?_cons_zero, List.getElem?_cons_succ] at q0 q1 q2 q3 q4
    exact bodyPost_ret (v := .tuple #[.agg #[.int .i64 (lowC f).params, .int .i64 (lowC f).vars, .slice A1 n1 c1, .slice A2 n2 c2, .slice A3 n3 c3], .bool true]) (by simp [results, Tryz.results8, go_sem, q0, q1, q2, q3, q4]) rfl ⟨.slice A1 n1 c1, .slice A2 n2 c2, .slice A3 n3 c3, by rw [HA.out]; rfl, by rw [HA.out]; exact own, bF⟩

end Go.Proofs.YtpmpjiigmjnniaaGreat

/-
  The laws' comparing of programs: one that reads the same is the same.
-/
namespace Go.Proofs.YtpmpjiigmjnniaaGreat
open Go.RowKit Exs

theorem eqInts_below (A A' : Option Addr) (n c c' : Nat) (xs : List Int) (w : World) (hr : Reads w w.heap.size .i64 A n xs) (hr' : Reads w w.heap.size .i64 A' n xs) (hn : n ≤ 1048576) :
    Calls Tryz.prog 26 #[.slice A n c, .slice A' n c'] w fun e w' => e = .returned (.bool true) ∧ Below w.heap.size w w' :=
  (eqInts_same A A' n c c' xs w hr hr' hn).mono fun _ _ ⟨he, q, hq⟩ => ⟨he, by rw [hq]; exact below_drewN (Below.refl _ _) _⟩

set_option maxHeartbeats 1000000 in
set_option maxRecDepth 100000 in
theorem eqStmt_same (s : St) (A1 : Option Addr) (n1 c1 : Nat) (A2 : Option Addr) (n2 c2 : Nat) (A3 : Option Addr) (n3 c3 : Nat) (B1 : Option Addr) (d1 : Nat) (B2 : Option Addr) (d2 : Nat) (B3 : Option Addr) (d3 : Nat) (w : World)
    (hr : IsSt w w.heap.size s A1 n1 A2 n2 A3 n3) (hr' : IsSt w w.heap.size s B1 n1 B2 n2 B3 n3) (hs : SmallS s) :
    Calls Tryz.prog 91 #[stV s A1 n1 c1 A2 n2 c2 A3 n3 c3, stV s B1 n1 d1 B2 n2 d2 B3 n3 d3] w fun e w' => e = .returned (.bool true) ∧ Below w.heap.size w w' := by
  obtain ⟨l1, l2, l3⟩ := hs
  rw [hr.ex.1] at l1; rw [hr.th.1] at l2; rw [hr.el.1] at l3
  unfold stV
  go_enter Tryz.func91, Tryz.ntmps91
  go_wp2_with fail
  have hb0 : Below w.heap.size w ((w.alloc (.cells #[.int .i64 s.kind, .int .i64 s.n, .slice A1 n1 c1, .slice A2 n2 c2, .slice A3 n3 c3] 80)).alloc (.cells #[.int .i64 s.kind, .int .i64 s.n, .slice B1 n1 d1, .slice B2 n2 d2, .slice B3 n3 d3] 80)) := ((Below.refl _ _).alloc (Nat.le_refl _) _).alloc (by simp) _
  have hx0 : Keep ((w.alloc (.cells #[.int .i64 s.kind, .int .i64 s.n, .slice A1 n1 c1, .slice A2 n2 c2, .slice A3 n3 c3] 80)).alloc (.cells #[.int .i64 s.kind, .int .i64 s.n, .slice B1 n1 d1, .slice B2 n2 d2, .slice B3 n3 d3] 80)) w.heap.size #[.int .i64 s.kind, .int .i64 s.n, .slice A1 n1 c1, .slice A2 n2 c2, .slice A3 n3 c3] 80 := (Keep.new _ _ _).alloc _
  have hy0 : Keep ((w.alloc (.cells #[.int .i64 s.kind, .int .i64 s.n, .slice A1 n1 c1, .slice A2 n2 c2, .slice A3 n3 c3] 80)).alloc (.cells #[.int .i64 s.kind, .int .i64 s.n, .slice B1 n1 d1, .slice B2 n2 d2, .slice B3 n3 d3] 80)) (w.heap.size + 1) #[.int .i64 s.kind, .int .i64 s.n, .slice B1 n1 d1, .slice B2 n2 d2, .slice B3 n3 d3] 80 := by
    have := Keep.new (w.alloc (.cells #[.int .i64 s.kind, .int .i64 s.n, .slice A1 n1 c1, .slice A2 n2 c2, .slice A3 n3 c3] 80)) #[.int .i64 s.kind, .int .i64 s.n, .slice B1 n1 d1, .slice B2 n2 d2, .slice B3 n3 d3] 80
    rw [World.size_alloc] at this
    exact this
  generalize hW0 : (w.alloc (.cells #[.int .i64 s.kind, .int .i64 s.n, .slice A1 n1 c1, .slice A2 n2 c2, .slice A3 n3 c3] 80)).alloc (.cells #[.int .i64 s.kind, .int .i64 s.n, .slice B1 n1 d1, .slice B2 n2 d2, .slice B3 n3 d3] 80) = W0 at hb0 hx0 hy0 ⊢
  clear hW0
  refine (eqToks_same A1 B1 n1 c1 d1 s.ex _ (hr.ex.now hb0) (hr'.ex.now hb0) l1).mono ?_
  rintro e W1 ⟨rfl, hc0⟩
  have hb1 : Below w.heap.size w W1 := hb0.trans (hc0.mono hb0.size)
  have hx1 := hx0.below hc0
  have hy1 := hy0.below hc0
  clear hx0 hy0 hc0 hb0
  have q1 := hx1.cell 3
  have q2 := hy1.cell 3
  simp at q1 q2
  go_wp2_with fail
  clear q1 q2
  refine (eqInts_below A2 B2 n2 c2 d2 s.th _ (hr.th.now hb1) (hr'.th.now hb1) l2).mono ?_
  rintro e W2 ⟨rfl, hc1⟩
  have hb2 : Below w.heap.size w W2 := hb1.trans (hc1.mono hb1.size)
  have hx2 := hx1.below hc1
  have hy2 := hy1.below hc1
  clear hx1 hy1 hc1 hb1
  have q1 := hx2.cell 4
  have q2 := hy2.cell 4
  simp at q1 q2
  go_wp2_with fail
  clear q1 q2
  refine (eqInts_below A3 B3 n3 c3 d3 s.el _ (hr.el.now hb2) (hr'.el.now hb2) l3).mono ?_
  rintro e W3 ⟨rfl, hc2⟩
  have hb3 : Below w.heap.size w W3 := hb2.trans (hc2.mono hb2.size)
  have hx3 := hx2.below hc2
  have hy3 := hy2.below hc2
  clear hx2 hy2 hc2 hb2
  go_wp2
  go_ret
  exact ⟨rfl, hb3⟩

set_option maxHeartbeats 1000000 in
set_option maxRecDepth 100000 in
theorem eqStmts_same (A A' : Option Addr) (n c c' : Nat) (ss : List St) (w : World) (hr : ReadsS w w.heap.size A n ss) (hr' : ReadsS w w.heap.size A' n ss) (hn : n ≤ 1048576) (hs : ∀ x ∈ ss, SmallS x) :
    Calls Tryz.prog 73 #[.slice A n c, .slice A' n c'] w fun e w' => e = .returned (.bool true) ∧ Below w.heap.size w w' := by
  go_enter Tryz.func73, Tryz.ntmps73
  go_wp2
  go_loopw [5] (fun i wr => ∃ k : Nat, k ≤ n ∧ i = .int .i64 k ∧ Below w.heap.size w wr) (fun i _ => n - (intOf i).toNat)
  case atStart => exact ⟨0, Nat.zero_le _, rfl, Below.refl _ _⟩
  case round =>
    obtain ⟨k, hk, rfl, hbel⟩ := hrel
    by_cases hlt : k < n
    · obtain ⟨b, off, s, A1, n1, c1, A2, n2, c2, A3, n3, c3, rfl, hb, g0, g1, g2, g3, g4, r1, r2, r3, hx⟩ := (hr.below hbel).at_ hlt
      obtain ⟨b', off', s', B1, m1, d1, B2, m2, d2, B3, m3, d3, rfl, hb', h0, h1, h2, h3, h4, q1, q2, q3, hx'⟩ := (hr'.below hbel).at_ hlt
      obtain rfl : s = s' := by have := hx.out; rw [hx'.out] at this; injection this with this; exact this.symm
      have u0 := cell_regrown g0
      have v0 := cell_regrown h0
      have u1 := cell_regrown g1
      have v1 := cell_regrown h1
      have u2 := cell_regrown g2
      have v2 := cell_regrown h2
      have u3 := cell_regrown g3
      have v3 := cell_regrown h3
      have u4 := cell_regrown g4
      have v4 := cell_regrown h4
      obtain rfl : n1 = m1 := by have := r1.1; have := q1.1; omega
      obtain rfl : n2 = m2 := by have := r2.1; have := q2.1; omega
      obtain rfl : n3 = m3 := by have := r3.1; have := q3.1; omega
      have hcon := fun W (hW : Below wr.heap.size wr W) => eqStmt_same s A1 n1 c1 A2 n2 c2 A3 n3 c3 B1 d1 B2 d2 B3 d3 W ((IsSt.more ⟨r1, r2, r3⟩ hbel.size).now hW) ((IsSt.more ⟨q1, q2, q3⟩ hbel.size).now hW) (hs _ (mem_of_at hx.out))
      unfold stV at hcon
      clear r1 r2 r3 q1 q2 q3
      go_wp2
      refine wp_region_quiet_below (by kernel_rfl) (by kernel_rfl) ?_
      repeat (first | go_big_quiet_step ((go_at_call 91; exact Calls.regrown_of (hcon _ (below_regrown wr _ _)))) | quiet_step (fail))
      refine wpQuiet_nil ?_
      intro _ hw'
      obtain ⟨⟨dq, osq⟩, hw''⟩ := hw'
      subst hw''
      go_wp2
      go_roundw
      case rel => exact ⟨k + 1, by omega, by go_num, hbel.trans ((below_regrown wr dq osq).mono hbel.size)⟩
      case measure => simp [intOf]; omega
    · go_wp2
      go_ret
      exact ⟨rfl, hbel⟩

set_option maxHeartbeats 1000000 in
set_option maxRecDepth 100000 in
theorem eqFunc_same (f : Fc) (A1 : Option Addr) (n1 c1 : Nat) (A2 : Option Addr) (n2 c2 : Nat) (B1 : Option Addr) (d1 : Nat) (B2 : Option Addr) (d2 : Nat) (w : World)
    (hr : IsFc w w.heap.size f A1 n1 A2 n2) (hr' : IsFc w w.heap.size f B1 n1 B2 n2) (hs : SmallF f) :
    Calls Tryz.prog 54 #[fcV f A1 n1 c1 A2 n2 c2, fcV f B1 n1 d1 B2 n2 d2] w fun e w' => e = .returned (.bool true) ∧ Below w.heap.size w w' := by
  obtain ⟨l1, l2, l3⟩ := hs
  rw [hr.body.1] at l1; rw [hr.stmts.1] at l2
  unfold fcV
  go_enter Tryz.func54, Tryz.ntmps54
  go_wp2_with fail
  have hb0 : Below w.heap.size w ((w.alloc (.cells #[.int .i64 f.params, .int .i64 f.vars, .slice A1 n1 c1, .slice A2 n2 c2] 59)).alloc (.cells #[.int .i64 f.params, .int .i64 f.vars, .slice B1 n1 d1, .slice B2 n2 d2] 59)) := ((Below.refl _ _).alloc (Nat.le_refl _) _).alloc (by simp) _
  have hx0 : Keep ((w.alloc (.cells #[.int .i64 f.params, .int .i64 f.vars, .slice A1 n1 c1, .slice A2 n2 c2] 59)).alloc (.cells #[.int .i64 f.params, .int .i64 f.vars, .slice B1 n1 d1, .slice B2 n2 d2] 59)) w.heap.size #[.int .i64 f.params, .int .i64 f.vars, .slice A1 n1 c1, .slice A2 n2 c2] 59 := (Keep.new _ _ _).alloc _
  have hy0 : Keep ((w.alloc (.cells #[.int .i64 f.params, .int .i64 f.vars, .slice A1 n1 c1, .slice A2 n2 c2] 59)).alloc (.cells #[.int .i64 f.params, .int .i64 f.vars, .slice B1 n1 d1, .slice B2 n2 d2] 59)) (w.heap.size + 1) #[.int .i64 f.params, .int .i64 f.vars, .slice B1 n1 d1, .slice B2 n2 d2] 59 := by
    have := Keep.new (w.alloc (.cells #[.int .i64 f.params, .int .i64 f.vars, .slice A1 n1 c1, .slice A2 n2 c2] 59)) #[.int .i64 f.params, .int .i64 f.vars, .slice B1 n1 d1, .slice B2 n2 d2] 59
    rw [World.size_alloc] at this
    exact this
  generalize hW0 : (w.alloc (.cells #[.int .i64 f.params, .int .i64 f.vars, .slice A1 n1 c1, .slice A2 n2 c2] 59)).alloc (.cells #[.int .i64 f.params, .int .i64 f.vars, .slice B1 n1 d1, .slice B2 n2 d2] 59) = W0 at hb0 hx0 hy0 ⊢
  clear hW0
  refine (eqInts_below A1 B1 n1 c1 d1 f.body _ (hr.body.now hb0) (hr'.body.now hb0) l1).mono ?_
  rintro e W1 ⟨rfl, hc0⟩
  have hb1 : Below w.heap.size w W1 := hb0.trans (hc0.mono hb0.size)
  have hx1 := hx0.below hc0
  have hy1 := hy0.below hc0
  clear hx0 hy0 hc0 hb0
  have q1 := hx1.cell 3
  have q2 := hy1.cell 3
  simp at q1 q2
  go_wp2_with fail
  clear q1 q2
  refine (eqStmts_same A2 B2 n2 c2 d2 f.stmts _ (hr.stmts.now hb1) (hr'.stmts.now hb1) l2 l3).mono ?_
  rintro e W2 ⟨rfl, hc1⟩
  have hb2 : Below w.heap.size w W2 := hb1.trans (hc1.mono hb1.size)
  have hx2 := hx1.below hc1
  have hy2 := hy1.below hc1
  clear hx1 hy1 hc1 hb1
  go_wp2
  go_ret
  exact ⟨rfl, hb2⟩

set_option maxHeartbeats 1000000 in
set_option maxRecDepth 100000 in
theorem eqFuncs_same (A A' : Option Addr) (n c c' : Nat) (fs : List Fc) (w : World) (hr : ReadsF w w.heap.size A n fs) (hr' : ReadsF w w.heap.size A' n fs) (hn : n ≤ 1048576) (hs : ∀ x ∈ fs, SmallF x) :
    Calls Tryz.prog 29 #[.slice A n c, .slice A' n c'] w fun e w' => e = .returned (.bool true) ∧ Below w.heap.size w w' := by
  go_enter Tryz.func29, Tryz.ntmps29
  go_wp2
  go_loopw [5] (fun i wr => ∃ k : Nat, k ≤ n ∧ i = .int .i64 k ∧ Below w.heap.size w wr) (fun i _ => n - (intOf i).toNat)
  case atStart => exact ⟨0, Nat.zero_le _, rfl, Below.refl _ _⟩
  case round =>
    obtain ⟨k, hk, rfl, hbel⟩ := hrel
    by_cases hlt : k < n
    · obtain ⟨b, off, f, A1, n1, c1, A2, n2, c2, rfl, hb, g0, g1, g2, g3, r1, r2, hx⟩ := (hr.below hbel).at_ hlt
      obtain ⟨b', off', f', B1, m1, d1, B2, m2, d2, rfl, hb', h0, h1, h2, h3, q1, q2, hx'⟩ := (hr'.below hbel).at_ hlt
      obtain rfl : f = f' := by have := hx.out; rw [hx'.out] at this; injection this with this; exact this.symm
      have u0 := cell_regrown g0
      have v0 := cell_regrown h0
      have u1 := cell_regrown g1
      have v1 := cell_regrown h1
      have u2 := cell_regrown g2
      have v2 := cell_regrown h2
      have u3 := cell_regrown g3
      have v3 := cell_regrown h3
      obtain rfl : n1 = m1 := by have := r1.1; have := q1.1; omega
      obtain rfl : n2 = m2 := by have := r2.1; have := q2.1; omega
      have hcon := fun W (hW : Below wr.heap.size wr W) => eqFunc_same f A1 n1 c1 A2 n2 c2 B1 d1 B2 d2 W ((IsFc.more ⟨r1, r2⟩ hbel.size).now hW) ((IsFc.more ⟨q1, q2⟩ hbel.size).now hW) (hs _ (mem_of_at hx.out))
      unfold fcV at hcon
      clear r1 r2 q1 q2
      go_wp2
      refine wp_region_quiet_below (by kernel_rfl) (by kernel_rfl) ?_
      repeat (first | go_big_quiet_step ((go_at_call 54; exact Calls.regrown_of (hcon _ (below_regrown wr _ _)))) | quiet_step (fail))
      refine wpQuiet_nil ?_
      intro _ hw'
      obtain ⟨⟨dq, osq⟩, hw''⟩ := hw'
      subst hw''
      go_wp2
      go_roundw
      case rel => exact ⟨k + 1, by omega, by go_num, hbel.trans ((below_regrown wr dq osq).mono hbel.size)⟩
      case measure => simp [intOf]; omega
    · go_wp2
      go_ret
      exact ⟨rfl, hbel⟩

set_option maxHeartbeats 1000000 in
theorem eqProg_same (A A' : Option Addr) (n c c' : Nat) (fs : List Fc) (w : World) (hr : ReadsF w w.heap.size A n fs) (hr' : ReadsF w w.heap.size A' n fs) (hs : SmallP fs) :
    Calls Tryz.prog 10 #[.agg #[.slice A n c], .agg #[.slice A' n c']] w fun e w' => e = .returned (.bool true) ∧ Below w.heap.size w w' := by
  obtain ⟨l1, l2⟩ := hs
  rw [hr.1] at l1
  have hb0 : Below w.heap.size w ((w.alloc (.cells #[.slice A n c] 35)).alloc (.cells #[.slice A' n c'] 35)) := ((Below.refl _ _).alloc (Nat.le_refl _) _).alloc (by simp) _
  go_enter Tryz.func10, Tryz.ntmps10
  go_wp2_with fail
  refine (eqFuncs_same A A' n c c' fs _ (hr.now hb0) (hr'.now hb0) l1 l2).mono ?_
  rintro e W1 ⟨rfl, hc⟩
  go_wp2
  go_ret
  exact ⟨rfl, hb0.trans (hc.mono hb0.size)⟩

end Go.Proofs.YtpmpjiigmjnniaaGreat

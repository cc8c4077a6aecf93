/-
  Texts joined: Hr Range Rg Bb.
-/
import Derived.Test.YtpbkkjiikhjanaaGreatDoorJUm
import Derived.RangeFuncNested
import Derived.RangeFuncBound
import Derived.RangeFuncLeaves
import Derived.RangeFuncFrom
import Derived.Test.YtpbkkjiikhjanaaGreatDoorJGv
import Derived.RangeFuncCalls
import Derived.Maps.OwnIn
import Derived.Shelf.Abstract
import Derived.Shelf.RegionOpen
import Derived.WalkKit
import Derived.OwnWalkIn
import Derived.TacticsInMore
import Derived.LoopNIn
import Derived.LoopIn
/-
  Whether a code has a recover, and whether a machine has a frame, as the program has it.
-/
namespace Go.Proofs.YtpbkkjiikhjanaaGreatDoor
open Go.RowKit Go.Deep Exs Ht

/-- The place of the first recover. -/
def ixRec : List Token → Int → Int
  | [], _ => -1
  | t :: ts, j => if t.1 == 6 then j else ixRec ts (j + 1)
theorem ixRec_hit {ts : List Token} {k : Nat} {t : Token} {j : Int} (h : ts[k]? = some t) (ht : (t.1 == 6) = true) (hn : ∀ q ∈ ts.take k, (q.1 == 6) = false) : ixRec ts j = j + (k : Int) := by
  induction ts generalizing k j with
  | nil => simp at h
  | cons q ts ih =>
    cases k with
    | zero => simp at h; subst h; simp [ixRec, ht]
    | succ k =>
      have hq : (q.1 == 6) = false := hn q (by simp)
      rw [ixRec, hq, if_neg (by decide), ih (by simpa using h) (fun x hx => hn x (by simp [hx]))]
      omega
theorem ixRec_none {ts : List Token} (hn : ∀ q ∈ ts, (q.1 == 6) = false) (j : Int) : ixRec ts j = -1 := by
  induction ts generalizing j with
  | nil => rfl
  | cons q ts ih => rw [ixRec, hn q (by simp), if_neg (by decide), ih (fun x hx => hn x (by simp [hx]))]
theorem ixRec_says (ts : List Token) (j : Int) (hj : 0 ≤ j) : decide (ixRec ts j ≥ 0) = ts.any fun t => t.1 == 6 := by
  induction ts generalizing j with
  | nil => rfl
  | cons q ts ih =>
    rw [ixRec, List.any_cons]
    cases h : (q.1 == 6)
    · rw [if_neg (by decide), ih (j + 1) (by omega), Bool.false_or]
    · rw [if_pos rfl, Bool.true_or]; exact decide_eq_true hj
theorem rec_more {ts : List Token} {k : Nat} {t : Token} (h : ts[k]? = some t) (hr : (t.1 == 6) = false) (hn : ∀ q ∈ ts.take k, (q.1 == 6) = false) : ∀ q ∈ ts.take (k + 1), (q.1 == 6) = false := no_more hn h hr

set_option maxHeartbeats 400000 in
set_option maxRecDepth 100000 in
theorem isRec_any (op x : Int) (w : World) :
    Calls Tryz.prog 95 #[.agg #[.int .i64 op, .int .i64 x]] w fun e w' => e = .returned (.bool (op == 6)) ∧ Below w.heap.size w w' := by
  have hb := (Below.refl w.heap.size w).alloc (Nat.le_refl _) (Obj.cells #[.int .i64 op, .int .i64 x] 129)
  go_enter Tryz.func95, Tryz.ntmps95
  go_wp2
  go_ret
  exact ⟨rfl, hb⟩

set_option maxHeartbeats 1000000 in
set_option maxRecDepth 100000 in
theorem indexRec_any (A : Option Addr) (n c : Nat) (ts : List Token) (w : World) (hr : ReadsT w w.heap.size A n ts) (hn : n ≤ 1048576) :
    Calls Tryz.prog 122 #[.slice A n c, .func (.func 95) #[] #[]] w fun e w' => e = .returned (.int .i64 (ixRec ts 0)) ∧ Below w.heap.size w w' := by
  have HLN := put hr.1
  go_enter Tryz.func122, Tryz.ntmps122
  go_wp2
  go_loopw [8] (fun i wr => ∃ k : Nat, k ≤ n ∧ i = .int .i64 k ∧ Hid (∀ q ∈ ts.take k, (q.1 == 6) = false) ∧ Below w.heap.size w wr) (fun i _ => n - (intOf i).toNat)
  case atStart => exact ⟨0, Nat.zero_le _, rfl, put (fun t h => by simp at h), Below.refl _ _⟩
  case round =>
    obtain ⟨k, hk, rfl, hall, hbel⟩ := hrel
    by_cases hlt : k < n
    · obtain ⟨b, off, op, x, rfl, hb', hc1, hc2, hxt⟩ := (hr.below hbel).at_ hlt
      cases h : (op == 6)
      · have hall2 := put (rec_more hxt.out h hall.out)
        have q := put h
        clear h
        go_wp2_with fail
        refine (isRec_any op x _).mono ?_
        rintro e w1 ⟨rfl, hb1⟩
        rw [q.out]
        go_wp2
        go_roundw
        case rel => exact ⟨k + 1, by omega, by go_num, hall2, hbel.trans (hb1.mono hbel.size)⟩
        case measure => simp [intOf]; omega
      · have HR := put (show ixRec ts 0 = (k : Int) from by rw [ixRec_hit (j := 0) hxt.out h hall.out]; omega)
        have q := put h
        clear h
        go_wp2_with fail
        refine (isRec_any op x _).mono ?_
        rintro e w1 ⟨rfl, hb1⟩
        rw [q.out]
        go_wp2
        go_ret
        exact ⟨ret_int HR.out.symm, hbel.trans (hb1.mono hbel.size)⟩
    · have hfin : ts.take k = ts := List.take_of_length_le (by have := HLN.out; omega)
      have HR := put (show ixRec ts 0 = -1 from ixRec_none (by have := hall.out; rwa [hfin] at this) 0)
      clear hfin
      go_wp2
      go_ret
      exact ⟨ret_int HR.out.symm, hbel⟩

set_option maxHeartbeats 400000 in
set_option maxRecDepth 100000 in
theorem containsRec_any (A : Option Addr) (n c : Nat) (ts : List Token) (w : World) (hr : ReadsT w w.heap.size A n ts) (hn : n ≤ 1048576) :
    Calls Tryz.prog 94 #[.slice A n c, .func (.func 95) #[] #[]] w fun e w' => e = .returned (.bool (ts.any fun t => t.1 == 6)) ∧ Below w.heap.size w w' := by
  have HS := put (ixRec_says ts 0 (by decide))
  go_enter Tryz.func94, Tryz.ntmps94
  go_wp2_with fail
  refine (indexRec_any A n c ts _ hr hn).mono ?_
  rintro e w1 ⟨rfl, hb1⟩
  go_wp2
  go_ret
  exact ⟨ret_bool (by have := HS.out; simpa using this), hb1⟩

set_option maxHeartbeats 400000 in
set_option maxRecDepth 100000 in
theorem hasRecover_any (s : Cd) (p v : Int) (A4 : Option Addr) (n4 c4 : Nat) (A5 : Option Addr) (n5 c5 : Nat) (A6 : Option Addr) (n6 c6 : Nat) (w : World) (hr : ReadsT w w.heap.size A5 n5 s.ins) (hn : n5 ≤ 1048576) :
    Calls Tryz.prog 63 #[.agg #[.int .i64 p, .int .i64 v, .slice A4 n4 c4, .slice A5 n5 c5, .slice A6 n6 c6]] w fun e w' => e = .returned (.bool (recB s)) ∧ Below w.heap.size w w' := by
  have hb := (Below.refl w.heap.size w).alloc (Nat.le_refl _) (Obj.cells #[.int .i64 p, .int .i64 v, .slice A4 n4 c4, .slice A5 n5 c5, .slice A6 n6 c6] 82)
  have hmf : ∀ (fn : Fn) (first cap : Array Value) (w : World), (Instr.makeFunc fn first cap).run Tryz.prog w = .ok (.func fn first cap) w := fun _ _ _ _ => rfl
  go_enter Tryz.func63, Tryz.ntmps63
  go_wp2_with fail
  refine (containsRec_any A5 n5 c5 s.ins _ (hr.now hb) hn).mono ?_
  rintro e w1 ⟨rfl, hb1⟩
  go_wp2
  go_ret
  exact ⟨rfl, hb.trans (hb1.mono hb.size)⟩

set_option maxHeartbeats 400000 in
set_option maxRecDepth 100000 in
theorem hasFrame_any (C : Option Addr) (m d : Nat) (T2 : Option Addr) (m2 d2 : Nat) (T3 : Option Addr) (m3 d3 : Nat) (used code value made : Int) (a : Int) (w : World) :
    Calls Tryz.prog 34 #[.agg #[.slice C m d, .slice T2 m2 d2, .int .i64 used, .int .i64 code, .int .i64 value, .int .i64 made, .slice T3 m3 d3], .int .i64 a] w fun e w' => e = .returned (.bool (decide (0 ≤ a ∧ a < (m : Int)))) ∧ Below w.heap.size w w' := by
  have hb := (Below.refl w.heap.size w).alloc (Nat.le_refl _) (Obj.cells #[.slice C m d, .slice T2 m2 d2, .int .i64 used, .int .i64 code, .int .i64 value, .int .i64 made, .slice T3 m3 d3] 41)
  by_cases h0 : 0 ≤ a
  · have hd : decide (a ≥ 0) = true := decide_eq_true h0
    go_enter Tryz.func34, Tryz.ntmps34
    go_wp2
    go_ret
    exact ⟨ret_bool (by simp [h0]), hb⟩
  · have hd : decide (a ≥ 0) = false := decide_eq_false h0
    go_enter Tryz.func34, Tryz.ntmps34
    go_wp2
    go_ret
    exact ⟨ret_bool (by simp), hb⟩

end Go.Proofs.YtpbkkjiikhjanaaGreatDoor

/-
  A range over a function whose rounds are steps of a state: the loop's body says at each value whether it goes on, and the iterator need not serve bodies that go on elsewhere. Over any program.
-/
namespace Go.Proofs.YtpbkkjiikhjanaaGreatDoor
open Go.RowKit

variable {F : Fence} {n : Nat} {P : Program}

/-- What one round is asked: from the state s, told x, it goes on to a state or it leaves by a return. -/
def roundEnd {σ : Type} (Kp : World → World → Prop) (I : σ → World → Prop) (Ix : World → Prop) (nx : Option σ) (W : World) : Exit → Act → World → Prop
  | .normal, _, W' => ∃ s', nx = some s' ∧ KeepsOthers W W' ∧ Kp W W' ∧ I s' W'
  | .ret, _, W' => nx = none ∧ KeepsOthers W W' ∧ Ix W'
  | _, _, _ => False

/-- What yield is asked. -/
def told {σ : Type} (Kp : World → World → Prop) (J : σ → World → Prop) (Jx : World → Prop) (nx : Option σ) (W : World) (e : Ending) (W' : World) : Prop :=
  (∃ s', nx = some s' ∧ e = .returned (.bool true) ∧ J s' W' ∧ Kp W W') ∨ (nx = none ∧ e = .returned (.bool false) ∧ Jx W')

/-- What the iterator's value promises to such a body. -/
def Steps {σ α : Type} (F : Fence) (n : Nat) (P : Program) (g : Nat) (lb : Array Value) (encs : α → Array Value) (Kp : World → World → Prop) (Adm : σ → α → Prop) (next : σ → α → Option σ) (s0 : σ) (res : Option σ) (Qw : World → Prop) (w : World) : Prop :=
  ∀ (l : Nat) (J : σ → World → Prop) (Jx : World → Prop) (W : World), Below w.heap.size w W → (∀ s W o, J s W → J s (W.alloc o)) → (∀ s W, J s W → w.heap.size + 2 ≤ W.heap.size ∧ Qw W) →
    (∀ s x W1, J s W1 → Adm s x → YieldAt F (n - 1) P l (encs x) W1 (told Kp J Jx (next s x) W1)) → J s0 W →
    CallsIn F n P g (#[.func (.yield l) #[] #[]] ++ lb) W fun e W' => (∃ v, e = .returned v) ∧ ((∃ s, res = some s ∧ J s W') ∨ (res = none ∧ Jx W'))

theorem range_steps {σ α : Type} {g : Operand} {ps : Array Tmp} {assign body : Code} {Q : Exit → Act → World → Prop} {a : Act} {w : World}
    (hro : F.round = none) (h1 : 1 ≤ n) {gf : Nat} {lb : Array Value} (hg : a.eval g = .func (.func gf) #[] lb) (hFg : F.fn gf) (eg : ∀ args w, (callFunc gf args).run P w = .ok (.enter gf args) w)
    {encs : α → Array Value} {Kp : World → World → Prop} {Adm : σ → α → Prop} {next : σ → α → Option σ} {s0 : σ} {res : Option σ} {Qw : World → Prop} (hKt : ∀ {A B C : World}, Kp A B → Kp B C → Kp A C) (hKb : ∀ (W : World) (o o' : Obj), W.heap[w.heap.size + 1]? = some o → o.isCells = false → Kp W (W.putObj (w.heap.size + 1) o')) (hseq : Steps F (n - 1) P gf lb encs Kp Adm next s0 res Qw w) (hps : ∀ x, (encs x).size = ps.size)
    (I : σ → World → Prop) (Ix : World → Prop) (hI : OwnFrom w.heap.size I) (hIx : OwnFrom w.heap.size (fun (_ : Unit) => Ix)) (h0 : I s0 w) (hQ : ∀ s W, I s W → Qw W) (a₁ : α → Act)
    (hassign : ∀ (l : Nat) (x : α) (W : World) (K : Act → World → Prop), K (a₁ x) W →
      assign.wpIn (F.inRound l) (n - 1 - 1) P (Exit.then K (fun _ _ _ => False)) { tmps := (ps.zip (encs x)).foldl (fun t (p, v) => t.setIfInBounds p v) a.tmps, defers := [] } W)
    (hbody : ∀ (l : Nat) (s : σ) (x : α) (W : World), I s W → Adm s x → body.wpIn (F.inRound l) (n - 1 - 1) P (roundEnd Kp I Ix (next s x) W) (a₁ x) W)
    (hdone : ∀ (D : Nat) (s : σ) (W : World), w.heap.size ≤ D → res = some s → I s W → W.heap[D]? = some (.deferred (some [])) → Q .normal { a with defers := { target := .collected D, args := #[] } :: a.defers } W)
    (hstop : ∀ (D : Nat) (W : World), w.heap.size ≤ D → res = none → Ix W → W.heap[D]? = some (.deferred (some [])) → Code.ret.wpIn F n P Q { a with defers := { target := .collected D, args := #[] } :: a.defers } W) :
    (Code.rangeFunc g ps assign body).wpIn F n P Q a w := by
  refine wpIn_rangeFunc ?_
  intro fn hfn
  rw [hro]
  let rec0 : LoopState → Option Code → Loop := fun st pe => { state := st, pending := pe, fn, tmps := a.tmps, params := ps, assign, body, defers := w.heap.size }
  obtain ⟨W1, hW1⟩ : ∃ W1, (w.alloc (.deferred (some []))).alloc (.loop (rec0 .ready none)) = W1 := ⟨_, rfl⟩
  have hL1 : W1.heap[w.heap.size + 1]? = some (.loop (rec0 .ready none)) := by
    rw [← hW1]
    have := World.alloc_heap_new (w.alloc (.deferred (some []))) (.loop (rec0 .ready none))
    rwa [World.size_alloc] at this
  have hD1 : W1.heap[w.heap.size]? = some (.deferred (some [])) := by
    rw [← hW1]; exact (Below.heap_alloc _ _ _ (by simp)).trans (World.alloc_heap_new w _)
  have hb1 : Below w.heap.size w W1 := by
    rw [← hW1]; exact ((Below.refl _ w).alloc (Nat.le_refl _) _).alloc (by simp) _
  have hI1 : I s0 W1 := by rw [← hW1]; exact hI.alloc _ (hI.alloc _ h0)
  have hIx' : ∀ {W : World} {o : Obj} (o' : Obj), Ix W → W.heap[w.heap.size + 1]? = some o → o.isCells = false → Ix (W.putObj (w.heap.size + 1) o') := fun o' h hl ho => OwnFrom.putObj (I := fun (_ : Unit) => Ix) hIx (s := ()) o' h (by omega) hl ho
  refine ⟨w.heap.size + 1, [{ target := .collected w.heap.size, args := #[] }], W1, { target := .fn (.func gf) lb, args := #[.func (.yield (w.heap.size + 1)) #[] #[]] }, W1, gf,
    #[.func (.yield (w.heap.size + 1)) #[] #[]] ++ lb, W1, by rw [← hW1]; exact run_enterLoop_outer _ _ _ _ _, ?_, ?_, ?_, fun _ => h1, ?_⟩
  · simp only [resolve, hg]; simp [go_sem]
  · intro f' hf'; simp [Target.leads] at hf'; subst hf'; exact hFg
  · simp [invoke, go_sem, eg]
  · let Bk : LoopState → Option Code → World → Prop := fun st pe W => W.heap[w.heap.size + 1]? = some (.loop (rec0 st pe)) ∧ W.heap[w.heap.size]? = some (.deferred (some []))
    refine (hseq (w.heap.size + 1) (fun s W => I s W ∧ Bk .ready none W) (fun W => Ix W ∧ Bk .done (some .ret) W) W1 hb1 ?_ (fun s W h => ⟨(Array.getElem?_eq_some_iff.1 h.2.1).1, hQ s W h.1⟩) ?_ ⟨hI1, hL1, hD1⟩).mono ?_
    · rintro s W o ⟨hi, hl, hd⟩
      exact ⟨hI.alloc _ hi, (Below.heap_alloc _ _ _ (Array.getElem?_eq_some_iff.1 hl).1).trans hl, (Below.heap_alloc _ _ _ (Array.getElem?_eq_some_iff.1 hd).1).trans hd⟩
    · rintro s x W ⟨hi, hl, hd⟩ hadm
      have hlt : w.heap.size + 1 < W.heap.size := (Array.getElem?_eq_some_iff.1 hl).1
      have hy := run_yield (P := P) (args := encs x) hl (hps x)
      refine ⟨fn, _, assign, body, hy, roundIn_of_wpIn hfn (hassign _ x W _ ⟨_, run_beginRound hl rfl, ?_⟩)⟩
      have hlb : (W.putObj (w.heap.size + 1) (.loop { rec0 .ready none with state := .busy })).heap[w.heap.size + 1]? = some (.loop (rec0 .busy none)) := World.putObj_heap_same hlt
      have hdb : (W.putObj (w.heap.size + 1) (.loop { rec0 .ready none with state := .busy })).heap[w.heap.size]? = some (.deferred (some [])) := (World.putObj_heap_other (by omega)).trans hd
      have hbb : Kp W (W.putObj (w.heap.size + 1) (.loop { rec0 .ready none with state := .busy })) := hKb _ _ _ hl rfl
      have fin : ∀ (jump : Option Code) (W3 : World), KeepsOthers (W.putObj (w.heap.size + 1) (.loop { rec0 .ready none with state := .busy })) W3 →
          (Instr.endRound (w.heap.size + 1) jump).run P W3 = .ok (.bool jump.isNone) (W3.putObj (w.heap.size + 1) (.loop (rec0 (if jump.isNone then .ready else .done) jump))) ∧
          W3.heap[w.heap.size + 1]? = some (.loop (rec0 .busy none)) ∧ Bk (if jump.isNone then .ready else .done) jump (W3.putObj (w.heap.size + 1) (.loop (rec0 (if jump.isNone then .ready else .done) jump))) := fun jump W3 hk => by
        have hl3 := hk.same _ _ hlb rfl
        exact ⟨run_endRound (P := P) jump hl3, hl3, World.putObj_heap_same (Array.getElem?_eq_some_iff.1 hl3).1, (World.putObj_heap_other (by omega)).trans (hk.same _ _ hdb rfl)⟩
      refine wpIn_mono (hbody _ s x _ (hI.putObj _ hi (by omega) hl rfl) hadm) ?_
      rintro e a3 W3 hp
      cases e with
      | normal =>
        obtain ⟨s', hn, hk, hb3, hi3⟩ := hp
        obtain ⟨hr, hl3, hbk⟩ := fin none W3 hk
        exact ⟨_, _, hr, .inl ⟨s', hn, rfl, ⟨hI.putObj _ hi3 (by omega) hl3 rfl, hbk⟩, hKt (hKt hbb hb3) (hKb _ _ _ hl3 rfl)⟩⟩
      | ret =>
        obtain ⟨hn, hk, hi3⟩ := hp
        obtain ⟨hr, hl3, hbk⟩ := fin (some .ret) W3 hk
        exact ⟨_, _, hr, .inr ⟨hn, rfl, hIx' _ hi3 hl3 rfl, hbk⟩⟩
      | exit id => exact hp.elim
      | goto t => exact hp.elim
      | panic ch => exact hp.elim
      | outgrown => exact hp.elim
    · rintro e W2 ⟨⟨v, rfl⟩, (⟨s, hres, hi, hl, hd⟩ | ⟨hres, hi, hl, hd⟩)⟩
      · exact ⟨none, _, run_endLoop (P := P) hl (by simp [rec0]), hdone _ s _ (Nat.le_refl _) hres (hI.putObj _ hi (by omega) hl rfl) ((World.putObj_heap_other (by omega)).trans hd)⟩
      · exact ⟨some .ret, _, run_endLoop (P := P) hl (by simp [rec0]), hstop _ _ (Nat.le_refl _) hres (hIx' _ hi hl rfl) ((World.putObj_heap_other (by omega)).trans hd)⟩

/-- What lies below n₀ is kept, and whatever lies elsewhere and is not the body's own. -/
def KeepsBut (n₀ : Nat) (Mine : World → Nat → Prop) (W W' : World) : Prop := Below n₀ W W' ∧ ∀ g, g < W.heap.size → ¬ Mine W g → W'.heap[g]? = W.heap[g]? ∧ ¬ Mine W' g
theorem KeepsBut.trans {n₀ : Nat} {Mine : World → Nat → Prop} {A B C : World} (h : KeepsBut n₀ Mine A B) (k : KeepsBut n₀ Mine B C) : KeepsBut n₀ Mine A C :=
  ⟨h.1.trans k.1, fun g hg hm => by
    obtain ⟨h1, h2⟩ := h.2 g hg hm
    obtain ⟨k1, k2⟩ := k.2 g (Nat.lt_of_lt_of_le hg h.1.size) h2
    exact ⟨k1.trans h1, k2⟩⟩

end Go.Proofs.YtpbkkjiikhjanaaGreatDoor

/-
  What a range over a function's body keeps: rows of one type apart from the rest; a number appended there; boxes that are read backward.
-/
namespace Go.Proofs.YtpbkkjiikhjanaaGreatDoor
open Go.RowKit Go.Shelf Exs
attribute [local go_sem] Oper.semAt_some

/-- A block of another type than a row's is not where that row lies. -/
theorem apart {w : World} {B e size n : Nat} {v : Value} {xs : List Value} (h : w.ownsRow B e size v n xs) {g : Nat} {cs : Array Value} {t : TypeId} {fz : Nat × Nat} (hg : w.heap[g]? = some (.cells cs t fz)) (ht : t ≠ e) : some g ≠ v.ownBlock := by
  rcases h.2 with ⟨rfl, _⟩ | ⟨g', cap, cur, rfl, _, hh, _⟩
  · exact fun e => by cases e
  · intro e1
    have e2 : g = g' := by injection e1
    subst e2
    rw [hg] at hh
    injection hh with hh
    injection hh with _ hh _
    exact ht hh
theorem Keep.apart {w w' : World} {B e size n : Nat} {v : Value} {xs : List Value} {g : Nat} {cs : Array Value} {t : TypeId} (h : Keep w g cs t) (hg : w.grownBy w' v.ownBlock) (ho : w.ownsRow B e size v n xs) (ht : t ≠ e) : Keep w' g cs t := (hg.block g h.lt (Go.Proofs.YtpbkkjiikhjanaaGreatDoor.apart ho h ht)).trans h
theorem ownsRow_apart {w w' : World} {B e size n B' e' size' n' : Nat} {v v' : Value} {xs xs' : List Value} (h : w.ownsRow B e size v n xs) (hg : w.grownBy w' v'.ownBlock) (ho : w.ownsRow B' e' size' v' n' xs') (ht : e ≠ e') : w'.ownsRow B e size v n xs := by
  refine ⟨h.1, ?_⟩
  rcases h.2 with h0 | ⟨g, cap, cur, hv, hB, hh, r⟩
  · exact .inl h0
  · exact .inr ⟨g, cap, cur, hv, hB, (hg.block g (Array.getElem?_eq_some_iff.1 hh).1 (apart ho hh ht)).trans hh, r⟩

theorem slice_of {w : World} {B e size n : Nat} {v : Value} {xs : List Value} (h : w.ownsRow B e size v n xs) : ∃ A n c, v = .slice A n c := by
  rcases h.2 with ⟨rfl, _⟩ | ⟨g, cap, cur, rfl, _⟩
  · exact ⟨_, _, _, rfl⟩
  · exact ⟨_, _, _, rfl⟩
theorem row_cells {w : World} {B e size n : Nat} {v : Value} {xs : List Value} (h : w.ownsRow B e size v n xs) : ∀ (j : Nat) (o : Obj), v.ownBlock = some j → w.heap[j]? = some o → o.isCells = true := fun j o hj ho => by
  rcases h.2 with ⟨rfl, _⟩ | ⟨g, cap, cur, rfl, _, hg, _⟩
  · cases hj
  · have e : g = j := by simpa [Value.ownBlock] using hj
    subst e
    rw [hg] at ho
    injection ho with ho
    subst ho
    rfl
/-- Whatever is no row of one type lies as it lay. -/
def Same (e : TypeId) (W W' : World) : Prop := ∀ (b : Nat) (cs : Array Value) (t : TypeId) (fz : Nat × Nat), W.heap[b]? = some (Obj.cells cs t fz) → t ≠ e → W'.heap[b]? = W.heap[b]?
theorem Same.keep {e : TypeId} {W W' : World} {g : Nat} {cs : Array Value} {t : TypeId} (h : Same e W W') (hk : Keep W g cs t) (ht : t ≠ e) : Keep W' g cs t := (h g cs t (0, 0) hk ht).trans hk
theorem Same.row {e : TypeId} {W W' : World} {B t size n : Nat} {v : Value} {xs : List Value} (h : Same e W W') (hr : W.ownsRow B t size v n xs) (ht : t ≠ e) : W'.ownsRow B t size v n xs := by
  refine ⟨hr.1, ?_⟩
  rcases hr.2 with h0 | ⟨g, cap, cur, hv, hB, hh, r⟩
  · exact .inl h0
  · exact .inr ⟨g, cap, cur, hv, hB, (h g _ _ _ hh ht).trans hh, r⟩
theorem Same.set {W : World} {g : Nat} {cs : Array Value} {t : TypeId} (hk : Keep W g cs t) (i : Nat) (v : Value) : Same t W (W.setCell ⟨g, i, none⟩ v) := fun b cs' t' fz hb ht => Below.heap_setCell W _ v b (fun e => by
  have e : b = g := e
  subst e
  have hk : W.heap[b]? = _ := hk
  rw [hk] at hb
  injection hb with hb
  injection hb with _ hb _
  exact ht hb.symm)
theorem Same.grown {W W' : World} {B e size n : Nat} {v : Value} {xs : List Value} (hg : W.grownBy W' v.ownBlock) (ho : W.ownsRow B e size v n xs) : Same e W W' := fun b _ _ _ hb ht => hg.block b (Array.getElem?_eq_some_iff.1 hb).1 (apart ho hb ht)
theorem Same.below {e : TypeId} {W W' : World} (hb : Below W.heap.size W W') : Same e W W' := fun b _ _ _ h _ => hb.block b (Array.getElem?_eq_some_iff.1 h).1
theorem Same.trans {e : TypeId} {A B C : World} (h : Same e A B) (k : Same e B C) : Same e A C := fun b cs t fz hb ht => by
  have h1 := h b cs t fz hb ht
  exact (k b cs t fz (h1.trans hb) ht).trans h1
theorem Same.own {W W' : World} {row : Option Nat} (hg : W.grownBy W' row) (hr : ∀ r, row = some r → ∃ o : Obj, W.heap[r]? = some o ∧ o.isCells = false) : Same 1000000 W W' := fun b _ _ _ hb _ => hg.block b (Array.getElem?_eq_some_iff.1 hb).1 (fun e => by
  obtain ⟨o, ho, hc⟩ := hr b e.symm
  rw [hb] at ho
  injection ho with ho
  subst ho
  cases hc)


theorem wpListIn_num {F : Fence} {nF : Nat} {w : World} {ops : Array Oper} {rest : List Oper} {o : Oper} {a : Act} {Q : Exit → Act → World → Prop} (hgd : o.guard = none) (s x : Operand)
    (ho : o.op = .call { callee := .builtin .append, args := #[s, x], argTypes := #[26, 26] }) (B : Nat) (v : Value) (ts : List Int) (hs : a.eval s = v) (hB : B ≤ w.heap.size) (hown : Nums w B 3 .i64 v ts)
    (g : Nat) (p : Int) (hx : a.eval x = .slice (some ⟨g, 0, none⟩) 1 1) (hc : w.cell? ⟨g, 0, none⟩ = some (.int .i64 p)) (hlen : ts.length ≤ 2000000)
    (h : ∀ v' w', Nums w' B 3 .i64 v' (ts ++ [p]) → w.grownBy w' v.ownBlock → wpListIn F nF Tryz.prog ops Q rest (a.put o.dst v') w') : wpListIn F nF Tryz.prog ops Q (o :: rest) a w := by
  obtain ⟨i0, hi, hz0, hz1, hz2⟩ := info_parts Tryz.info3
  refine wpListIn_append_own_at w hgd s x 26 ho B 3 i0 (.int .i64 0) 1 8 Tryz.underlying26 hi hz0 hz1 hz2 rfl (by decide) v ts.length _ hs hown ⟨g, 0, none⟩ 1 1 [.int .i64 p] hx rfl ?_ ?_ (by unfold maxLen; omega) (by omega) hB ?_
  · intro j u hj
    match j, hj with
    | 0, hj => simp at hj; subst hj; simpa [Addr.add] using hc
  · intro u hu; simp at hu; subst hu; rfl
  · intro v' w' h2 h3 _ _
    refine h v' w' ?_ h3
    unfold Nums
    simpa using h2
/-- A box that holds a row, and the row's values where they lie. -/
def FixV (B : Nat) (A : Option Addr) (m c : Nat) (us : List Value) (W : World) : Prop :=
  W.cell? ⟨B, 0, none⟩ = some (.slice A m c) ∧ m = us.length ∧ ∀ j u, us[j]? = some u → ∃ g o, A = some ⟨g, o, none⟩ ∧ W.cell? ⟨g, o + j, none⟩ = some u

end Go.Proofs.YtpbkkjiikhjanaaGreatDoor

/-
  What a frame waits for, as the program has it: slices.Backward over its flags, and what it collects.
-/
namespace Go.Proofs.YtpbkkjiikhjanaaGreatDoor
open Go.RowKit Go.Shelf Exs
attribute [local go_sem] Oper.semAt_some

set_option maxRecDepth 100000 in
set_option maxHeartbeats 2000000 in
theorem backB_steps (F : Fence) (hd : F.depth = none) (n : Nat) (h52 : F.fn 121) (hro : F.round = none) (B : Nat) (A : Option Addr) (m c : Nat) (bs : List Bool) (hm : m ≤ 1048576) (w : World) :
    Steps F n Tryz.prog 121 #[.pointer (some ⟨B, 0, none⟩)] (fun x : Int × Bool => #[.int .i64 x.1, .bool x.2]) (fun _ _ => True) (fun k x => k < m ∧ x.1 = (m : Int) - 1 - (k : Int) ∧ bs[m - 1 - k]? = some x.2) (fun k _ => some (k + 1)) 0 (some m) (FixV B A m c (bs.map Value.bool)) w := by
  intro l J Jx W hW hJ hQ hY h0
  have hdd : ∀ k : Nat, (F.depth.isSome = true → 1 ≤ k) := fun k h => by rw [hd] at h; cases h
  have y0 := (hQ 0 W h0).2.1
  have hw0 : IntKind.i64.wrap ((m : Int) - 1) = (m : Int) - 1 := IntWalk.i64_in _ ⟨by omega, by omega⟩
  show CallsIn F n Tryz.prog 121 #[.func (.yield l) #[] #[], .pointer (some ⟨B, 0, none⟩)] W _
  refine callsIn_of_wp Tryz.func121 rfl h52 ?_ hro
  simp only [Tryz.ntmps121, List.size_toArray, List.length_cons, List.length_nil, Nat.reduceAdd, Nat.reduceSub, Array.replicate_succ, Array.replicate_zero, List.push_toArray, List.append_toArray, List.nil_append, List.cons_append]
  gi_wp2
  gi_loopw [3] (fun i wr => ∃ k : Nat, k ≤ m ∧ i = .int .i64 ((m : Int) - 1 - (k : Int)) ∧ J k wr) (fun i _ => (intOf i + 1).toNat)
  case atStart => exact ⟨0, Nat.zero_le _, by simp, h0⟩
  case round =>
    obtain ⟨k, hk, rfl, hJk⟩ := hrel
    clear y0
    by_cases hlt : k < m
    · obtain ⟨kk, hkk⟩ : ∃ kk : Nat, (m : Int) - 1 - (k : Int) = (kk : Int) := ⟨m - 1 - k, by omega⟩
      obtain ⟨z0, hml, hz⟩ := (hQ k wr hJk).2
      have hbl : m = bs.length := by simpa using hml
      obtain ⟨x, hx⟩ : ∃ x, bs[kk]? = some x := ⟨_, List.getElem?_eq_getElem (by omega)⟩
      obtain ⟨g, o, hA, hc⟩ := hz kk (.bool x) (by simp [hx])
      have hyy := hY k ((kk : Int), x) wr hJk ⟨hlt, hkk.symm, by rw [show m - 1 - k = kk by omega]; exact hx⟩
      have HKK := put hkk
      have hkm : kk < m := by omega
      have hwk : IntKind.i64.wrap ((kk : Int) - 1) = (kk : Int) - 1 := IntWalk.i64_in _ ⟨by omega, by omega⟩
      rw [hkk]
      subst hA
      obtain ⟨fn, tmps, assign, body, hy, hR⟩ := hyy
      clear hz hx hkk hml hbl hY hQ hJk
      gi_wp2_with ((try refine ⟨hdd _, ?_⟩); refine hR.mono ?_; clear hR; rintro e W2 (⟨_, ⟨⟩, rfl, hJ2, _⟩ | ⟨⟨⟩, _⟩))
      go_roundw
      case rel => exact ⟨k + 1, by omega, by have := HKK.out; congr 1; omega, hJ2⟩
      case measure => simp [intOf]
    · obtain rfl : k = m := by omega
      have hneg : (k : Int) - 1 - (k : Int) = -1 := by omega
      rw [hneg]
      gi_wp2
      go_end0
      exact ⟨⟨_, rfl⟩, .inl ⟨k, rfl, hJk⟩⟩

set_option maxRecDepth 100000 in
theorem backwardB_any (A : Option Addr) (n c : Nat) (w : World) : Calls Tryz.prog 93 #[.slice A n c] w fun e w' => e = .returned (.func (.func 121) #[] #[.pointer (some ⟨w.heap.size, 0, none⟩)]) ∧ w' = w.alloc (.cells #[.slice A n c] 107) := by
  go_enter Tryz.func93, Tryz.ntmps93
  go_wp2
  go_ret
  exact ⟨rfl, rfl⟩

/-- What is collected so far: a box with a row of the call's own. -/
structure SetS (w W : World) (A : Option Addr) (n c : Nat) (v : Value) (xs : List Int) : Prop where
  kS : Keep W w.heap.size #[v] 26
  kB : Keep W (w.heap.size + 1) #[.slice A n c] 107
  nu : Nums W w.heap.size 3 .i64 v xs
  bel : Below w.heap.size w W
theorem SetS.same {w W W' : World} {A : Option Addr} {n c : Nat} {v : Value} {xs : List Int} (h : SetS w W A n c v xs) (hs : Same 1000000 W W') (hb : Below w.heap.size W W') : SetS w W' A n c v xs :=
  ⟨hs.keep h.kS (by decide), hs.keep h.kB (by decide), hs.row h.nu (by decide), h.bel.trans hb⟩

set_option maxHeartbeats 4000000 in
set_option maxRecDepth 100000 in
theorem sites_any (A : Option Addr) (n c : Nat) (bs : List Bool) (w : World) (hr : ReadsB w w.heap.size A n bs) (hn : n ≤ 1048576) :
    Calls Tryz.prog 62 #[.slice A n c] w fun e w' => ∃ v, e = .returned v ∧ Nums w' w.heap.size 3 .i64 v (wtL bs) ∧ Below w.heap.size w w' := by
  have HLN := put hr.1
  have HE := put (wtF_end (show bs.length ≤ n by rw [hr.1]; exact Nat.le_refl _))
  have hfix : ∀ W, Below w.heap.size w W → Keep W (w.heap.size + 1) #[.slice A n c] 107 → FixV (w.heap.size + 1) A n c (bs.map Value.bool) W := fun W hW hk => by
    refine ⟨by have := hk.cell 0; simpa using this, by simp [hr.1], fun j u hu => ?_⟩
    obtain ⟨x, hx, rfl⟩ : ∃ x, bs[j]? = some x ∧ Value.bool x = u := by simpa [List.getElem?_map] using hu
    have hjn : j < n := by rw [← hr.1]; exact (List.getElem?_eq_some_iff.1 hx).1
    obtain ⟨b, off, y, hA, hb, hc, hy⟩ := (hr.below hW).at_ hjn
    have e : x = y := by have := hy.out; rw [hx] at this; injection this
    exact ⟨b, off, hA, by rw [e]; exact hc⟩
  have HFX := put hfix
  clear hfix
  refine (callsIn_wide (n := 5)).1 ?_
  refine callsIn_of_wp_marks Tryz.func62 rfl trivial ?_ rfl
  simp only [Tryz.ntmps62, List.size_toArray, List.length_cons, List.length_nil, Nat.reduceAdd, Nat.reduceSub, Array.replicate_succ, Array.replicate_zero, List.push_toArray, List.append_toArray, List.nil_append, List.cons_append]
  refine wpIn_wide.2 ?_
  have hb0 : Below w.heap.size w (w.alloc (.cells #[.slice none 0 0] 26)) := (Below.refl _ _).alloc (Nat.le_refl _) _
  have k0 := Keep.new w #[.slice none 0 0] 26
  have hs0 : (w.alloc (.cells #[.slice none 0 0] 26)).heap.size = w.heap.size + 1 := by simp
  go_wp2_with fail
  generalize hW : w.alloc (.cells #[.slice none 0 0] 26) = W0 at hb0 k0 hs0 ⊢
  clear hW
  refine (backwardB_any A n c W0).mono ?_
  rintro e w9 ⟨rfl, rfl⟩
  rw [hs0]
  have kB := Keep.new W0 #[.slice A n c] 107
  rw [hs0] at kB
  have s9 : SetS w (W0.alloc (.cells #[.slice A n c] 107)) A n c (.slice none 0 0) [] := ⟨k0.alloc _, kB, Nums.nil _ _ _ _, hb0.alloc hb0.size _⟩
  have hs9 : (W0.alloc (.cells #[.slice A n c] 107)).heap.size = w.heap.size + 2 := by simp [hs0]
  clear k0 kB hb0
  generalize W0.alloc (.cells #[.slice A n c] 107) = W9 at s9 hs9 ⊢
  go_wp2_with fail
  have hww : w.heap.size ≤ W9.heap.size := s9.bel.size
  refine (wpIn_wide (n := 5)).1 ?_
  refine' range_steps (F := Fence.wide) (n := 5) (encs := fun x : Int × Bool => #[.int .i64 x.1, .bool x.2]) (Adm := fun (k : Nat) (x : Int × Bool) => k < n ∧ x.1 = (n : Int) - 1 - (k : Int) ∧ bs[n - 1 - k]? = some x.2) (next := fun k _ => some (k + 1)) (s0 := 0) (res := some n) (Qw := FixV (w.heap.size + 1) A n c (bs.map Value.bool)) (Kp := fun _ _ => True) rfl (by omega) (gf := 121) (lb := #[.pointer (some ⟨w.heap.size + 1, 0, none⟩)]) rfl trivial (enters_of Tryz.func121 (by kernel_rfl) rfl) (fun _ _ => trivial) (fun _ _ _ _ _ => trivial) (backB_steps Fence.wide rfl _ trivial rfl (w.heap.size + 1) A n c bs hn W9) (fun _ => rfl)
    (fun k W => ∃ v, k ≤ n ∧ SetS w W A n c v (wtF bs (n - k)) ∧ W9.heap.size ≤ W.heap.size)
    (fun _ => False) ?hI (fun _ _ _ _ h _ _ => h) ⟨_, Nat.zero_le _, by rw [Nat.sub_zero, HE.out]; exact s9, Nat.le_refl _⟩ ?hQ _ ?assign ?body ?done (fun _ _ _ _ h _ => h.elim)
  case hI =>
    rintro k W W' row ⟨v, hk, h, hs⟩ hg hr'
    have sm := Same.own hg fun r e => (hr' r e).2
    exact ⟨v, hk, h.same sm ((Below.refl _ W).grown hg h.bel.size fun j e => by have := (hr' j e).1; omega), Nat.le_trans hs hg.size⟩
  case hQ =>
    rintro k W ⟨v, _, h, _⟩
    exact HFX.out W h.bel h.kB
  case assign =>
    intro l x W K hK
    gi_wp2
    exact hK
  case body =>
    rintro l k ⟨x, y⟩ W ⟨v, _, h, hsW⟩ ⟨hkn, hx, hy⟩
    replace hx : x = (n : Int) - 1 - (k : Int) := hx
    replace hy : bs[n - 1 - k]? = some y := hy
    have hxn : x = ((n - 1 - k : Nat) : Int) := by omega
    have e1 : n - 1 - k + 1 = n - k := by omega
    have e2 : n - (k + 1) = n - 1 - k := by omega
    have y0 := h.kS.cell 0
    simp at y0
    cases y
    · have HS := put (wtF_not hy)
      rw [e1] at HS
      gi_wp2
      exact ⟨k + 1, rfl, KeepsOthers.refl _, trivial, v, by omega, by rw [e2, HS.out]; exact h, hsW⟩
    · have HS := put (wtF_set hy)
      rw [e1] at HS
      have hxl : (wtF bs (n - k)).length ≤ 2000000 := by have h1 := wtF_length bs (n - k); have h2 := HLN.out; omega
      have f0 := h.kS.frozen 0
      have hA := Nums.alloc h.nu (.cells #[.int .i64 x] 3)
      have hkA := h.kS.alloc (.cells #[.int .i64 x] 3)
      have hkB := h.kB.alloc (.cells #[.int .i64 x] 3)
      have hbA := h.bel.alloc h.bel.size (.cells #[.int .i64 x] 3)
      have ko1 := KeepsOthers.alloc W (.cells #[.int .i64 x] 3)
      have hbase : w.heap.size ≤ W.heap.size + 1 := by have := h.bel.size; omega
      have l0 := (Keep.new W #[.int .i64 x] 3).cell 0
      simp only [List.getElem?_toArray, List.getElem?_cons_zero] at l0
      have HX := put hxn
      have hlt1 := h.kS.lt
      clear h hx hxn hy
      gi_wp2_with (
        gi_at_builtin
        refine wpListIn_num rfl _ _ rfl w.heap.size _ (wtF bs (n - k)) rfl (by simpa using hbase) hA W.heap.size x rfl l0 hxl ?_
        intro v5 w5 hn5 hg5
        obtain ⟨A5, n5, c5, rfl⟩ := slice_of hn5
        have k5 := hkA.apart hg5 hA (by decide)
        have f5 := k5.frozen 0
        have x5 := k5.cell 0
        have ko5 := (ko1.trans (KeepsOthers.of_grownBy hg5 (row_cells hA))).trans (KeepsOthers.setCell w5 ⟨w.heap.size, 0, none⟩ (.slice A5 n5 c5))
        have k6 : Keep (w5.setCell ⟨w.heap.size, 0, none⟩ (.slice A5 n5 c5)) w.heap.size #[.slice A5 n5 c5] 26 := by simpa using k5.set 0 (.slice A5 n5 c5)
        have sm : Same 26 w5 (w5.setCell ⟨w.heap.size, 0, none⟩ (.slice A5 n5 c5)) := .set k5 0 (.slice A5 n5 c5)
        have n6 : Nums (w5.setCell ⟨w.heap.size, 0, none⟩ (.slice A5 n5 c5)) w.heap.size 3 .i64 (.slice A5 n5 c5) (wtF bs (n - k) ++ [x]) := sm.row hn5 (by decide)
        have kB6 := (hkB.apart hg5 hA (by decide)).other (g' := w.heap.size) (by omega) 0 (.slice A5 n5 c5)
        have b6 := (hbA.grown hg5 hbA.size fun j e => (World.ownsRow.lt hA j e).1).setCell (p := ⟨w.heap.size, 0, none⟩) (Nat.le_refl _) (.slice A5 n5 c5)
        simp only [List.getElem?_toArray, List.getElem?_cons_zero] at x5
        clear sm hA hkA hkB hbA ko1 hg5 hn5 k5)
      exact ⟨k + 1, rfl, ko5, trivial, _, by omega, ⟨k6, kB6, by rw [e2, HS.out, ← HX.out]; exact n6, b6⟩, Nat.le_trans hsW ko5.size⟩
  case done =>
    rintro D k W hD hres ⟨v, _, h, hsW⟩ hK
    have hkm : n = k := Option.some.inj hres
    subst hkm
    have hZD : w.heap.size ≠ D := by omega
    have y0 := h.kS.cell 0
    simp at y0
    have hDw : w.heap.size ≤ D := by omega
    have nF : Nums W w.heap.size 3 .i64 v (wtL bs) := by have := h.nu; rwa [Nat.sub_self] at this
    have ow : ∀ o, Nums (W.putObj D o) w.heap.size 3 .i64 v (wtL bs) := fun o => (Same.own (grownBy_putObj' W D o) (fun r e => by cases e; exact ⟨_, hK, rfl⟩)).row nF (by decide)
    have bG : ∀ o, Below w.heap.size w (W.putObj D o) := fun o => h.bel.grown (grownBy_putObj' W D o) h.bel.size (fun j e => by cases e; exact hDw)
    clear h nF hres hsW
    go_wp2
    refine ⟨by simp, .inl ⟨_, _, rfl, run_takeDeferred hK, ?_⟩⟩
    exact ⟨v, by simp [results, Tryz.results62, go_sem], v, rfl, ow _, bG _⟩

end Go.Proofs.YtpbkkjiikhjanaaGreatDoor

/-
  A range over a function whose rounds are steps of a state: the loop's body says at each value whether it goes on, and the iterator need not serve bodies that go on elsewhere. Over any program.
-/
import Derived.RangeFuncNested
import Derived.RangeFuncBound
import Derived.RangeFuncLeaves
import Derived.RangeFuncFrom
namespace Go.Proofs.Ytaogdaoiijmmhaa
open Go.RowKit

variable {F : Fence} {n : Nat} {P : Program}

/-- What one round is asked: from the state s, told x, it goes on to a state or it leaves by a return. -/
def roundEnd {σ : Type} (Kp : World → World → Prop) (I : σ → World → Prop) (Ix : World → Prop) (nx : Option σ) (W : World) : Exit → Act → World → Prop
  | .normal, _, W' => ∃ s', nx = some s' ∧ KeepsOthers W W' ∧ Kp W W' ∧ I s' W'
  | .ret, _, W' => nx = none ∧ KeepsOthers W W' ∧ Ix W'
  | _, _, _ => False

/-- What yield is asked. -/
def told {σ : Type} (Kp : World → World → Prop) (J : σ → World → Prop) (Jx : World → Prop) (nx : Option σ) (W : World) (e : Ending) (W' : World) : Prop :=
  (∃ s', nx = some s' ∧ e = .returned (.bool true) ∧ J s' W' ∧ Kp W W') ∨ (nx = none ∧ e = .returned (.bool false) ∧ Jx W')

/-- What the iterator's value promises to such a body. -/
def Steps {σ α : Type} (F : Fence) (n : Nat) (P : Program) (g : Nat) (lb : Array Value) (encs : α → Array Value) (Kp : World → World → Prop) (Adm : σ → α → Prop) (next : σ → α → Option σ) (s0 : σ) (res : Option σ) (Qw : World → Prop) (w : World) : Prop :=
  ∀ (l : Nat) (J : σ → World → Prop) (Jx : World → Prop) (W : World), Below w.heap.size w W → (∀ s W o, J s W → J s (W.alloc o)) → (∀ s W, J s W → w.heap.size + 2 ≤ W.heap.size ∧ Qw W) →
    (∀ s x W1, J s W1 → Adm s x → YieldAt F (n - 1) P l (encs x) W1 (told Kp J Jx (next s x) W1)) → J s0 W →
    CallsIn F n P g (#[.func (.yield l) #[] #[]] ++ lb) W fun e W' => (∃ v, e = .returned v) ∧ ((∃ s, res = some s ∧ J s W') ∨ (res = none ∧ Jx W'))

theorem range_steps {σ α : Type} {g : Operand} {ps : Array Tmp} {assign body : Code} {Q : Exit → Act → World → Prop} {a : Act} {w : World}
    (hro : F.round = none) (h1 : 1 ≤ n) {gf : Nat} {lb : Array Value} (hg : a.eval g = .func (.func gf) #[] lb) (hFg : F.fn gf) (eg : ∀ args w, (callFunc gf args).run P w = .ok (.enter gf args) w)
    {encs : α → Array Value} {Kp : World → World → Prop} {Adm : σ → α → Prop} {next : σ → α → Option σ} {s0 : σ} {res : Option σ} {Qw : World → Prop} (hKt : ∀ {A B C : World}, Kp A B → Kp B C → Kp A C) (hKb : ∀ (W : World) (o o' : Obj), W.heap[w.heap.size + 1]? = some o → o.isCells = false → Kp W (W.putObj (w.heap.size + 1) o')) (hseq : Steps F (n - 1) P gf lb encs Kp Adm next s0 res Qw w) (hps : ∀ x, (encs x).size = ps.size)
    (I : σ → World → Prop) (Ix : World → Prop) (hI : OwnFrom w.heap.size I) (hIx : OwnFrom w.heap.size (fun (_ : Unit) => Ix)) (h0 : I s0 w) (hQ : ∀ s W, I s W → Qw W) (a₁ : α → Act)
    (hassign : ∀ (l : Nat) (x : α) (W : World) (K : Act → World → Prop), K (a₁ x) W →
      assign.wpIn (F.inRound l) (n - 1 - 1) P (Exit.then K (fun _ _ _ => False)) { tmps := (ps.zip (encs x)).foldl (fun t (p, v) => t.setIfInBounds p v) a.tmps, defers := [] } W)
    (hbody : ∀ (l : Nat) (s : σ) (x : α) (W : World), I s W → Adm s x → body.wpIn (F.inRound l) (n - 1 - 1) P (roundEnd Kp I Ix (next s x) W) (a₁ x) W)
    (hdone : ∀ (D : Nat) (s : σ) (W : World), w.heap.size ≤ D → res = some s → I s W → W.heap[D]? = some (.deferred (some [])) → Q .normal { a with defers := { target := .collected D, args := #[] } :: a.defers } W)
    (hstop : ∀ (D : Nat) (W : World), w.heap.size ≤ D → res = none → Ix W → W.heap[D]? = some (.deferred (some [])) → Code.ret.wpIn F n P Q { a with defers := { target := .collected D, args := #[] } :: a.defers } W) :
    (Code.rangeFunc g ps assign body).wpIn F n P Q a w := by
  refine wpIn_rangeFunc ?_
  intro fn hfn
  rw [hro]
  let rec0 : LoopState → Option Code → Loop := fun st pe => { state := st, pending := pe, fn, tmps := a.tmps, params := ps, assign, body, defers := w.heap.size }
  obtain ⟨W1, hW1⟩ : ∃ W1, (w.alloc (.deferred (some []))).alloc (.loop (rec0 .ready none)) = W1 := ⟨_, rfl⟩
  have hL1 : W1.heap[w.heap.size + 1]? = some (.loop (rec0 .ready none)) := by
    rw [← hW1]
    have := World.alloc_heap_new (w.alloc (.deferred (some []))) (.loop (rec0 .ready none))
    rwa [World.size_alloc] at this
  have hD1 : W1.heap[w.heap.size]? = some (.deferred (some [])) := by
    rw [← hW1]; exact (Below.heap_alloc _ _ _ (by simp)).trans (World.alloc_heap_new w _)
  have hb1 : Below w.heap.size w W1 := by
    rw [← hW1]; exact ((Below.refl _ w).alloc (Nat.le_refl _) _).alloc (by simp) _
  have hI1 : I s0 W1 := by rw [← hW1]; exact hI.alloc _ (hI.alloc _ h0)
  have hIx' : ∀ {W : World} {o : Obj} (o' : Obj), Ix W → W.heap[w.heap.size + 1]? = some o → o.isCells = false → Ix (W.putObj (w.heap.size + 1) o') := fun o' h hl ho => OwnFrom.putObj (I := fun (_ : Unit) => Ix) hIx (s := ()) o' h (by omega) hl ho
  refine ⟨w.heap.size + 1, [{ target := .collected w.heap.size, args := #[] }], W1, { target := .fn (.func gf) lb, args := #[.func (.yield (w.heap.size + 1)) #[] #[]] }, W1, gf,
    #[.func (.yield (w.heap.size + 1)) #[] #[]] ++ lb, W1, by rw [← hW1]; exact run_enterLoop_outer _ _ _ _ _, ?_, ?_, ?_, fun _ => h1, ?_⟩
  · simp only [resolve, hg]; simp [go_sem]
  · intro f' hf'; simp [Target.leads] at hf'; subst hf'; exact hFg
  · simp [invoke, go_sem, eg]
  · let Bk : LoopState → Option Code → World → Prop := fun st pe W => W.heap[w.heap.size + 1]? = some (.loop (rec0 st pe)) ∧ W.heap[w.heap.size]? = some (.deferred (some []))
    refine (hseq (w.heap.size + 1) (fun s W => I s W ∧ Bk .ready none W) (fun W => Ix W ∧ Bk .done (some .ret) W) W1 hb1 ?_ (fun s W h => ⟨(Array.getElem?_eq_some_iff.1 h.2.1).1, hQ s W h.1⟩) ?_ ⟨hI1, hL1, hD1⟩).mono ?_
    · rintro s W o ⟨hi, hl, hd⟩
      exact ⟨hI.alloc _ hi, (Below.heap_alloc _ _ _ (Array.getElem?_eq_some_iff.1 hl).1).trans hl, (Below.heap_alloc _ _ _ (Array.getElem?_eq_some_iff.1 hd).1).trans hd⟩
    · rintro s x W ⟨hi, hl, hd⟩ hadm
      have hlt : w.heap.size + 1 < W.heap.size := (Array.getElem?_eq_some_iff.1 hl).1
      have hy := run_yield (P := P) (args := encs x) hl (hps x)
      refine ⟨fn, _, assign, body, hy, roundIn_of_wpIn hfn (hassign _ x W _ ⟨_, run_beginRound hl rfl, ?_⟩)⟩
      have hlb : (W.putObj (w.heap.size + 1) (.loop { rec0 .ready none with state := .busy })).heap[w.heap.size + 1]? = some (.loop (rec0 .busy none)) := World.putObj_heap_same hlt
      have hdb : (W.putObj (w.heap.size + 1) (.loop { rec0 .ready none with state := .busy })).heap[w.heap.size]? = some (.deferred (some [])) := (World.putObj_heap_other (by omega)).trans hd
      have hbb : Kp W (W.putObj (w.heap.size + 1) (.loop { rec0 .ready none with state := .busy })) := hKb _ _ _ hl rfl
      have fin : ∀ (jump : Option Code) (W3 : World), KeepsOthers (W.putObj (w.heap.size + 1) (.loop { rec0 .ready none with state := .busy })) W3 →
          (Instr.endRound (w.heap.size + 1) jump).run P W3 = .ok (.bool jump.isNone) (W3.putObj (w.heap.size + 1) (.loop (rec0 (if jump.isNone then .ready else .done) jump))) ∧
          W3.heap[w.heap.size + 1]? = some (.loop (rec0 .busy none)) ∧ Bk (if jump.isNone then .ready else .done) jump (W3.putObj (w.heap.size + 1) (.loop (rec0 (if jump.isNone then .ready else .done) jump))) := fun jump W3 hk => by
        have hl3 := hk.same _ _ hlb rfl
        exact ⟨run_endRound (P := P) jump hl3, hl3, World.putObj_heap_same (Array.getElem?_eq_some_iff.1 hl3).1, (World.putObj_heap_other (by omega)).trans (hk.same _ _ hdb rfl)⟩
      refine wpIn_mono (hbody _ s x _ (hI.putObj _ hi (by omega) hl rfl) hadm) ?_
      rintro e a3 W3 hp
      cases e with
      | normal =>
        obtain ⟨s', hn, hk, hb3, hi3⟩ := hp
        obtain ⟨hr, hl3, hbk⟩ := fin none W3 hk
        exact ⟨_, _, hr, .inl ⟨s', hn, rfl, ⟨hI.putObj _ hi3 (by omega) hl3 rfl, hbk⟩, hKt (hKt hbb hb3) (hKb _ _ _ hl3 rfl)⟩⟩
      | ret =>
        obtain ⟨hn, hk, hi3⟩ := hp
        obtain ⟨hr, hl3, hbk⟩ := fin (some .ret) W3 hk
        exact ⟨_, _, hr, .inr ⟨hn, rfl, hIx' _ hi3 hl3 rfl, hbk⟩⟩
      | exit id => exact hp.elim
      | goto t => exact hp.elim
      | panic ch => exact hp.elim
      | outgrown => exact hp.elim
    · rintro e W2 ⟨⟨v, rfl⟩, (⟨s, hres, hi, hl, hd⟩ | ⟨hres, hi, hl, hd⟩)⟩
      · exact ⟨none, _, run_endLoop (P := P) hl (by simp [rec0]), hdone _ s _ (Nat.le_refl _) hres (hI.putObj _ hi (by omega) hl rfl) ((World.putObj_heap_other (by omega)).trans hd)⟩
      · exact ⟨some .ret, _, run_endLoop (P := P) hl (by simp [rec0]), hstop _ _ (Nat.le_refl _) hres (hIx' _ hi hl rfl) ((World.putObj_heap_other (by omega)).trans hd)⟩

/-- What lies below n₀ is kept, and whatever lies elsewhere and is not the body's own. -/
def KeepsBut (n₀ : Nat) (Mine : World → Nat → Prop) (W W' : World) : Prop := Below n₀ W W' ∧ ∀ g, g < W.heap.size → ¬ Mine W g → W'.heap[g]? = W.heap[g]? ∧ ¬ Mine W' g
theorem KeepsBut.trans {n₀ : Nat} {Mine : World → Nat → Prop} {A B C : World} (h : KeepsBut n₀ Mine A B) (k : KeepsBut n₀ Mine B C) : KeepsBut n₀ Mine A C :=
  ⟨h.1.trans k.1, fun g hg hm => by
    obtain ⟨h1, h2⟩ := h.2 g hg hm
    obtain ⟨k1, k2⟩ := k.2 g (Nat.lt_of_lt_of_le hg h.1.size) h2
    exact ⟨k1.trans h1, k2⟩⟩

end Go.Proofs.Ytaogdaoiijmmhaa

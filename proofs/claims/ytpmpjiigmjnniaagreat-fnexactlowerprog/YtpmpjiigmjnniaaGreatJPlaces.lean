/-
  Texts joined: Places GPlaces.
-/
import Derived.Test.YtpmpjiigmjnniaaGreatJYield
import Derived.RangeFuncBox
import Derived.Test.YtpmpjiigmjnniaaGreatJNeeds
/-
  The program's iterator over a function's places, and its test that they are in order.
-/
namespace Go.Proofs.YtpmpjiigmjnniaaGreat
open Go.RowKit Go.Shelf Exs
attribute [local go_sem] Oper.semAt_some

set_option maxHeartbeats 1000000 in
theorem placesIn_in (F : Fence) (n : Nat) (h53 : F.fn 69) (hro : F.round = none) (f : Fc) (A1 : Option Addr) (n1 c1 : Nat) (A2 : Option Addr) (n2 c2 : Nat) (w : World) :
    CallsIn F n Tryz.prog 69 #[fcV f A1 n1 c1 A2 n2 c2] w fun e w' => e = .returned (.func (.func 85) #[] #[.pointer (some ⟨w.heap.size, 0, none⟩)]) ∧ w' = w.alloc (.cells #[.int .i64 f.params, .int .i64 f.vars, .slice A1 n1 c1, .slice A2 n2 c2] 59) := by
  unfold fcV
  refine callsIn_of_wp Tryz.func69 rfl h53 ?_ hro
  simp only [Tryz.ntmps69, List.size_toArray, List.length_cons, List.length_nil, Nat.reduceAdd, Nat.reduceSub, Array.replicate_succ, Array.replicate_zero, List.push_toArray, List.append_toArray, List.nil_append, List.cons_append]
  gi_wp2
  go_ret
  exact ⟨rfl, rfl⟩

set_option maxHeartbeats 1000000 in
set_option maxRecDepth 100000 in
/-- The iterator's value. -/
theorem places_steps (F : Fence) (hd : F.depth = none) (n : Nat) (h77 : F.fn 85) (h78 : F.fn 86) (hro : F.round = none) (B n₀ : Nat) (Mine : World → Nat → Prop) (Qw : World → Prop) (f : Fc) (A1 : Option Addr) (n1 c1 : Nat) (A2 : Option Addr) (n2 c2 : Nat) (st : Prop) (w : World)
    (hMa : ∀ W o g, g < W.heap.size → ¬ Mine W g → ¬ Mine (W.alloc o) g) (hMf : ∀ W o, w.heap.size + 2 ≤ W.heap.size → Qw W → ¬ Mine (W.alloc o) W.heap.size) (hn : n₀ ≤ w.heap.size) (hsm : SmallF f)
    (hB : Keep w B #[.int .i64 f.params, .int .i64 f.vars, .slice A1 n1 c1, .slice A2 n2 c2] 59) (hf : IsFc w n₀ f A1 n1 A2 n2) (hst : go f f.stmts.length f.body false 0 = none → st) :
    Steps F n Tryz.prog 85 #[.pointer (some ⟨B, 0, none⟩)] (fun x : Int × Bool => #[.int .i64 x.1, .bool x.2]) (KeepsBut n₀ Mine) (fun k x => okAt f k x.1 x.2 = true ∨ st) (stepTo f) 0 (go f f.stmts.length f.body false 0) Qw w := by
  intro l J Jx W hW hJ hQ hY h0
  have hdd : ∀ k : Nat, (F.depth.isSome = true → 1 ≤ k) := fun k h => by rw [hd] at h; cases h
  have hBW := hB.below hW
  have hfW := hf.below (hW.mono hn)
  have hcall := yieldBlock_in F hd h78 hro l n₀ Mine f A1 n1 c1 A2 n2 c2 J Jx st hJ hMa (fun k W o h => hMf W o (hQ k W h).1 (hQ k W h).2) hsm
    (fun m k x b W1 h1 h2 => YieldAt.free hd m (hY k (x, b) W1 h1 h2)) f.stmts.length (n - 1) f.body A1 n1 c1 false 0 W (by omega) (Nat.le_trans hn hW.size) (by rw [← hf.body.1]; exact hsm.1) hfW hfW.body h0 hst
  unfold fcV at hcall
  have y0 := hBW.cell 0
  have y1 := hBW.cell 1
  have y2 := hBW.cell 2
  have y3 := hBW.cell 3
  simp at y0 y1 y2 y3
  have H := put hcall
  clear hcall hY
  show CallsIn F n Tryz.prog 85 #[.func (.yield l) #[] #[], .pointer (some ⟨B, 0, none⟩)] W _
  refine callsIn_of_wp Tryz.func85 rfl h77 ?_ hro
  simp only [Tryz.ntmps85, List.size_toArray, List.length_cons, List.length_nil, Nat.reduceAdd, Nat.reduceSub, Array.replicate_succ, Array.replicate_zero, List.push_toArray, List.append_toArray, List.nil_append, List.cons_append]
  gi_wp2_with fail
  refine H.out.mono ?_
  rintro e W3 (⟨k1, hk1, rfl, hJ4, _⟩ | ⟨hk1, rfl, hx3⟩)
  · have HK := put hk1
    clear hk1 H
    gi_wp2
    go_end0
    exact ⟨⟨_, rfl⟩, .inl ⟨k1, HK.out, hJ4⟩⟩
  · have HK := put hk1
    clear hk1 H
    gi_wp2
    go_end0
    exact ⟨⟨_, rfl⟩, .inr ⟨HK.out, hx3⟩⟩

end Go.Proofs.YtpmpjiigmjnniaaGreat

/-
  The program's test that the places of a function are in order: its contract.
-/
namespace Go.Proofs.YtpmpjiigmjnniaaGreat
open Go.RowKit Go.Shelf Exs
attribute [local go_sem] Oper.semAt_some

def placesB (f : Fc) : Bool := decide (go f f.stmts.length f.body false 0 = some f.stmts.length)

theorem okAt_no {f : Fc} {k : Nat} {n : Int} {b : Bool} (h : okAt f k n b = false) : n ≠ k ∨ (n = k ∧ f.stmts.length ≤ k) ∨ (n = k ∧ ∃ s, f.stmts[k]? = some s ∧ b = true ∧ s.kind = 3) := by
  by_cases hn : n = k
  · subst hn
    cases hs : f.stmts[k]? with
    | none => exact .inr (.inl ⟨rfl, by simpa using hs⟩)
    | some s =>
      refine .inr (.inr ⟨rfl, s, rfl, ?_⟩)
      unfold okAt at h
      rw [hs] at h
      cases b <;> simp at h ⊢
      exact h
  · exact .inl hn
theorem Keep.own {w w' : World} {g : Nat} {cs : Array Value} {t : TypeId} {row : Option Nat} {B : Nat} (h : Keep w g cs t) (hg : w.grownBy w' row) (hr : ∀ r, row = some r → B ≤ r ∧ ∃ o : Obj, w.heap[r]? = some o ∧ o.isCells = false) : Keep w' g cs t := by
  refine (hg.block g h.lt ?_).trans h
  intro e
  obtain ⟨_, o, ho, hc⟩ := hr g e.symm
  unfold Keep at h
  rw [h] at ho
  injection ho with ho
  subst ho
  cases hc

set_option maxHeartbeats 2000000 in
set_option maxRecDepth 100000 in
theorem goodPlaces_any (f : Fc) (A1 : Option Addr) (n1 c1 : Nat) (A2 : Option Addr) (n2 c2 : Nat) (w : World) (hf : IsFc w w.heap.size f A1 n1 A2 n2) (hsm : SmallF f) :
    Calls Tryz.prog 76 #[fcV f A1 n1 c1 A2 n2 c2] w fun e w' => e = .returned (.bool (placesB f)) ∧ Below w.heap.size w w' := by
  refine (callsIn_wide (n := 5)).1 ?_
  refine callsIn_of_wp_marks Tryz.func76 rfl trivial ?_ rfl
  unfold fcV
  simp only [Tryz.ntmps76, List.size_toArray, List.length_cons, List.length_nil, Nat.reduceAdd, Nat.reduceSub, Array.replicate_succ, Array.replicate_zero, List.push_toArray, List.append_toArray, List.nil_append, List.cons_append]
  gi_wp2_with fail
  refine ⟨trivial, (placesIn_in Fence.wide _ trivial rfl f A1 n1 c1 A2 n2 c2 _).mono ?_⟩
  rintro e w' ⟨rfl, rfl⟩
  gi_wp2
  -- what lies where the loop begins
  have hkF := (((Keep.new w #[.int .i64 f.params, .int .i64 f.vars, .slice A1 n1 c1, .slice A2 n2 c2] 59).alloc (.cells #[.bool false] 4)).alloc (.cells #[.int .i64 0] 3)).alloc (.cells #[.int .i64 f.params, .int .i64 f.vars, .slice A1 n1 c1, .slice A2 n2 c2] 59)
  have hkR := ((Keep.new (w.alloc (.cells #[.int .i64 f.params, .int .i64 f.vars, .slice A1 n1 c1, .slice A2 n2 c2] 59)) #[.bool false] 4).alloc (.cells #[.int .i64 0] 3)).alloc (.cells #[.int .i64 f.params, .int .i64 f.vars, .slice A1 n1 c1, .slice A2 n2 c2] 59)
  have hkN := (Keep.new ((w.alloc (.cells #[.int .i64 f.params, .int .i64 f.vars, .slice A1 n1 c1, .slice A2 n2 c2] 59)).alloc (.cells #[.bool false] 4)) #[.int .i64 0] 3).alloc (.cells #[.int .i64 f.params, .int .i64 f.vars, .slice A1 n1 c1, .slice A2 n2 c2] 59)
  have hkB := Keep.new (((w.alloc (.cells #[.int .i64 f.params, .int .i64 f.vars, .slice A1 n1 c1, .slice A2 n2 c2] 59)).alloc (.cells #[.bool false] 4)).alloc (.cells #[.int .i64 0] 3)) #[.int .i64 f.params, .int .i64 f.vars, .slice A1 n1 c1, .slice A2 n2 c2] 59
  have hb0 : Below w.heap.size w ((((w.alloc (.cells #[.int .i64 f.params, .int .i64 f.vars, .slice A1 n1 c1, .slice A2 n2 c2] 59)).alloc (.cells #[.bool false] 4)).alloc (.cells #[.int .i64 0] 3)).alloc (.cells #[.int .i64 f.params, .int .i64 f.vars, .slice A1 n1 c1, .slice A2 n2 c2] 59)) :=
    ((((Below.refl _ _).alloc (Nat.le_refl _) _).alloc (by simp) _).alloc (by simp; omega) _).alloc (by simp; omega) _
  have hsz : ((((w.alloc (.cells #[.int .i64 f.params, .int .i64 f.vars, .slice A1 n1 c1, .slice A2 n2 c2] 59)).alloc (.cells #[.bool false] 4)).alloc (.cells #[.int .i64 0] 3)).alloc (.cells #[.int .i64 f.params, .int .i64 f.vars, .slice A1 n1 c1, .slice A2 n2 c2] 59)).heap.size = w.heap.size + 4 := by simp
  simp only [World.size_alloc] at hkR hkN hkB
  generalize hW0 : (((w.alloc (.cells #[.int .i64 f.params, .int .i64 f.vars, .slice A1 n1 c1, .slice A2 n2 c2] 59)).alloc (.cells #[.bool false] 4)).alloc (.cells #[.int .i64 0] 3)).alloc (.cells #[.int .i64 f.params, .int .i64 f.vars, .slice A1 n1 c1, .slice A2 n2 c2] 59) = W0 at hkF hkR hkN hkB hb0 hsz ⊢
  clear hW0
  refine range_steps (Adm := fun k (x : Int × Bool) => okAt f k x.1 x.2 = true ∨ True) (next := stepTo f) (s0 := 0) (res := go f f.stmts.length f.body false 0) (Qw := fun _ => True) (Kp := KeepsBut w.heap.size (fun _ g => w.heap.size ≤ g ∧ g < W0.heap.size + 2)) rfl (by omega) (gf := 85) (lb := #[.pointer (some ⟨w.heap.size + 1 + 1 + 1, 0, none⟩)]) rfl trivial (enters_of Tryz.func85 (by kernel_rfl) rfl)
    (fun h k => h.trans k) ?hKb
    (places_steps Fence.wide rfl _ trivial trivial rfl (w.heap.size + 1 + 1 + 1) w.heap.size _ _ f A1 n1 c1 A2 n2 c2 True W0 (fun W o g _ h => h) (fun W o h _ hm => by omega) hb0.size hsm hkB (hf.below hb0) (fun _ => trivial)) (fun _ => rfl)
    (fun k W => Keep W w.heap.size #[.int .i64 f.params, .int .i64 f.vars, .slice A1 n1 c1, .slice A2 n2 c2] 59 ∧ Keep W (w.heap.size + 1) #[.bool false] 4 ∧ Keep W (w.heap.size + 1 + 1) #[.int .i64 k] 3 ∧ k ≤ f.stmts.length ∧ Below w.heap.size w W)
    (fun W => Keep W (w.heap.size + 1) #[.bool false] 4 ∧ Below w.heap.size w W)
    ?hI ?hIx ⟨hkF, hkR, hkN, Nat.zero_le _, hb0⟩ (fun _ _ _ => trivial) (fun x => { tmps := #[Value.agg #[.int .i64 f.params, .int .i64 f.vars, .slice A1 n1 c1, .slice A2 n2 c2], .pointer (some ⟨w.heap.size, 0, none⟩), .pointer (some ⟨w.heap.size + 1, 0, none⟩), .pointer (some ⟨w.heap.size + 1 + 1, 0, none⟩), .int .i64 x.1, .bool x.2, .agg #[.int .i64 f.params, .int .i64 f.vars, .slice A1 n1 c1, .slice A2 n2 c2], .func (.func 85) #[] #[.pointer (some ⟨w.heap.size + 1 + 1 + 1, 0, none⟩)], .int .i64 x.1, .bool x.2, undef, undef, undef, undef, undef, undef, undef, undef, undef, undef, undef, undef, undef, undef, undef, undef, undef, undef, undef, undef, undef, undef, undef, undef, undef, undef, undef, undef, undef], defers := [] }) ?assign ?body ?done ?stop
  case hKb =>
    intro W o o' hl ho
    refine ⟨(Below.refl _ W).grown (grownBy_putObj' W _ o') (by have := (Array.getElem?_eq_some_iff.1 hl).1; omega) (fun k e => by cases e; omega), fun g _ hm => ⟨World.putObj_heap_other (fun e => hm (by omega)), hm⟩⟩
  case hI =>
    rintro k W W' row ⟨h1, h2, h3, h4, h5⟩ hg hr
    exact ⟨h1.own hg hr, h2.own hg hr, h3.own hg hr, h4, h5.grown hg h5.size (fun k e => by have := (hr k e).1; omega)⟩
  case hIx =>
    rintro _ W W' row ⟨h2, h5⟩ hg hr
    exact ⟨h2.own hg hr, h5.grown hg h5.size (fun k e => by have := (hr k e).1; omega)⟩
  case assign =>
    intro l x W K hK
    gi_wp2
    exact hK
  case body =>
    rintro l k ⟨x, b⟩ W ⟨h1, h2, h3, h4, h5⟩ _
    have y3 := h1.cell 3
    have yN := h3.cell 0
    have fN := h3.frozen 0
    have yR := h2.cell 0
    have fR := h2.frozen 0
    simp at y3 yN yR
    have HSZ := put hsz
    have hlen0 := hf.stmts.1
    have hlen := put hlen0
    clear hsz hkF hkR hkN hkB hb0
    cases hok : okAt f k x b with
    | true =>
      have HS := put (show stepTo f k (x, b) = some (k + 1) by simp [stepTo, hok])
      obtain ⟨hx, s, hs, hbk⟩ := okAt_some hok
      have hkl := (List.getElem?_eq_some_iff.1 hs).1
      subst hx
      obtain ⟨b2, off2, s', B1, m1, d1, B2, m2, d2, B3, m3, d3, hA2, hbb2, g0, g1, g2, g3, g4, r1, r2, r3, hx2⟩ := (hf.below h5).stmts.at_ (j := k) (by omega)
      obtain rfl : s = s' := by have := hx2.out; rw [hs] at this; injection this
      subst hA2
      have hwr : wrap64 ((k : Int) + 1) = ((k + 1 : Nat) : Int) := by have := hsm.2.1; unfold wrap64; omega
      have hN : Keep (W.setCell ⟨w.heap.size + 1 + 1, 0, none⟩ (.int .i64 (wrap64 ((k : Int) + 1)))) (w.heap.size + 1 + 1) #[.int .i64 ((k + 1 : Nat) : Int)] 3 := by
        have := h3.set 0 (.int .i64 (wrap64 ((k : Int) + 1)))
        rw [hwr] at this ⊢
        exact this
      have HE := put (show KeepsOthers W (W.setCell ⟨w.heap.size + 1 + 1, 0, none⟩ (.int .i64 (wrap64 ((k : Int) + 1)))) ∧ KeepsBut w.heap.size (fun _ g => w.heap.size ≤ g ∧ g < W0.heap.size + 2) W (W.setCell ⟨w.heap.size + 1 + 1, 0, none⟩ (.int .i64 (wrap64 ((k : Int) + 1)))) ∧
          Keep (W.setCell ⟨w.heap.size + 1 + 1, 0, none⟩ (.int .i64 (wrap64 ((k : Int) + 1)))) w.heap.size #[.int .i64 f.params, .int .i64 f.vars, .slice A1 n1 c1, .slice (some ⟨b2, off2, none⟩) n2 c2] 59 ∧ Keep (W.setCell ⟨w.heap.size + 1 + 1, 0, none⟩ (.int .i64 (wrap64 ((k : Int) + 1)))) (w.heap.size + 1) #[.bool false] 4 ∧
          Keep (W.setCell ⟨w.heap.size + 1 + 1, 0, none⟩ (.int .i64 (wrap64 ((k : Int) + 1)))) (w.heap.size + 1 + 1) #[.int .i64 ((k + 1 : Nat) : Int)] 3 ∧ k + 1 ≤ n2 ∧ Below w.heap.size w (W.setCell ⟨w.heap.size + 1 + 1, 0, none⟩ (.int .i64 (wrap64 ((k : Int) + 1)))) from
        ⟨KeepsOthers.setCell _ _ _, ⟨(Below.refl _ W).setCell (p := ⟨w.heap.size + 1 + 1, 0, none⟩) (by simp; omega) _, fun g _ hm => ⟨Below.heap_setCell _ _ _ _ (show g ≠ w.heap.size + 1 + 1 by intro e; exact hm (by have := HSZ.out; omega)), hm⟩⟩, h1.other (by omega) _ _, h2.other (by omega) _ _, hN, by omega, h5.setCell (by simp; omega) _⟩)
      clear hwr hN hok hx2 r1 r2 r3
      cases b with
      | false =>
        gi_wp2
        exact ⟨k + 1, HS.out, HE.out⟩
      | true =>
        have h3' := beq_of (hbk rfl)
        clear hbk
        gi_wp2
        exact ⟨k + 1, HS.out, HE.out⟩
    | false =>
      have HS := put (show stepTo f k (x, b) = none by simp [stepTo, hok])
      have hend : KeepsOthers W (W.setCell ⟨w.heap.size + 1, 0, none⟩ (.bool false)) ∧ Keep (W.setCell ⟨w.heap.size + 1, 0, none⟩ (.bool false)) (w.heap.size + 1) #[.bool false] 4 ∧ Below w.heap.size w (W.setCell ⟨w.heap.size + 1, 0, none⟩ (.bool false)) :=
        ⟨KeepsOthers.setCell _ _ _, h2.set 0 (.bool false), h5.setCell (by simp) _⟩
      have HE := put hend
      clear hend
      rcases okAt_no hok with hx | ⟨hx, hle⟩ | ⟨hx, s, hs, hb, hk3⟩
      · have hx' := bne_of hx
        clear hok
        gi_wp2
        exact ⟨HS.out, HE.out⟩
      · subst hx
        clear hok
        have hle' : n2 ≤ k := by omega
        gi_wp2
        exact ⟨HS.out, HE.out⟩
      · subst hx
        subst hb
        have hkl := (List.getElem?_eq_some_iff.1 hs).1
        obtain ⟨b2, off2, s', B1, m1, d1, B2, m2, d2, B3, m3, d3, hA2, hbb2, g0, g1, g2, g3, g4, r1, r2, r3, hx2⟩ := (hf.below h5).stmts.at_ (j := k) (by omega)
        obtain rfl : s = s' := by have := hx2.out; rw [hs] at this; injection this
        subst hA2
        rw [hk3] at g0
        clear hok hx2 r1 r2 r3 hk3
        gi_wp2
        exact ⟨HS.out, HE.out⟩
  case done =>
    rintro D k W hD hres ⟨h1, h2, h3, h4, h5⟩ hK
    have y3 := h1.cell 3
    have yN := h3.cell 0
    have yR := h2.cell 0
    have fR := h2.frozen 0
    simp at y3 yN yR
    have hlen := hf.stmts.1
    by_cases he : k = n2
    · have HP := put (show placesB f = true by unfold placesB; rw [hres, hlen, he]; simp)
      subst he
      clear hres
      gi_wp2
      have h2' : Keep ((W.setCell ⟨w.heap.size + 1, 0, none⟩ (.bool true)).putObj D (.deferred none)) (w.heap.size + 1) #[.bool true] 4 := (World.putObj_heap_other (by omega)).trans (h2.set 0 (.bool true))
      have hK' : (W.setCell ⟨w.heap.size + 1, 0, none⟩ (.bool true)).heap[D]? = some (.deferred (some [])) := (Below.heap_setCell _ _ _ _ (show D ≠ w.heap.size + 1 by omega)).trans hK
      have h5' : Below w.heap.size w (W.setCell ⟨w.heap.size + 1, 0, none⟩ (.bool true)) := h5.setCell (by simp) _
      refine ⟨by simp, .inl ⟨_, _, rfl, run_takeDeferred hK', ?_⟩⟩
      have r := h2'.cell 0
      simp at r
      exact ⟨.bool true, by simp [results, Tryz.results76, go_sem, r], ret_bool HP.out.symm, h5'.trans (belowK_b (w := w) (Nat.le_refl _) _ D _ _ (by omega) hK' rfl rfl)⟩
    · have HP := put (show placesB f = false by unfold placesB; rw [hres, hlen]; simp [he])
      have he' : ((k : Int) == (n2 : Int)) = false := beq_of (by omega)
      clear hres
      gi_wp2
      have h2' : Keep ((W.setCell ⟨w.heap.size + 1, 0, none⟩ (.bool false)).putObj D (.deferred none)) (w.heap.size + 1) #[.bool false] 4 := (World.putObj_heap_other (by omega)).trans (h2.set 0 (.bool false))
      have hK' : (W.setCell ⟨w.heap.size + 1, 0, none⟩ (.bool false)).heap[D]? = some (.deferred (some [])) := (Below.heap_setCell _ _ _ _ (show D ≠ w.heap.size + 1 by omega)).trans hK
      have h5' : Below w.heap.size w (W.setCell ⟨w.heap.size + 1, 0, none⟩ (.bool false)) := h5.setCell (by simp) _
      refine ⟨by simp, .inl ⟨_, _, rfl, run_takeDeferred hK', ?_⟩⟩
      have r := h2'.cell 0
      simp at r
      exact ⟨.bool false, by simp [results, Tryz.results76, go_sem, r], ret_bool HP.out.symm, h5'.trans (belowK_b (w := w) (Nat.le_refl _) _ D _ _ (by omega) hK' rfl rfl)⟩
  case stop =>
    rintro D W hD hres ⟨h2, h5⟩ hK
    have HP := put (show placesB f = false by simp [placesB, hres])
    clear hres
    gi_wp2
    have h2' : Keep (W.putObj D (.deferred none)) (w.heap.size + 1) #[.bool false] 4 := (World.putObj_heap_other (by omega)).trans h2
    refine ⟨by simp, .inl ⟨_, _, rfl, run_takeDeferred hK, ?_⟩⟩
    have r := h2'.cell 0
    simp at r
    exact ⟨.bool false, by simp [results, Tryz.results76, go_sem, r], ret_bool HP.out.symm, h5.trans (belowK_b (w := w) (Nat.le_refl _) _ D _ _ (by omega) hK rfl rfl)⟩

end Go.Proofs.YtpmpjiigmjnniaaGreat

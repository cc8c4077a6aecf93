/-
  The program's test that the places of a function are in order: its contract.
-/
import Derived.Test.YtaogdaoiijmmhaaPlaces
import Derived.Test.YtaogdaoiijmmhaaNeeds
namespace Go.Proofs.Ytaogdaoiijmmhaa
open Go.RowKit Go.Shelf Exs
attribute [local go_sem] Oper.semAt_some

def placesB (f : Fc) : Bool := decide (go f f.stmts.length f.body false 0 = some f.stmts.length)

theorem okAt_no {f : Fc} {k : Nat} {n : Int} {b : Bool} (h : okAt f k n b = false) : n ≠ k ∨ (n = k ∧ f.stmts.length ≤ k) ∨ (n = k ∧ ∃ s, f.stmts[k]? = some s ∧ b = true ∧ s.kind = 3) := by
  by_cases hn : n = k
  · subst hn
    cases hs : f.stmts[k]? with
    | none => exact .inr (.inl ⟨rfl, by simpa using hs⟩)
    | some s =>
      refine .inr (.inr ⟨rfl, s, rfl, ?_⟩)
      unfold okAt at h
      rw [hs] at h
      cases b <;> simp at h ⊢
      exact h
  · exact .inl hn
theorem Keep.own {w w' : World} {g : Nat} {cs : Array Value} {t : TypeId} {row : Option Nat} {B : Nat} (h : Keep w g cs t) (hg : w.grownBy w' row) (hr : ∀ r, row = some r → B ≤ r ∧ ∃ o : Obj, w.heap[r]? = some o ∧ o.isCells = false) : Keep w' g cs t := by
  refine (hg.block g h.lt ?_).trans h
  intro e
  obtain ⟨_, o, ho, hc⟩ := hr g e.symm
  unfold Keep at h
  rw [h] at ho
  injection ho with ho
  subst ho
  cases hc

set_option maxHeartbeats 2000000 in
set_option maxRecDepth 100000 in
theorem goodPlaces_any (f : Fc) (A1 : Option Addr) (n1 c1 : Nat) (A2 : Option Addr) (n2 c2 : Nat) (w : World) (hf : IsFc w w.heap.size f A1 n1 A2 n2) (hsm : SmallF f) :
    Calls Try.prog 48 #[fcV f A1 n1 c1 A2 n2 c2] w fun e w' => e = .returned (.bool (placesB f)) ∧ Below w.heap.size w w' := by
  refine (callsIn_wide (n := 5)).1 ?_
  refine callsIn_of_wp_marks Try.func48 rfl trivial ?_ rfl
  unfold fcV
  simp only [Try.ntmps48, List.size_toArray, List.length_cons, List.length_nil, Nat.reduceAdd, Nat.reduceSub, Array.replicate_succ, Array.replicate_zero, List.push_toArray, List.append_toArray, List.nil_append, List.cons_append]
  gi_wp2_with fail
  refine ⟨trivial, (placesIn_in Fence.wide _ trivial rfl f A1 n1 c1 A2 n2 c2 _).mono ?_⟩
  rintro e w' ⟨rfl, rfl⟩
  gi_wp2
  -- what lies where the loop begins
  have hkF := (((Keep.new w #[.int .i64 f.params, .int .i64 f.vars, .slice A1 n1 c1, .slice A2 n2 c2] 51).alloc (.cells #[.bool false] 4)).alloc (.cells #[.int .i64 0] 3)).alloc (.cells #[.int .i64 f.params, .int .i64 f.vars, .slice A1 n1 c1, .slice A2 n2 c2] 51)
  have hkR := ((Keep.new (w.alloc (.cells #[.int .i64 f.params, .int .i64 f.vars, .slice A1 n1 c1, .slice A2 n2 c2] 51)) #[.bool false] 4).alloc (.cells #[.int .i64 0] 3)).alloc (.cells #[.int .i64 f.params, .int .i64 f.vars, .slice A1 n1 c1, .slice A2 n2 c2] 51)
  have hkN := (Keep.new ((w.alloc (.cells #[.int .i64 f.params, .int .i64 f.vars, .slice A1 n1 c1, .slice A2 n2 c2] 51)).alloc (.cells #[.bool false] 4)) #[.int .i64 0] 3).alloc (.cells #[.int .i64 f.params, .int .i64 f.vars, .slice A1 n1 c1, .slice A2 n2 c2] 51)
  have hkB := Keep.new (((w.alloc (.cells #[.int .i64 f.params, .int .i64 f.vars, .slice A1 n1 c1, .slice A2 n2 c2] 51)).alloc (.cells #[.bool false] 4)).alloc (.cells #[.int .i64 0] 3)) #[.int .i64 f.params, .int .i64 f.vars, .slice A1 n1 c1, .slice A2 n2 c2] 51
  have hb0 : Below w.heap.size w ((((w.alloc (.cells #[.int .i64 f.params, .int .i64 f.vars, .slice A1 n1 c1, .slice A2 n2 c2] 51)).alloc (.cells #[.bool false] 4)).alloc (.cells #[.int .i64 0] 3)).alloc (.cells #[.int .i64 f.params, .int .i64 f.vars, .slice A1 n1 c1, .slice A2 n2 c2] 51)) :=
    ((((Below.refl _ _).alloc (Nat.le_refl _) _).alloc (by simp) _).alloc (by simp; omega) _).alloc (by simp; omega) _
  have hsz : ((((w.alloc (.cells #[.int .i64 f.params, .int .i64 f.vars, .slice A1 n1 c1, .slice A2 n2 c2] 51)).alloc (.cells #[.bool false] 4)).alloc (.cells #[.int .i64 0] 3)).alloc (.cells #[.int .i64 f.params, .int .i64 f.vars, .slice A1 n1 c1, .slice A2 n2 c2] 51)).heap.size = w.heap.size + 4 := by simp
  simp only [World.size_alloc] at hkR hkN hkB
  generalize hW0 : (((w.alloc (.cells #[.int .i64 f.params, .int .i64 f.vars, .slice A1 n1 c1, .slice A2 n2 c2] 51)).alloc (.cells #[.bool false] 4)).alloc (.cells #[.int .i64 0] 3)).alloc (.cells #[.int .i64 f.params, .int .i64 f.vars, .slice A1 n1 c1, .slice A2 n2 c2] 51) = W0 at hkF hkR hkN hkB hb0 hsz ⊢
  clear hW0
  refine range_steps (Adm := fun k (x : Int × Bool) => okAt f k x.1 x.2 = true ∨ True) (next := stepTo f) (s0 := 0) (res := go f f.stmts.length f.body false 0) (Qw := fun _ => True) (Kp := KeepsBut w.heap.size (fun _ g => w.heap.size ≤ g ∧ g < W0.heap.size + 2)) rfl (by omega) (gf := 52) (lb := #[.pointer (some ⟨w.heap.size + 1 + 1 + 1, 0, none⟩)]) rfl trivial (enters_of Try.func52 (by kernel_rfl) rfl)
    (fun h k => h.trans k) ?hKb
    (places_steps Fence.wide rfl _ trivial trivial rfl (w.heap.size + 1 + 1 + 1) w.heap.size _ _ f A1 n1 c1 A2 n2 c2 True W0 (fun W o g _ h => h) (fun W o h _ hm => by omega) hb0.size hsm hkB (hf.below hb0) (fun _ => trivial)) (fun _ => rfl)
    (fun k W => Keep W w.heap.size #[.int .i64 f.params, .int .i64 f.vars, .slice A1 n1 c1, .slice A2 n2 c2] 51 ∧ Keep W (w.heap.size + 1) #[.bool false] 4 ∧ Keep W (w.heap.size + 1 + 1) #[.int .i64 k] 3 ∧ k ≤ f.stmts.length ∧ Below w.heap.size w W)
    (fun W => Keep W (w.heap.size + 1) #[.bool false] 4 ∧ Below w.heap.size w W)
    ?hI ?hIx ⟨hkF, hkR, hkN, Nat.zero_le _, hb0⟩ (fun _ _ _ => trivial) (fun x => { tmps := #[Value.agg #[.int .i64 f.params, .int .i64 f.vars, .slice A1 n1 c1, .slice A2 n2 c2], .pointer (some ⟨w.heap.size, 0, none⟩), .pointer (some ⟨w.heap.size + 1, 0, none⟩), .pointer (some ⟨w.heap.size + 1 + 1, 0, none⟩), .int .i64 x.1, .bool x.2, .agg #[.int .i64 f.params, .int .i64 f.vars, .slice A1 n1 c1, .slice A2 n2 c2], .func (.func 52) #[] #[.pointer (some ⟨w.heap.size + 1 + 1 + 1, 0, none⟩)], .int .i64 x.1, .bool x.2, undef, undef, undef, undef, undef, undef, undef, undef, undef, undef, undef, undef, undef, undef, undef, undef, undef, undef, undef, undef, undef, undef, undef, undef, undef, undef, undef, undef, undef], defers := [] }) ?assign ?body ?done ?stop
  case hKb =>
    intro W o o' hl ho
    refine ⟨(Below.refl _ W).grown (grownBy_putObj' W _ o') (by have := (Array.getElem?_eq_some_iff.1 hl).1; omega) (fun k e => by cases e; omega), fun g _ hm => ⟨World.putObj_heap_other (fun e => hm (by omega)), hm⟩⟩
  case hI =>
    rintro k W W' row ⟨h1, h2, h3, h4, h5⟩ hg hr
    exact ⟨h1.own hg hr, h2.own hg hr, h3.own hg hr, h4, h5.grown hg h5.size (fun k e => by have := (hr k e).1; omega)⟩
  case hIx =>
    rintro _ W W' row ⟨h2, h5⟩ hg hr
    exact ⟨h2.own hg hr, h5.grown hg h5.size (fun k e => by have := (hr k e).1; omega)⟩
  case assign =>
    intro l x W K hK
    gi_wp2
    exact hK
  case body =>
    rintro l k ⟨x, b⟩ W ⟨h1, h2, h3, h4, h5⟩ _
    have y3 := h1.cell 3
    have yN := h3.cell 0
    have fN := h3.frozen 0
    have yR := h2.cell 0
    have fR := h2.frozen 0
    simp at y3 yN yR
    have HSZ := put hsz
    have hlen0 := hf.stmts.1
    have hlen := put hlen0
    clear hsz hkF hkR hkN hkB hb0
    cases hok : okAt f k x b with
    | true =>
      have HS := put (show stepTo f k (x, b) = some (k + 1) by simp [stepTo, hok])
      obtain ⟨hx, s, hs, hbk⟩ := okAt_some hok
      have hkl := (List.getElem?_eq_some_iff.1 hs).1
      subst hx
      obtain ⟨b2, off2, s', B1, m1, d1, B2, m2, d2, B3, m3, d3, hA2, hbb2, g0, g1, g2, g3, g4, r1, r2, r3, hx2⟩ := (hf.below h5).stmts.at_ (j := k) (by omega)
      obtain rfl : s = s' := by have := hx2.out; rw [hs] at this; injection this
      subst hA2
      have hwr : wrap64 ((k : Int) + 1) = ((k + 1 : Nat) : Int) := by have := hsm.2.1; unfold wrap64; omega
      have hN : Keep (W.setCell ⟨w.heap.size + 1 + 1, 0, none⟩ (.int .i64 (wrap64 ((k : Int) + 1)))) (w.heap.size + 1 + 1) #[.int .i64 ((k + 1 : Nat) : Int)] 3 := by
        have := h3.set 0 (.int .i64 (wrap64 ((k : Int) + 1)))
        rw [hwr] at this ⊢
        exact this
      have HE := put (show KeepsOthers W (W.setCell ⟨w.heap.size + 1 + 1, 0, none⟩ (.int .i64 (wrap64 ((k : Int) + 1)))) ∧ KeepsBut w.heap.size (fun _ g => w.heap.size ≤ g ∧ g < W0.heap.size + 2) W (W.setCell ⟨w.heap.size + 1 + 1, 0, none⟩ (.int .i64 (wrap64 ((k : Int) + 1)))) ∧
          Keep (W.setCell ⟨w.heap.size + 1 + 1, 0, none⟩ (.int .i64 (wrap64 ((k : Int) + 1)))) w.heap.size #[.int .i64 f.params, .int .i64 f.vars, .slice A1 n1 c1, .slice (some ⟨b2, off2, none⟩) n2 c2] 51 ∧ Keep (W.setCell ⟨w.heap.size + 1 + 1, 0, none⟩ (.int .i64 (wrap64 ((k : Int) + 1)))) (w.heap.size + 1) #[.bool false] 4 ∧
          Keep (W.setCell ⟨w.heap.size + 1 + 1, 0, none⟩ (.int .i64 (wrap64 ((k : Int) + 1)))) (w.heap.size + 1 + 1) #[.int .i64 ((k + 1 : Nat) : Int)] 3 ∧ k + 1 ≤ n2 ∧ Below w.heap.size w (W.setCell ⟨w.heap.size + 1 + 1, 0, none⟩ (.int .i64 (wrap64 ((k : Int) + 1)))) from
        ⟨KeepsOthers.setCell _ _ _, ⟨(Below.refl _ W).setCell (p := ⟨w.heap.size + 1 + 1, 0, none⟩) (by simp; omega) _, fun g _ hm => ⟨Below.heap_setCell _ _ _ _ (show g ≠ w.heap.size + 1 + 1 by intro e; exact hm (by have := HSZ.out; omega)), hm⟩⟩, h1.other (by omega) _ _, h2.other (by omega) _ _, hN, by omega, h5.setCell (by simp; omega) _⟩)
      clear hwr hN hok hx2 r1 r2 r3
      cases b with
      | false =>
        gi_wp2
        exact ⟨k + 1, HS.out, HE.out⟩
      | true =>
        have h3' := beq_of (hbk rfl)
        clear hbk
        gi_wp2
        exact ⟨k + 1, HS.out, HE.out⟩
    | false =>
      have HS := put (show stepTo f k (x, b) = none by simp [stepTo, hok])
      have hend : KeepsOthers W (W.setCell ⟨w.heap.size + 1, 0, none⟩ (.bool false)) ∧ Keep (W.setCell ⟨w.heap.size + 1, 0, none⟩ (.bool false)) (w.heap.size + 1) #[.bool false] 4 ∧ Below w.heap.size w (W.setCell ⟨w.heap.size + 1, 0, none⟩ (.bool false)) :=
        ⟨KeepsOthers.setCell _ _ _, h2.set 0 (.bool false), h5.setCell (by simp) _⟩
      have HE := put hend
      clear hend
      rcases okAt_no hok with hx | ⟨hx, hle⟩ | ⟨hx, s, hs, hb, hk3⟩
      · have hx' := bne_of hx
        clear hok
        gi_wp2
        exact ⟨HS.out, HE.out⟩
      · subst hx
        clear hok
        have hle' : n2 ≤ k := by omega
        gi_wp2
        exact ⟨HS.out, HE.out⟩
      · subst hx
        subst hb
        have hkl := (List.getElem?_eq_some_iff.1 hs).1
        obtain ⟨b2, off2, s', B1, m1, d1, B2, m2, d2, B3, m3, d3, hA2, hbb2, g0, g1, g2, g3, g4, r1, r2, r3, hx2⟩ := (hf.below h5).stmts.at_ (j := k) (by omega)
        obtain rfl : s = s' := by have := hx2.out; rw [hs] at this; injection this
        subst hA2
        rw [hk3] at g0
        clear hok hx2 r1 r2 r3 hk3
        gi_wp2
        exact ⟨HS.out, HE.out⟩
  case done =>
    rintro D k W hD hres ⟨h1, h2, h3, h4, h5⟩ hK
    have y3 := h1.cell 3
    have yN := h3.cell 0
    have yR := h2.cell 0
    have fR := h2.frozen 0
    simp at y3 yN yR
    have hlen := hf.stmts.1
    by_cases he : k = n2
    · have HP := put (show placesB f = true by unfold placesB; rw [hres, hlen, he]; simp)
      subst he
      clear hres
      gi_wp2
      have h2' : Keep ((W.setCell ⟨w.heap.size + 1, 0, none⟩ (.bool true)).putObj D (.deferred none)) (w.heap.size + 1) #[.bool true] 4 := (World.putObj_heap_other (by omega)).trans (h2.set 0 (.bool true))
      have hK' : (W.setCell ⟨w.heap.size + 1, 0, none⟩ (.bool true)).heap[D]? = some (.deferred (some [])) := (Below.heap_setCell _ _ _ _ (show D ≠ w.heap.size + 1 by omega)).trans hK
      have h5' : Below w.heap.size w (W.setCell ⟨w.heap.size + 1, 0, none⟩ (.bool true)) := h5.setCell (by simp) _
      refine ⟨by simp, .inl ⟨_, _, rfl, run_takeDeferred hK', ?_⟩⟩
      have r := h2'.cell 0
      simp at r
      exact ⟨.bool true, by simp [results, Try.results48, go_sem, r], ret_bool HP.out.symm, h5'.trans (belowK_b (w := w) (Nat.le_refl _) _ D _ _ (by omega) hK' rfl rfl)⟩
    · have HP := put (show placesB f = false by unfold placesB; rw [hres, hlen]; simp [he])
      have he' : ((k : Int) == (n2 : Int)) = false := beq_of (by omega)
      clear hres
      gi_wp2
      have h2' : Keep ((W.setCell ⟨w.heap.size + 1, 0, none⟩ (.bool false)).putObj D (.deferred none)) (w.heap.size + 1) #[.bool false] 4 := (World.putObj_heap_other (by omega)).trans (h2.set 0 (.bool false))
      have hK' : (W.setCell ⟨w.heap.size + 1, 0, none⟩ (.bool false)).heap[D]? = some (.deferred (some [])) := (Below.heap_setCell _ _ _ _ (show D ≠ w.heap.size + 1 by omega)).trans hK
      have h5' : Below w.heap.size w (W.setCell ⟨w.heap.size + 1, 0, none⟩ (.bool false)) := h5.setCell (by simp) _
      refine ⟨by simp, .inl ⟨_, _, rfl, run_takeDeferred hK', ?_⟩⟩
      have r := h2'.cell 0
      simp at r
      exact ⟨.bool false, by simp [results, Try.results48, go_sem, r], ret_bool HP.out.symm, h5'.trans (belowK_b (w := w) (Nat.le_refl _) _ D _ _ (by omega) hK' rfl rfl)⟩
  case stop =>
    rintro D W hD hres ⟨h2, h5⟩ hK
    have HP := put (show placesB f = false by simp [placesB, hres])
    clear hres
    gi_wp2
    have h2' : Keep (W.putObj D (.deferred none)) (w.heap.size + 1) #[.bool false] 4 := (World.putObj_heap_other (by omega)).trans h2
    refine ⟨by simp, .inl ⟨_, _, rfl, run_takeDeferred hK, ?_⟩⟩
    have r := h2'.cell 0
    simp at r
    exact ⟨.bool false, by simp [results, Try.results48, go_sem, r], ret_bool HP.out.symm, h5.trans (belowK_b (w := w) (Nat.le_refl _) _ D _ _ (by omega) hK rfl rfl)⟩

end Go.Proofs.Ytaogdaoiijmmhaa

/-
  The program's SitesOf: its contract.
-/
import Derived.Test.YtaogdaoiijmmhaaOrdI
namespace Go.Proofs.Ytaogdaoiijmmhaa
open Go.RowKit Go.Shelf Exs
attribute [local go_sem] Oper.semAt_some

def siteAns (f : Fc) : List Int × Bool := if aloneB f then (sitesL f, true) else ([], false)
theorem siteAns_len (f : Fc) : (siteAns f).1.length ≤ 1048576 := by
  unfold siteAns
  split
  · rename_i h
    have := (alone_head h).1
    have := sitesFrom_length f.stmts 0
    simp only [sitesL]; omega
  · simp

set_option maxHeartbeats 2000000 in
set_option maxRecDepth 100000 in
theorem sitesIn_any (f : Fc) (A1 : Option Addr) (n1 c1 : Nat) (A2 : Option Addr) (n2 c2 : Nat) (w : World) (hf : IsFc w w.heap.size f A1 n1 A2 n2) (hsm : SmallF f) (hgo : go f f.stmts.length f.body false 0 = some f.stmts.length) :
    Calls Try.prog 27 #[fcV f A1 n1 c1 A2 n2 c2] w fun e w' => ∃ v, e = .returned v ∧ Nums w' w.heap.size 3 .i64 v (sitesL f) ∧ Below w.heap.size w w' := by
  have b1 : Below w.heap.size w (w.alloc (.cells #[.int .i64 f.params, .int .i64 f.vars, .slice A1 n1 c1, .slice A2 n2 c2] 51)) := (Below.refl _ _).alloc (Nat.le_refl _) _
  have k1 := Keep.new w #[.int .i64 f.params, .int .i64 f.vars, .slice A1 n1 c1, .slice A2 n2 c2] 51
  have HGO := put hgo
  clear hgo
  have hs1 : (w.alloc (.cells #[.int .i64 f.params, .int .i64 f.vars, .slice A1 n1 c1, .slice A2 n2 c2] 51)).heap.size = w.heap.size + 1 := by simp
  unfold fcV
  refine (callsIn_wide (n := 5)).1 ?_
  refine callsIn_of_wp_marks Try.func27 rfl trivial ?_ rfl
  simp only [Try.ntmps27, List.size_toArray, List.length_cons, List.length_nil, Nat.reduceAdd, Nat.reduceSub, Array.replicate_succ, Array.replicate_zero, List.push_toArray, List.append_toArray, List.nil_append, List.cons_append]
  have hkl : w.heap.size < w.heap.size + 1 := Nat.lt_succ_self _
  have hk1 := (k1.alloc (.cells #[.slice none 0 0] 22)).alloc (.cells #[.int .i64 f.params, .int .i64 f.vars, .slice A1 n1 c1, .slice A2 n2 c2] 51)
  have hkO := (Keep.new (w.alloc (.cells #[.int .i64 f.params, .int .i64 f.vars, .slice A1 n1 c1, .slice A2 n2 c2] 51)) #[.slice none 0 0] 22).alloc (.cells #[.int .i64 f.params, .int .i64 f.vars, .slice A1 n1 c1, .slice A2 n2 c2] 51)
  have hkB := Keep.new ((w.alloc (.cells #[.int .i64 f.params, .int .i64 f.vars, .slice A1 n1 c1, .slice A2 n2 c2] 51)).alloc (.cells #[.slice none 0 0] 22)) #[.int .i64 f.params, .int .i64 f.vars, .slice A1 n1 c1, .slice A2 n2 c2] 51
  have hb0 : Below w.heap.size w (((w.alloc (.cells #[.int .i64 f.params, .int .i64 f.vars, .slice A1 n1 c1, .slice A2 n2 c2] 51)).alloc (.cells #[.slice none 0 0] 22)).alloc (.cells #[.int .i64 f.params, .int .i64 f.vars, .slice A1 n1 c1, .slice A2 n2 c2] 51)) := (b1.alloc b1.size _).alloc (by simp; omega) _
  have hsz : (((w.alloc (.cells #[.int .i64 f.params, .int .i64 f.vars, .slice A1 n1 c1, .slice A2 n2 c2] 51)).alloc (.cells #[.slice none 0 0] 22)).alloc (.cells #[.int .i64 f.params, .int .i64 f.vars, .slice A1 n1 c1, .slice A2 n2 c2] 51)).heap.size = (w.heap.size + 1) + 2 := by simp
  rw [World.size_alloc, hs1] at hkB
  rw [hs1] at hkO
  gi_wp2_with fail
  refine ⟨trivial, (placesIn_in Fence.wide _ trivial rfl f A1 n1 c1 A2 n2 c2 _).mono ?_⟩
  rintro e w' ⟨rfl, rfl⟩
  gi_wp2
  have hnil : Nums (((w.alloc (.cells #[.int .i64 f.params, .int .i64 f.vars, .slice A1 n1 c1, .slice A2 n2 c2] 51)).alloc (.cells #[.slice none 0 0] 22)).alloc (.cells #[.int .i64 f.params, .int .i64 f.vars, .slice A1 n1 c1, .slice A2 n2 c2] 51)) (((w.alloc (.cells #[.int .i64 f.params, .int .i64 f.vars, .slice A1 n1 c1, .slice A2 n2 c2] 51)).alloc (.cells #[.slice none 0 0] 22)).alloc (.cells #[.int .i64 f.params, .int .i64 f.vars, .slice A1 n1 c1, .slice A2 n2 c2] 51)).heap.size 3 .i64 (.slice none 0 0) (sitesFrom 0 (f.stmts.take 0)) := Nums.nil _ _ _ _
  generalize ((w.alloc (.cells #[.int .i64 f.params, .int .i64 f.vars, .slice A1 n1 c1, .slice A2 n2 c2] 51)).alloc (.cells #[.slice none 0 0] 22)).alloc (.cells #[.int .i64 f.params, .int .i64 f.vars, .slice A1 n1 c1, .slice A2 n2 c2] 51) = W0 at hk1 hkO hkB hb0 hsz hnil ⊢
  have hlen := hf.stmts.1
  refine range_steps (Adm := fun k (x : Int × Bool) => okAt f k x.1 x.2 = true ∨ False) (next := stepTo f) (s0 := 0) (res := go f f.stmts.length f.body false 0) (Qw := fun W => (w.heap.size + 1) < W.heap.size ∧ ∀ g n c, W.cell? ⟨(w.heap.size + 1), 0, none⟩ = some (.slice (some ⟨g, 0, none⟩) n c) → g < W.heap.size) (Kp := KeepsBut w.heap.size (MineC w.heap.size (W0.heap.size + 2) (w.heap.size + 1))) rfl (by omega) (gf := 52) (lb := #[.pointer (some ⟨(w.heap.size + 1) + 1, 0, none⟩)]) rfl trivial (enters_of Try.func52 (by kernel_rfl) rfl)
    (fun h k => h.trans k) ?hKb
    (places_steps Fence.wide rfl _ trivial trivial rfl ((w.heap.size + 1) + 1) w.heap.size _ _ f A1 n1 c1 A2 n2 c2 False W0 (fun W o g _ h => MineC.alloc W o g h) ?hMf hb0.size hsm hkB (hf.below hb0) (fun h => by rw [HGO.out] at h; cases h)) (fun _ => rfl)
    (fun k W => Keep W w.heap.size #[.int .i64 f.params, .int .i64 f.vars, .slice A1 n1 c1, .slice A2 n2 c2] 51 ∧ (∃ v, Keep W (w.heap.size + 1) #[v] 22 ∧ Nums W W0.heap.size 3 .i64 v (sitesFrom 0 (f.stmts.take k))) ∧ W0.heap.size ≤ W.heap.size ∧ k ≤ f.stmts.length ∧ Below w.heap.size w W)
    (fun _ => True)
    ?hI (fun _ _ _ _ _ _ _ => trivial) ⟨hk1, ⟨_, hkO, hnil⟩, Nat.le_refl _, Nat.zero_le _, hb0⟩ ?hQ (fun x => { tmps := #[Value.agg #[.int .i64 f.params, .int .i64 f.vars, .slice A1 n1 c1, .slice A2 n2 c2], .pointer (some ⟨w.heap.size, 0, none⟩), .slice none 0 0, .pointer (some ⟨w.heap.size + 1, 0, none⟩), .int .i64 x.1, .agg #[.int .i64 f.params, .int .i64 f.vars, .slice A1 n1 c1, .slice A2 n2 c2], .func (.func 52) #[] #[.pointer (some ⟨w.heap.size + 1 + 1, 0, none⟩)], .int .i64 x.1, .bool x.2, undef, undef, undef, undef, undef, undef, undef, undef, undef, undef, undef, undef], defers := [] }) ?assign ?body ?done ?stop
  case hKb =>
    intro W o o' hl ho
    refine ⟨(Below.refl _ W).grown (grownBy_putObj' W _ o') (by have := (Array.getElem?_eq_some_iff.1 hl).1; omega) (fun k e => by cases e; omega), fun g _ hm => ⟨World.putObj_heap_other (fun e => hm (.inl (by omega))), MineC.putObj W _ o' g (by omega) hm⟩⟩
  case hMf =>
    rintro W o h ⟨hq1, hq2⟩ (h' | h' | ⟨n, c, h'⟩)
    · omega
    · simp at h'; omega
    · rw [show (W.alloc o).cell? ⟨(w.heap.size + 1), 0, none⟩ = W.cell? ⟨(w.heap.size + 1), 0, none⟩ from World.cell?_of_block (w := W) (Below.heap_alloc _ _ _ hq1)] at h'
      have := hq2 _ _ _ h'
      omega
  case hQ =>
    rintro k W ⟨h1, ⟨v, h2, h3⟩, hW0s, h4, h5⟩
    refine ⟨h2.lt, fun g n c hc => ?_⟩
    rw [h2.cell 0] at hc
    simp at hc
    subst hc
    exact (World.ownsRow.lt h3 g rfl).2
  case hI =>
    rintro k W W' row ⟨h1, ⟨v, h2, h3⟩, hW0s, h4, h5⟩ hg hr
    exact ⟨h1.own hg hr, ⟨v, h2.own hg hr, h3.grownOther hg hr⟩, Nat.le_trans hW0s hg.size, h4, h5.grown hg h5.size (fun k e => by have := (hr k e).1; omega)⟩
  case assign =>
    intro l x W K hK
    gi_wp2
    exact hK
  case body =>
    rintro l k ⟨x, b⟩ W ⟨h1, ⟨v, h2, h3⟩, hW0s, h4, h5⟩ hadm
    have hok : okAt f k x b = true := by rcases hadm with h | h; exact h; exact h.elim
    have HS := put (show stepTo f k (x, b) = some (k + 1) by simp [stepTo, hok])
    obtain ⟨hx, s, hs, hbk⟩ := okAt_some hok
    have hkl2 := (List.getElem?_eq_some_iff.1 hs).1
    subst hx
    have yO := h2.cell 0
    have fO := h2.frozen 0
    simp at yO
    have y3 := h1.cell 3
    simp at y3
    obtain ⟨b2, off2, s', B1, m1, d1, B2, m2, d2, B3, m3, d3, hA2, hbb2, g0, g1, g2, g3, g4, r1, r2, r3, hx2⟩ := (hf.below h5).stmts.at_ (j := k) (by omega)
    obtain rfl : s = s' := by have := hx2.out; rw [hs] at this; injection this
    subst hA2
    have hlk : (f.stmts.take k).length = k := by rw [List.length_take]; omega
    have hnext := put (show sitesFrom 0 (f.stmts.take (k + 1)) = sitesFrom 0 (f.stmts.take k) ++ (if s.kind = 3 then [(k : Int)] else []) by rw [takeA_more hs, sitesFrom_snoc, hlk, Nat.zero_add])
    have hrl := put (show (sitesFrom 0 (f.stmts.take k)).length ≤ k by have := sitesFrom_length (f.stmts.take k) 0; omega)
    have hsl := put hsm.2.1
    have hkn : k < n2 := by omega
    have HBK := put hbk
    clear hok hadm hlk r1 r2 r3 g1 g2 g3 g4 hbk hx2
    generalize sitesFrom 0 (f.stmts.take k) = xs at h3 hnext hrl
    obtain ⟨i0, hi, hz0, hz1, hz2⟩ := info_parts Try.info3
    by_cases hk3 : s.kind = 3
    · rw [if_pos hk3] at hnext
      rw [hk3] at g0
      clear hk3
      gi_wp2_with (gi_at_builtin; refine wpListIn_append_own_at _ rfl _ _ 22 rfl W0.heap.size 3 i0 (.int .i64 0) 1 8 Try.underlying22 hi hz0 hz1 hz2 rfl (by decide) v xs.length _ rfl (Nums.alloc h3 _) ⟨W.heap.size, 0, none⟩ 1 1 [.int .i64 (k : Int)] rfl rfl (cell_one_new _ _ _) (by simp [Value.oneCell']) (by have := hrl.out; have := hsl.out; unfold maxLen; omega) (by have := hrl.out; have := hsl.out; omega) (by simp; omega) ?_; intro v' w3 hown' hgrow _ hat; have hn' : Nums w3 W0.heap.size 3 .i64 v' (xs ++ [(k : Int)]) := (by unfold Nums; simpa using hown'); obtain ⟨q1, q2, q3, q4, q5, q6, q7⟩ := collect_step (hi := W0.heap.size + 2) h5 h2 h3 (Nat.le_of_lt hkl) (by omega) (by omega) hn' hgrow (by simpa using hat); obtain ⟨A', m', c', hv'⟩ : ∃ A' m' c', v' = .slice A' m' c' := (by obtain ⟨A, c, h, _⟩ := hn'.reads; exact ⟨A, _, c, h⟩); subst hv'; have yO3 := q1.cell 0; have fO3 := q1.frozen 0; simp at yO3; clear hown' hgrow hat hn')
      exact ⟨k + 1, HS.out, q2, q3, q7 _ _ _ (by omega) (by omega) h1, ⟨_, q4, by rw [hnext.out]; exact q5⟩, Nat.le_trans hW0s q3.1.size, hkl2, q6⟩
    · rw [if_neg hk3, List.append_nil] at hnext
      have hk3' := beq_of hk3
      gi_wp2
      exact ⟨k + 1, HS.out, KeepsOthers.refl _, ⟨Below.refl _ _, fun g _ hm => ⟨rfl, hm⟩⟩, h1, ⟨_, h2, by rw [hnext.out]; exact h3⟩, hW0s, hkl2, h5⟩
  case done =>
    rintro D k W hD hres ⟨h1, ⟨v, h2, h3⟩, hW0s, h4, h5⟩ hK
    have hkk : f.stmts.length = k := by rw [HGO.out] at hres; injection hres
    subst hkk
    rw [List.take_length] at h3
    have yO := h2.cell 0
    simp at yO
    clear hres
    gi_wp2
    refine ⟨by simp, .inl ⟨_, _, rfl, run_takeDeferred hK, ?_⟩⟩
    exact ⟨v, by simp [results, Try.results27, go_sem], v, rfl, (h3.grownOther (grownBy_putObj' W D _) (fun r e => ⟨Nat.zero_le _, by cases e; exact ⟨_, hK, rfl⟩⟩)).more hb0.size, h5.trans (belowK_b (w := w) (Nat.le_refl _) _ D _ _ (by omega) hK rfl rfl)⟩
  case stop =>
    rintro D W hD hres _ hK
    rw [HGO.out] at hres
    cases hres


end Go.Proofs.Ytaogdaoiijmmhaa

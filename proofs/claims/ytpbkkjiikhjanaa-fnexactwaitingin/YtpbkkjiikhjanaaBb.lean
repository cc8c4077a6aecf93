/-
  What a frame waits for, as the program has it: slices.Backward over its flags, and what it collects.
-/
import Derived.Test.YtpbkkjiikhjanaaRg
namespace Go.Proofs.Ytpbkkjiikhjanaa
open Go.RowKit Go.Shelf Exs
attribute [local go_sem] Oper.semAt_some

set_option maxRecDepth 100000 in
set_option maxHeartbeats 2000000 in
theorem backB_steps (F : Fence) (hd : F.depth = none) (n : Nat) (h52 : F.fn 36) (hro : F.round = none) (B : Nat) (A : Option Addr) (m c : Nat) (bs : List Bool) (hm : m ≤ 1048576) (w : World) :
    Steps F n Try.prog 36 #[.pointer (some ⟨B, 0, none⟩)] (fun x : Int × Bool => #[.int .i64 x.1, .bool x.2]) (fun _ _ => True) (fun k x => k < m ∧ x.1 = (m : Int) - 1 - (k : Int) ∧ bs[m - 1 - k]? = some x.2) (fun k _ => some (k + 1)) 0 (some m) (FixV B A m c (bs.map Value.bool)) w := by
  intro l J Jx W hW hJ hQ hY h0
  have hdd : ∀ k : Nat, (F.depth.isSome = true → 1 ≤ k) := fun k h => by rw [hd] at h; cases h
  have y0 := (hQ 0 W h0).2.1
  have hw0 : IntKind.i64.wrap ((m : Int) - 1) = (m : Int) - 1 := IntWalk.i64_in _ ⟨by omega, by omega⟩
  show CallsIn F n Try.prog 36 #[.func (.yield l) #[] #[], .pointer (some ⟨B, 0, none⟩)] W _
  refine callsIn_of_wp Try.func36 rfl h52 ?_ hro
  simp only [Try.ntmps36, List.size_toArray, List.length_cons, List.length_nil, Nat.reduceAdd, Nat.reduceSub, Array.replicate_succ, Array.replicate_zero, List.push_toArray, List.append_toArray, List.nil_append, List.cons_append]
  gi_wp2
  gi_loopw [3] (fun i wr => ∃ k : Nat, k ≤ m ∧ i = .int .i64 ((m : Int) - 1 - (k : Int)) ∧ J k wr) (fun i _ => (intOf i + 1).toNat)
  case atStart => exact ⟨0, Nat.zero_le _, by simp, h0⟩
  case round =>
    obtain ⟨k, hk, rfl, hJk⟩ := hrel
    clear y0
    by_cases hlt : k < m
    · obtain ⟨kk, hkk⟩ : ∃ kk : Nat, (m : Int) - 1 - (k : Int) = (kk : Int) := ⟨m - 1 - k, by omega⟩
      obtain ⟨z0, hml, hz⟩ := (hQ k wr hJk).2
      have hbl : m = bs.length := by simpa using hml
      obtain ⟨x, hx⟩ : ∃ x, bs[kk]? = some x := ⟨_, List.getElem?_eq_getElem (by omega)⟩
      obtain ⟨g, o, hA, hc⟩ := hz kk (.bool x) (by simp [hx])
      have hyy := hY k ((kk : Int), x) wr hJk ⟨hlt, hkk.symm, by rw [show m - 1 - k = kk by omega]; exact hx⟩
      have HKK := put hkk
      have hkm : kk < m := by omega
      have hwk : IntKind.i64.wrap ((kk : Int) - 1) = (kk : Int) - 1 := IntWalk.i64_in _ ⟨by omega, by omega⟩
      rw [hkk]
      subst hA
      obtain ⟨fn, tmps, assign, body, hy, hR⟩ := hyy
      clear hz hx hkk hml hbl hY hQ hJk
      gi_wp2_with ((try refine ⟨hdd _, ?_⟩); refine hR.mono ?_; clear hR; rintro e W2 (⟨_, ⟨⟩, rfl, hJ2, _⟩ | ⟨⟨⟩, _⟩))
      go_roundw
      case rel => exact ⟨k + 1, by omega, by have := HKK.out; congr 1; omega, hJ2⟩
      case measure => simp [intOf]
    · obtain rfl : k = m := by omega
      have hneg : (k : Int) - 1 - (k : Int) = -1 := by omega
      rw [hneg]
      gi_wp2
      go_end0
      exact ⟨⟨_, rfl⟩, .inl ⟨k, rfl, hJk⟩⟩

set_option maxRecDepth 100000 in
theorem backwardB_any (A : Option Addr) (n c : Nat) (w : World) : Calls Try.prog 30 #[.slice A n c] w fun e w' => e = .returned (.func (.func 36) #[] #[.pointer (some ⟨w.heap.size, 0, none⟩)]) ∧ w' = w.alloc (.cells #[.slice A n c] 51) := by
  go_enter Try.func30, Try.ntmps30
  go_wp2
  go_ret
  exact ⟨rfl, rfl⟩

/-- What is collected so far: a box with a row of the call's own. -/
structure SetS (w W : World) (A : Option Addr) (n c : Nat) (v : Value) (xs : List Int) : Prop where
  kS : Keep W w.heap.size #[v] 23
  kB : Keep W (w.heap.size + 1) #[.slice A n c] 51
  nu : Nums W w.heap.size 3 .i64 v xs
  bel : Below w.heap.size w W
theorem SetS.same {w W W' : World} {A : Option Addr} {n c : Nat} {v : Value} {xs : List Int} (h : SetS w W A n c v xs) (hs : Same 1000000 W W') (hb : Below w.heap.size W W') : SetS w W' A n c v xs :=
  ⟨hs.keep h.kS (by decide), hs.keep h.kB (by decide), hs.row h.nu (by decide), h.bel.trans hb⟩

set_option maxHeartbeats 4000000 in
set_option maxRecDepth 100000 in
theorem sites_any (A : Option Addr) (n c : Nat) (bs : List Bool) (w : World) (hr : ReadsB w w.heap.size A n bs) (hn : n ≤ 1048576) :
    Calls Try.prog 22 #[.slice A n c] w fun e w' => ∃ v, e = .returned v ∧ Nums w' w.heap.size 3 .i64 v (wtL bs) ∧ Below w.heap.size w w' := by
  have HLN := put hr.1
  have HE := put (wtF_end (show bs.length ≤ n by rw [hr.1]; exact Nat.le_refl _))
  have hfix : ∀ W, Below w.heap.size w W → Keep W (w.heap.size + 1) #[.slice A n c] 51 → FixV (w.heap.size + 1) A n c (bs.map Value.bool) W := fun W hW hk => by
    refine ⟨by have := hk.cell 0; simpa using this, by simp [hr.1], fun j u hu => ?_⟩
    obtain ⟨x, hx, rfl⟩ : ∃ x, bs[j]? = some x ∧ Value.bool x = u := by simpa [List.getElem?_map] using hu
    have hjn : j < n := by rw [← hr.1]; exact (List.getElem?_eq_some_iff.1 hx).1
    obtain ⟨b, off, y, hA, hb, hc, hy⟩ := (hr.below hW).at_ hjn
    have e : x = y := by have := hy.out; rw [hx] at this; injection this
    exact ⟨b, off, hA, by rw [e]; exact hc⟩
  have HFX := put hfix
  clear hfix
  refine (callsIn_wide (n := 5)).1 ?_
  refine callsIn_of_wp_marks Try.func22 rfl trivial ?_ rfl
  simp only [Try.ntmps22, List.size_toArray, List.length_cons, List.length_nil, Nat.reduceAdd, Nat.reduceSub, Array.replicate_succ, Array.replicate_zero, List.push_toArray, List.append_toArray, List.nil_append, List.cons_append]
  refine wpIn_wide.2 ?_
  have hb0 : Below w.heap.size w (w.alloc (.cells #[.slice none 0 0] 23)) := (Below.refl _ _).alloc (Nat.le_refl _) _
  have k0 := Keep.new w #[.slice none 0 0] 23
  have hs0 : (w.alloc (.cells #[.slice none 0 0] 23)).heap.size = w.heap.size + 1 := by simp
  go_wp2_with fail
  generalize hW : w.alloc (.cells #[.slice none 0 0] 23) = W0 at hb0 k0 hs0 ⊢
  clear hW
  refine (backwardB_any A n c W0).mono ?_
  rintro e w9 ⟨rfl, rfl⟩
  rw [hs0]
  have kB := Keep.new W0 #[.slice A n c] 51
  rw [hs0] at kB
  have s9 : SetS w (W0.alloc (.cells #[.slice A n c] 51)) A n c (.slice none 0 0) [] := ⟨k0.alloc _, kB, Nums.nil _ _ _ _, hb0.alloc hb0.size _⟩
  have hs9 : (W0.alloc (.cells #[.slice A n c] 51)).heap.size = w.heap.size + 2 := by simp [hs0]
  clear k0 kB hb0
  generalize W0.alloc (.cells #[.slice A n c] 51) = W9 at s9 hs9 ⊢
  go_wp2_with fail
  have hww : w.heap.size ≤ W9.heap.size := s9.bel.size
  refine (wpIn_wide (n := 5)).1 ?_
  refine' range_steps (F := Fence.wide) (n := 5) (encs := fun x : Int × Bool => #[.int .i64 x.1, .bool x.2]) (Adm := fun (k : Nat) (x : Int × Bool) => k < n ∧ x.1 = (n : Int) - 1 - (k : Int) ∧ bs[n - 1 - k]? = some x.2) (next := fun k _ => some (k + 1)) (s0 := 0) (res := some n) (Qw := FixV (w.heap.size + 1) A n c (bs.map Value.bool)) (Kp := fun _ _ => True) rfl (by omega) (gf := 36) (lb := #[.pointer (some ⟨w.heap.size + 1, 0, none⟩)]) rfl trivial (enters_of Try.func36 (by kernel_rfl) rfl) (fun _ _ => trivial) (fun _ _ _ _ _ => trivial) (backB_steps Fence.wide rfl _ trivial rfl (w.heap.size + 1) A n c bs hn W9) (fun _ => rfl)
    (fun k W => ∃ v, k ≤ n ∧ SetS w W A n c v (wtF bs (n - k)) ∧ W9.heap.size ≤ W.heap.size)
    (fun _ => False) ?hI (fun _ _ _ _ h _ _ => h) ⟨_, Nat.zero_le _, by rw [Nat.sub_zero, HE.out]; exact s9, Nat.le_refl _⟩ ?hQ _ ?assign ?body ?done (fun _ _ _ _ h _ => h.elim)
  case hI =>
    rintro k W W' row ⟨v, hk, h, hs⟩ hg hr'
    have sm := Same.own hg fun r e => (hr' r e).2
    exact ⟨v, hk, h.same sm ((Below.refl _ W).grown hg h.bel.size fun j e => by have := (hr' j e).1; omega), Nat.le_trans hs hg.size⟩
  case hQ =>
    rintro k W ⟨v, _, h, _⟩
    exact HFX.out W h.bel h.kB
  case assign =>
    intro l x W K hK
    gi_wp2
    exact hK
  case body =>
    rintro l k ⟨x, y⟩ W ⟨v, _, h, hsW⟩ ⟨hkn, hx, hy⟩
    replace hx : x = (n : Int) - 1 - (k : Int) := hx
    replace hy : bs[n - 1 - k]? = some y := hy
    have hxn : x = ((n - 1 - k : Nat) : Int) := by omega
    have e1 : n - 1 - k + 1 = n - k := by omega
    have e2 : n - (k + 1) = n - 1 - k := by omega
    have y0 := h.kS.cell 0
    simp at y0
    cases y
    · have HS := put (wtF_not hy)
      rw [e1] at HS
      gi_wp2
      exact ⟨k + 1, rfl, KeepsOthers.refl _, trivial, v, by omega, by rw [e2, HS.out]; exact h, hsW⟩
    · have HS := put (wtF_set hy)
      rw [e1] at HS
      have hxl : (wtF bs (n - k)).length ≤ 2000000 := by have h1 := wtF_length bs (n - k); have h2 := HLN.out; omega
      have f0 := h.kS.frozen 0
      have hA := Nums.alloc h.nu (.cells #[.int .i64 x] 3)
      have hkA := h.kS.alloc (.cells #[.int .i64 x] 3)
      have hkB := h.kB.alloc (.cells #[.int .i64 x] 3)
      have hbA := h.bel.alloc h.bel.size (.cells #[.int .i64 x] 3)
      have ko1 := KeepsOthers.alloc W (.cells #[.int .i64 x] 3)
      have hbase : w.heap.size ≤ W.heap.size + 1 := by have := h.bel.size; omega
      have l0 := (Keep.new W #[.int .i64 x] 3).cell 0
      simp only [List.getElem?_toArray, List.getElem?_cons_zero] at l0
      have HX := put hxn
      have hlt1 := h.kS.lt
      clear h hx hxn hy
      gi_wp2_with (
        gi_at_builtin
        refine wpListIn_num rfl _ _ rfl w.heap.size _ (wtF bs (n - k)) rfl (by simpa using hbase) hA W.heap.size x rfl l0 hxl ?_
        intro v5 w5 hn5 hg5
        obtain ⟨A5, n5, c5, rfl⟩ := slice_of hn5
        have k5 := hkA.apart hg5 hA (by decide)
        have f5 := k5.frozen 0
        have x5 := k5.cell 0
        have ko5 := (ko1.trans (KeepsOthers.of_grownBy hg5 (row_cells hA))).trans (KeepsOthers.setCell w5 ⟨w.heap.size, 0, none⟩ (.slice A5 n5 c5))
        have k6 : Keep (w5.setCell ⟨w.heap.size, 0, none⟩ (.slice A5 n5 c5)) w.heap.size #[.slice A5 n5 c5] 23 := by simpa using k5.set 0 (.slice A5 n5 c5)
        have sm : Same 23 w5 (w5.setCell ⟨w.heap.size, 0, none⟩ (.slice A5 n5 c5)) := .set k5 0 (.slice A5 n5 c5)
        have n6 : Nums (w5.setCell ⟨w.heap.size, 0, none⟩ (.slice A5 n5 c5)) w.heap.size 3 .i64 (.slice A5 n5 c5) (wtF bs (n - k) ++ [x]) := sm.row hn5 (by decide)
        have kB6 := (hkB.apart hg5 hA (by decide)).other (g' := w.heap.size) (by omega) 0 (.slice A5 n5 c5)
        have b6 := (hbA.grown hg5 hbA.size fun j e => (World.ownsRow.lt hA j e).1).setCell (p := ⟨w.heap.size, 0, none⟩) (Nat.le_refl _) (.slice A5 n5 c5)
        simp only [List.getElem?_toArray, List.getElem?_cons_zero] at x5
        clear sm hA hkA hkB hbA ko1 hg5 hn5 k5)
      exact ⟨k + 1, rfl, ko5, trivial, _, by omega, ⟨k6, kB6, by rw [e2, HS.out, ← HX.out]; exact n6, b6⟩, Nat.le_trans hsW ko5.size⟩
  case done =>
    rintro D k W hD hres ⟨v, _, h, hsW⟩ hK
    have hkm : n = k := Option.some.inj hres
    subst hkm
    have hZD : w.heap.size ≠ D := by omega
    have y0 := h.kS.cell 0
    simp at y0
    have hDw : w.heap.size ≤ D := by omega
    have nF : Nums W w.heap.size 3 .i64 v (wtL bs) := by have := h.nu; rwa [Nat.sub_self] at this
    have ow : ∀ o, Nums (W.putObj D o) w.heap.size 3 .i64 v (wtL bs) := fun o => (Same.own (grownBy_putObj' W D o) (fun r e => by cases e; exact ⟨_, hK, rfl⟩)).row nF (by decide)
    have bG : ∀ o, Below w.heap.size w (W.putObj D o) := fun o => h.bel.grown (grownBy_putObj' W D o) h.bel.size (fun j e => by cases e; exact hDw)
    clear h nF hres hsW
    go_wp2
    refine ⟨by simp, .inl ⟨_, _, rfl, run_takeDeferred hK, ?_⟩⟩
    exact ⟨v, by simp [results, Try.results22, go_sem], v, rfl, ow _, bG _⟩

end Go.Proofs.Ytpbkkjiikhjanaa

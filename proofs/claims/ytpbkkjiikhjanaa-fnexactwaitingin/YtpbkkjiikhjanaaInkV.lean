/-
  The laws' marks on what they have copied: numbers over numbers, truths over truths, in the copy's own blocks alone.
-/
import Derived.Test.YtpbkkjiikhjanaaVz
namespace Go.Proofs.Ytpbkkjiikhjanaa
open Go.RowKit Exs

/-- A number for a number, a truth for a truth, else the same. -/
def Kin (v v' : Value) : Prop := v' = v ∨ (∃ x y : Int, v = .int .i64 x ∧ v' = .int .i64 y) ∨ ∃ x y : Bool, v = .bool x ∧ v' = .bool y
theorem Kin.trans {a b c : Value} (h : Kin a b) (k : Kin b c) : Kin a c := by
  rcases h with rfl | ⟨x, y, rfl, rfl⟩ | ⟨x, y, rfl, rfl⟩
  · exact k
  · rcases k with rfl | ⟨x', y', _, rfl⟩ | ⟨x', y', h, rfl⟩
    · exact .inr (.inl ⟨x, y, rfl, rfl⟩)
    · exact .inr (.inl ⟨x, y', rfl, rfl⟩)
    · cases h
  · rcases k with rfl | ⟨x', y', h, rfl⟩ | ⟨x', y', _, rfl⟩
    · exact .inr (.inr ⟨x, y, rfl, rfl⟩)
    · cases h
    · exact .inr (.inr ⟨x, y', rfl, rfl⟩)
/-- From block L on and below R numbers and truths may have been written over their like; all else is as it was. -/
structure Inkv (L R : Nat) (w w' : World) : Prop where
  below : Below L w w'
  above : ∀ k, R ≤ k → k < w.heap.size → w'.heap[k]? = w.heap[k]?
  cells : ∀ (k : Nat) (cs : Array Value) (t : TypeId), w.heap[k]? = some (.cells cs t (0, 0)) → ∃ cs' : Array Value, w'.heap[k]? = some (.cells cs' t (0, 0)) ∧ cs'.size = cs.size ∧ ∀ (i : Nat) (v : Value), cs[i]? = some v → ∃ v', cs'[i]? = some v' ∧ Kin v v'
theorem Inkv.refl (L R : Nat) (w : World) : Inkv L R w w := ⟨Below.refl _ _, fun _ _ _ => rfl, fun _ cs _ h => ⟨cs, h, rfl, fun _ v h => ⟨v, h, .inl rfl⟩⟩⟩
theorem Inkv.trans {L R : Nat} {a b c : World} (h : Inkv L R a b) (k : Inkv L R b c) : Inkv L R a c := by
  refine ⟨h.below.trans k.below, fun i hi hs => (k.above i hi (by have := h.below.size; omega)).trans (h.above i hi hs), fun i cs t hc => ?_⟩
  obtain ⟨ds, h1, h2, h3⟩ := h.cells i cs t hc
  obtain ⟨es, k1, k2, k3⟩ := k.cells i ds t h1
  refine ⟨es, k1, k2.trans h2, fun j v hv => ?_⟩
  obtain ⟨v', h4, h5⟩ := h3 j v hv
  obtain ⟨v'', k4, k5⟩ := k3 j v' h4
  exact ⟨v'', k4, h5.trans k5⟩
theorem Inkv.alloc {L R : Nat} {w w' : World} (h : Inkv L R w w') (hL : L ≤ w'.heap.size) (o : Obj) : Inkv L R w (w'.alloc o) := by
  refine ⟨h.below.alloc hL o, fun k hk hs => (Below.heap_alloc _ _ _ (by have := h.below.size; omega)).trans (h.above k hk hs), fun k cs t hc => ?_⟩
  obtain ⟨cs', h1, h2⟩ := h.cells k cs t hc
  exact ⟨cs', (Below.heap_alloc _ _ _ ((Array.getElem?_eq_some_iff.1 h1).1)).trans h1, h2⟩
theorem Inkv.setK {L R : Nat} {w w' : World} (h : Inkv L R w w') {g i : Nat} {cs : Array Value} {t : TypeId} {u : Value} (hL : L ≤ g) (hR : g < R) (hg : w.heap[g]? = some (.cells cs t (0, 0))) (hc : cs[i]? = some u) (v : Value) (hk : Kin u v) :
    Inkv L R w (w'.setCell ⟨g, i, none⟩ v) := by
  refine ⟨h.below.setCell hL _, fun k hk hs => (Below.heap_setCell _ _ _ _ (show k ≠ g by omega)).trans (h.above k hk hs), fun k ds u' hd => ?_⟩
  obtain ⟨ds', h1, h2, h3⟩ := h.cells k ds u' hd
  by_cases hkg : k = g
  · subst hkg
    rw [hg] at hd
    injection hd with hd
    injection hd with e1 e2 _
    subst e1 e2
    refine ⟨ds'.setIfInBounds i v, heap_set h1, by simpa using h2, fun j x hv => ?_⟩
    by_cases hj : j = i
    · subst hj
      rw [hc] at hv
      injection hv with hv
      subst hv
      have := (Array.getElem?_eq_some_iff.1 hc).1
      exact ⟨v, by rw [Array.getElem?_setIfInBounds, if_pos rfl, if_pos (by omega)], hk⟩
    · rw [Array.getElem?_setIfInBounds, if_neg (fun e => hj e.symm)]
      exact h3 j x hv
  · exact ⟨ds', (Below.heap_setCell _ _ _ _ hkg).trans h1, h2, h3⟩
theorem Inkv.set {L R : Nat} {w w' : World} (h : Inkv L R w w') {g i : Nat} {cs : Array Value} {t : TypeId} {x : Int} (hL : L ≤ g) (hR : g < R) (hg : w.heap[g]? = some (.cells cs t (0, 0))) (hc : cs[i]? = some (.int .i64 x)) (y : Int) :
    Inkv L R w (w'.setCell ⟨g, i, none⟩ (.int .i64 y)) := h.setK hL hR hg hc _ (.inr (.inl ⟨x, y, rfl, rfl⟩))
theorem Inkv.setB {L R : Nat} {w w' : World} (h : Inkv L R w w') {g i : Nat} {cs : Array Value} {t : TypeId} {x : Bool} (hL : L ≤ g) (hR : g < R) (hg : w.heap[g]? = some (.cells cs t (0, 0))) (hc : cs[i]? = some (.bool x)) (y : Bool) :
    Inkv L R w (w'.setCell ⟨g, i, none⟩ (.bool y)) := h.setK hL hR hg hc _ (.inr (.inr ⟨x, y, rfl, rfl⟩))
theorem Inkv.num {L R : Nat} {w w' : World} (h : Inkv L R w w') {g i : Nat} {cs : Array Value} {t : TypeId} {x : Int} (hg : w.heap[g]? = some (.cells cs t (0, 0))) (hc : cs[i]? = some (.int .i64 x)) : ∃ y, w'.cell? ⟨g, i, none⟩ = some (.int .i64 y) := by
  obtain ⟨cs', h1, h2, h3⟩ := h.cells g cs t hg
  obtain ⟨v', h4, h5⟩ := h3 i _ hc
  rw [cell_of_row w' g i cs' t (0, 0) h1, h4]
  rcases h5 with rfl | ⟨_, y, _, rfl⟩ | ⟨_, _, h, _⟩
  · exact ⟨x, rfl⟩
  · exact ⟨y, rfl⟩
  · cases h
theorem Inkv.tru {L R : Nat} {w w' : World} (h : Inkv L R w w') {g i : Nat} {cs : Array Value} {t : TypeId} {x : Bool} (hg : w.heap[g]? = some (.cells cs t (0, 0))) (hc : cs[i]? = some (.bool x)) : ∃ y, w'.cell? ⟨g, i, none⟩ = some (.bool y) := by
  obtain ⟨cs', h1, h2, h3⟩ := h.cells g cs t hg
  obtain ⟨v', h4, h5⟩ := h3 i _ hc
  rw [cell_of_row w' g i cs' t (0, 0) h1, h4]
  rcases h5 with rfl | ⟨_, _, h, _⟩ | ⟨_, y, _, rfl⟩
  · exact ⟨x, rfl⟩
  · cases h
  · exact ⟨y, rfl⟩
theorem Inkv.slc {L R : Nat} {w w' : World} (h : Inkv L R w w') {g i : Nat} {cs : Array Value} {t : TypeId} {A : Option Addr} {n c : Nat} (hg : w.heap[g]? = some (.cells cs t (0, 0))) (hc : cs[i]? = some (.slice A n c)) : w'.cell? ⟨g, i, none⟩ = some (.slice A n c) := by
  obtain ⟨cs', h1, h2, h3⟩ := h.cells g cs t hg
  obtain ⟨v', h4, h5⟩ := h3 i _ hc
  rw [cell_of_row w' g i cs' t (0, 0) h1, h4]
  rcases h5 with rfl | ⟨_, _, h, _⟩ | ⟨_, _, h, _⟩
  · rfl
  · cases h
  · cases h
theorem Inkv.frozen {L R : Nat} {w w' : World} (h : Inkv L R w w') {g : Nat} {cs : Array Value} {t : TypeId} (hg : w.heap[g]? = some (.cells cs t (0, 0))) (i : Nat) : w'.frozen? ⟨g, i, none⟩ = false := by
  obtain ⟨cs', h1, _⟩ := h.cells g cs t hg
  simp [World.frozen?, h1]
theorem Nums.inkv {w w' : World} {B L R : Nat} {t : TypeId} {k : IntKind} {v : Value} {xs : List Int} (h : Nums w B t k v xs) (hR : R ≤ B) (hi : Inkv L R w w') : Nums w' B t k v xs := by
  obtain ⟨h1, h2⟩ := h
  refine ⟨h1, ?_⟩
  rcases h2 with h2 | ⟨g, cap, cur, hv, hg, hh, r⟩
  · exact Or.inl h2
  · exact Or.inr ⟨g, cap, cur, hv, hg, (hi.above g (by omega) (Array.getElem?_eq_some_iff.1 hh).1).trans hh, r⟩
theorem Room.cellz {w : World} {g : Nat} {t : TypeId} {c : Nat} {k : IntKind} {xs : List Int} (h : Room w g t c k xs) : ∃ cs : Array Value, w.heap[g]? = some (.cells cs t (0, 0)) ∧ ∀ j, j < xs.length → cs[j]? = some (.int k (xs.getD j 0)) := by
  have hc := h.cell
  obtain ⟨cs, h1, _⟩ := h
  refine ⟨cs, h1, fun j hj => ?_⟩
  rw [← hc j hj, cell_of_row w g j cs t (0, 0) h1]

set_option maxHeartbeats 400000 in
set_option maxRecDepth 100000 in
theorem markInts_v (A : Option Addr) (n c : Nat) (xs : List Int) (k : Int) (L : Nat) (wc w0 w : World) (m : MInts wc L A n xs) (hw : Below wc.heap.size wc w0) (hi : Inkv L wc.heap.size w0 w) (hn : n ≤ 1048576) (hk0 : 0 ≤ k) (hk1 : k ≤ 1000000000) :
    Calls Try.prog 11 #[.slice A n c, .int .i64 k] w fun e w' => e = .returned (.int .i64 (k + (n : Int))) ∧ Inkv L wc.heap.size w0 w' := by
  obtain ⟨g, rfl, hL, hroom, hl⟩ := m
  have hlt := hroom.lt
  obtain ⟨cs, hg0, hcs⟩ := hroom.cellz
  have hg := (hw.block g hlt).trans hg0
  clear hg0
  have HL := put hl
  have HG := put hg
  have HLT := put hlt
  have HC := put hcs
  clear hg hcs hl hroom hlt
  go_enter Try.func11, Try.ntmps11
  go_wp2
  go_loopw [1, 5] (fun u i wr => ∃ j : Nat, j ≤ n ∧ i = .int .i64 j ∧ u = .int .i64 (k + (j : Int)) ∧ Inkv L wc.heap.size w0 wr) (fun _ i _ => n - (intOf i).toNat)
  case atStart => exact ⟨0, Nat.zero_le _, rfl, by simp, hi⟩
  case round =>
    clear hi
    obtain ⟨j, hj, rfl, rfl, hi⟩ := hrel
    by_cases hlt : j < n
    · have hc := HC.out j (by rw [HL.out]; exact hlt)
      obtain ⟨y, hy⟩ := hi.num HG.out hc
      have hfr := hi.frozen HG.out j
      have hset := put (hi.set hL HLT.out HG.out hc (k + (j : Int)))
      clear hc
      go_wp2
      go_roundw
      case rel => exact ⟨j + 1, by omega, by go_num, by first | (congr 1; done) | (congr 1; omega), hset.out⟩
      case measure => simp [intOf]; omega
    · obtain rfl : j = n := by omega
      go_wp2
      go_ret
      exact ⟨rfl, hi⟩

set_option maxHeartbeats 400000 in
set_option maxRecDepth 100000 in
theorem markBools_v (A : Option Addr) (n c : Nat) (xs : List Bool) (k : Int) (L : Nat) (wc w0 w : World) (m : MBools wc L A n xs) (hw : Below wc.heap.size wc w0) (hi : Inkv L wc.heap.size w0 w) (hn : n ≤ 1048576) (hk0 : 0 ≤ k) (hk1 : k ≤ 1000000000) :
    Calls Try.prog 33 #[.slice A n c, .int .i64 k] w fun e w' => e = .returned (.int .i64 (k + (n : Int))) ∧ Inkv L wc.heap.size w0 w' := by
  obtain ⟨g, rfl, hL, hroom, hl⟩ := m
  have hlt := hroom.lt
  obtain ⟨cs, hg0, hcs⟩ := hroom.cellz
  have hg := (hw.block g hlt).trans hg0
  clear hg0
  have HL := put hl
  have HG := put hg
  have HLT := put hlt
  have HC := put hcs
  clear hg hcs hl hroom hlt
  go_enter Try.func33, Try.ntmps33
  go_wp2
  go_loopw [1, 5] (fun u i wr => ∃ j : Nat, j ≤ n ∧ i = .int .i64 j ∧ u = .int .i64 (k + (j : Int)) ∧ Inkv L wc.heap.size w0 wr) (fun _ i _ => n - (intOf i).toNat)
  case atStart => exact ⟨0, Nat.zero_le _, rfl, by simp, hi⟩
  case round =>
    clear hi
    obtain ⟨j, hj, rfl, rfl, hi⟩ := hrel
    by_cases hlt : j < n
    · obtain ⟨x, hx⟩ : ∃ x, xs[j]? = some x := ⟨_, List.getElem?_eq_getElem (by rw [HL.out]; exact hlt)⟩
      have hc := HC.out j (.bool x) (by simp [hx])
      obtain ⟨y, hy⟩ := hi.tru HG.out hc
      have hfr := hi.frozen HG.out j
      have hset := put (fun z => hi.setB hL HLT.out HG.out hc z)
      clear hc hx
      go_wp2
      go_roundw
      case rel => exact ⟨j + 1, by omega, by go_num, by first | (congr 1; done) | (congr 1; omega), hset.out _⟩
      case measure => simp [intOf]; omega
    · obtain rfl : j = n := by omega
      go_wp2
      go_ret
      exact ⟨rfl, hi⟩

set_option maxHeartbeats 400000 in
set_option maxRecDepth 100000 in
theorem markRows_v (A : Option Addr) (n c : Nat) (ts : List Row3) (k : Int) (L : Nat) (wc w0 w : World) (m : MRows wc L A n ts) (hw : Below wc.heap.size wc w0) (hi : Inkv L wc.heap.size w0 w) (hn : n ≤ 1048576) (hk0 : 0 ≤ k) (hk1 : k ≤ 1000000000) :
    Calls Try.prog 26 #[.slice A n c, .int .i64 k] w fun e w' => e = .returned (.int .i64 (k + 3 * (n : Int))) ∧ Inkv L wc.heap.size w0 w' := by
  obtain ⟨g, rfl, hL, hroom, hl⟩ := m
  have hlt := hroom.lt
  obtain ⟨cs, hg0, hcs⟩ := hroom.cellz
  have hg := (hw.block g hlt).trans hg0
  clear hg0
  rw [flat3_length, hl] at hcs
  have HG := put hg
  have HLT := put hlt
  have HC := put hcs
  clear hg hcs hl hroom hlt
  go_enter Try.func26, Try.ntmps26
  go_wp2
  go_loopw [1, 5] (fun u i wr => ∃ j : Nat, j ≤ n ∧ i = .int .i64 j ∧ u = .int .i64 (k + 3 * (j : Int)) ∧ Inkv L wc.heap.size w0 wr) (fun _ i _ => n - (intOf i).toNat)
  case atStart => exact ⟨0, Nat.zero_le _, rfl, by simp, hi⟩
  case round =>
    clear hi
    obtain ⟨j, hj, rfl, rfl, hi⟩ := hrel
    by_cases hlt : j < n
    · have hc := HC.out (j * 3) (by omega)
      have hc' := HC.out (j * 3 + 1) (by omega)
      have hc2 := HC.out (j * 3 + 2) (by omega)
      obtain ⟨y, hy⟩ := hi.num HG.out hc
      obtain ⟨y', hy'⟩ := hi.num HG.out hc'
      obtain ⟨y2, hy2⟩ := hi.num HG.out hc2
      have hfr := hi.frozen HG.out (j * 3)
      have hfr' := hi.frozen HG.out (j * 3 + 1)
      have hfr2 := hi.frozen HG.out (j * 3 + 2)
      have hset := put (((hi.set hL HLT.out HG.out hc (k + 3 * (j : Int))).set hL HLT.out HG.out hc' (k + 3 * (j : Int) + 1)).set hL HLT.out HG.out hc2 (k + 3 * (j : Int) + 1 + 1))
      clear hc hc' hc2
      go_wp2
      go_roundw
      case rel => exact ⟨j + 1, by omega, by go_num, by first | (congr 1; done) | (congr 1; omega), hset.out⟩
      case measure => simp [intOf]; omega
    · obtain rfl : j = n := by omega
      go_wp2
      go_ret
      exact ⟨rfl, hi⟩

end Go.Proofs.Ytpbkkjiikhjanaa

/-
  The laws' marks on a copied image: numbers over numbers, in the copy's own blocks alone. Contracts.
-/
import Derived.Test.YtpbkkjiikhjanaaCoTo2
namespace Go.Proofs.Ytpbkkjiikhjanaa
open Go.RowKit Exs

/-- From block L on and below R numbers may have been written over numbers; all else is as it was. -/
structure Inked (L R : Nat) (w w' : World) : Prop where
  below : Below L w w'
  above : ∀ k, R ≤ k → k < w.heap.size → w'.heap[k]? = w.heap[k]?
  cells : ∀ (k : Nat) (cs : Array Value) (t : TypeId), w.heap[k]? = some (.cells cs t (0, 0)) → ∃ cs' : Array Value, w'.heap[k]? = some (.cells cs' t (0, 0)) ∧ cs'.size = cs.size ∧ ∀ (i : Nat) (v : Value), cs[i]? = some v → (∃ x y, v = .int .i64 x ∧ cs'[i]? = some (.int .i64 y)) ∨ cs'[i]? = some v
theorem Inked.refl (L R : Nat) (w : World) : Inked L R w w := ⟨Below.refl _ _, fun _ _ _ => rfl, fun _ cs _ h => ⟨cs, h, rfl, fun _ _ h => .inr h⟩⟩
theorem Inked.trans {L R : Nat} {a b c : World} (h : Inked L R a b) (k : Inked L R b c) : Inked L R a c := by
  refine ⟨h.below.trans k.below, fun i hi hs => (k.above i hi (by have := h.below.size; omega)).trans (h.above i hi hs), fun i cs t hc => ?_⟩
  obtain ⟨ds, h1, h2, h3⟩ := h.cells i cs t hc
  obtain ⟨es, k1, k2, k3⟩ := k.cells i ds t h1
  refine ⟨es, k1, k2.trans h2, fun j v hv => ?_⟩
  rcases h3 j v hv with ⟨x, y, rfl, hy⟩ | hy
  · rcases k3 j _ hy with ⟨_, z, _, hz⟩ | hz
    · exact .inl ⟨x, z, rfl, hz⟩
    · exact .inl ⟨x, y, rfl, hz⟩
  · exact k3 j v hy
theorem Inked.alloc {L R : Nat} {w w' : World} (h : Inked L R w w') (hL : L ≤ w'.heap.size) (o : Obj) : Inked L R w (w'.alloc o) := by
  refine ⟨h.below.alloc hL o, fun k hk hs => (Below.heap_alloc _ _ _ (by have := h.below.size; omega)).trans (h.above k hk hs), fun k cs t hc => ?_⟩
  obtain ⟨cs', h1, h2⟩ := h.cells k cs t hc
  exact ⟨cs', (Below.heap_alloc _ _ _ ((Array.getElem?_eq_some_iff.1 h1).1)).trans h1, h2⟩
theorem Inked.set {L R : Nat} {w w' : World} (h : Inked L R w w') {g i : Nat} {cs : Array Value} {t : TypeId} {x : Int} (hL : L ≤ g) (hR : g < R) (hg : w.heap[g]? = some (.cells cs t (0, 0))) (hc : cs[i]? = some (.int .i64 x)) (y : Int) :
    Inked L R w (w'.setCell ⟨g, i, none⟩ (.int .i64 y)) := by
  refine ⟨h.below.setCell hL _, fun k hk hs => (Below.heap_setCell _ _ _ _ (show k ≠ g by omega)).trans (h.above k hk hs), fun k ds u hd => ?_⟩
  obtain ⟨ds', h1, h2, h3⟩ := h.cells k ds u hd
  by_cases hkg : k = g
  · subst hkg
    rw [hg] at hd
    injection hd with hd
    injection hd with e1 e2 _
    subst e1 e2
    refine ⟨ds'.setIfInBounds i (.int .i64 y), heap_set h1, by simpa using h2, fun j v hv => ?_⟩
    by_cases hj : j = i
    · subst hj
      rw [hc] at hv
      injection hv with hv
      refine .inl ⟨x, y, hv.symm, ?_⟩
      have := (Array.getElem?_eq_some_iff.1 hc).1
      rw [Array.getElem?_setIfInBounds, if_pos rfl, if_pos (by omega)]
    · rw [Array.getElem?_setIfInBounds, if_neg (fun e => hj e.symm)]
      exact h3 j v hv
  · exact ⟨ds', (Below.heap_setCell _ _ _ _ hkg).trans h1, h2, h3⟩
theorem Inked.num {L R : Nat} {w w' : World} (h : Inked L R w w') {g i : Nat} {cs : Array Value} {t : TypeId} {x : Int} (hg : w.heap[g]? = some (.cells cs t (0, 0))) (hc : cs[i]? = some (.int .i64 x)) : ∃ y, w'.cell? ⟨g, i, none⟩ = some (.int .i64 y) := by
  obtain ⟨cs', h1, h2, h3⟩ := h.cells g cs t hg
  rw [cell_of_row w' g i cs' t (0, 0) h1]
  rcases h3 i _ hc with ⟨_, y, _, hy⟩ | hy
  · exact ⟨y, hy⟩
  · exact ⟨x, hy⟩
theorem Inked.slc {L R : Nat} {w w' : World} (h : Inked L R w w') {g i : Nat} {cs : Array Value} {t : TypeId} {A : Option Addr} {n c : Nat} (hg : w.heap[g]? = some (.cells cs t (0, 0))) (hc : cs[i]? = some (.slice A n c)) : w'.cell? ⟨g, i, none⟩ = some (.slice A n c) := by
  obtain ⟨cs', h1, h2, h3⟩ := h.cells g cs t hg
  rw [cell_of_row w' g i cs' t (0, 0) h1]
  rcases h3 i _ hc with ⟨_, y, hx, _⟩ | hy
  · cases hx
  · exact hy
theorem Inked.frozen {L R : Nat} {w w' : World} (h : Inked L R w w') {g : Nat} {cs : Array Value} {t : TypeId} (hg : w.heap[g]? = some (.cells cs t (0, 0))) (i : Nat) : w'.frozen? ⟨g, i, none⟩ = false := by
  obtain ⟨cs', h1, _⟩ := h.cells g cs t hg
  simp [World.frozen?, h1]

theorem Room.cells_ {w : World} {g : Nat} {t : TypeId} {c : Nat} {k : IntKind} {xs : List Int} (h : Room w g t c k xs) : ∃ cs : Array Value, w.heap[g]? = some (.cells cs t (0, 0)) ∧ ∀ j, j < xs.length → cs[j]? = some (.int k (xs.getD j 0)) := by
  have hc := h.cell
  obtain ⟨cs, h1, _⟩ := h
  refine ⟨cs, h1, fun j hj => ?_⟩
  rw [← hc j hj, cell_of_row w g j cs t (0, 0) h1]


def inkC (s : Cd) : Nat := 2 + s.sites.length + 2 * s.ins.length + 3 * s.rows.length
def inkCs : List Cd → Nat
  | [] => 0
  | s :: r => inkC s + inkCs r
theorem inkCs_append (a b : List Cd) : inkCs (a ++ b) = inkCs a + inkCs b := by induction a with | nil => simp [inkCs] | cons s r ih => simp [inkCs, ih]; omega
theorem inkCs_le : ∀ ss : List Cd, inkCs ss ≤ 3 * (ss.length + manyCs ss)
  | [] => by simp [inkCs]
  | s :: r => by have := inkCs_le r; simp only [inkCs, inkC, manyCs, manyC, List.length_cons]; omega
theorem inkCs_step {ss : List Cd} {k : Nat} {s : Cd} (h : ss[k]? = some s) : inkCs (ss.take (k + 1)) = inkCs (ss.take k) + inkC s ∧ inkCs (ss.take k) + inkC s ≤ inkCs ss := by
  have h1 : inkCs (ss.take (k + 1)) = inkCs (ss.take k) + inkC s := by rw [takeA_more h, inkCs_append]; simp [inkCs]
  refine ⟨h1, ?_⟩
  rw [← h1]
  conv => rhs; rw [← List.take_append_drop (k + 1) ss, inkCs_append]
  omega
set_option maxHeartbeats 400000 in
set_option maxRecDepth 100000 in
theorem markInts_ink (A : Option Addr) (n c : Nat) (xs : List Int) (k : Int) (L : Nat) (wc w0 w : World) (m : MInts wc L A n xs) (hw : Below wc.heap.size wc w0) (hi : Inked L wc.heap.size w0 w) (hn : n ≤ 1048576) (hk0 : 0 ≤ k) (hk1 : k ≤ 1000000000) :
    Calls Try.prog 11 #[.slice A n c, .int .i64 k] w fun e w' => e = .returned (.int .i64 (k + (n : Int))) ∧ Inked L wc.heap.size w0 w' := by
  obtain ⟨g, rfl, hL, hroom, hl⟩ := m
  have hlt := hroom.lt
  obtain ⟨cs, hg0, hcs⟩ := hroom.cells_
  have hg := (hw.block g hlt).trans hg0
  clear hg0
  have HL := put hl
  have HG := put hg
  have HLT := put hlt
  have HC := put hcs
  clear hg hcs hl hroom hlt
  go_enter Try.func11, Try.ntmps11
  go_wp2
  go_loopw [1, 5] (fun u i wr => ∃ j : Nat, j ≤ n ∧ i = .int .i64 j ∧ u = .int .i64 (k + (j : Int)) ∧ Inked L wc.heap.size w0 wr) (fun _ i _ => n - (intOf i).toNat)
  case atStart => exact ⟨0, Nat.zero_le _, rfl, by simp, hi⟩
  case round =>
    clear hi
    obtain ⟨j, hj, rfl, rfl, hi⟩ := hrel
    by_cases hlt : j < n
    · have hc := HC.out j (by rw [HL.out]; exact hlt)
      obtain ⟨y, hy⟩ := hi.num HG.out hc
      have hfr := hi.frozen HG.out j
      have hset := put (hi.set hL HLT.out HG.out hc (k + (j : Int)))
      clear hc
      go_wp2
      go_roundw
      case rel => exact ⟨j + 1, by omega, by go_num, by first | (congr 1; done) | (congr 1; omega), hset.out⟩
      case measure => simp [intOf]; omega
    · obtain rfl : j = n := by omega
      go_wp2
      go_ret
      exact ⟨rfl, hi⟩

set_option maxHeartbeats 400000 in
set_option maxRecDepth 100000 in
theorem markRows_ink (A : Option Addr) (n c : Nat) (ts : List Row3) (k : Int) (L : Nat) (wc w0 w : World) (m : MRows wc L A n ts) (hw : Below wc.heap.size wc w0) (hi : Inked L wc.heap.size w0 w) (hn : n ≤ 1048576) (hk0 : 0 ≤ k) (hk1 : k ≤ 1000000000) :
    Calls Try.prog 26 #[.slice A n c, .int .i64 k] w fun e w' => e = .returned (.int .i64 (k + 3 * (n : Int))) ∧ Inked L wc.heap.size w0 w' := by
  obtain ⟨g, rfl, hL, hroom, hl⟩ := m
  have hlt := hroom.lt
  obtain ⟨cs, hg0, hcs⟩ := hroom.cells_
  have hg := (hw.block g hlt).trans hg0
  clear hg0
  rw [flat3_length, hl] at hcs
  have HG := put hg
  have HLT := put hlt
  have HC := put hcs
  clear hg hcs hl hroom hlt
  go_enter Try.func26, Try.ntmps26
  go_wp2
  go_loopw [1, 5] (fun u i wr => ∃ j : Nat, j ≤ n ∧ i = .int .i64 j ∧ u = .int .i64 (k + 3 * (j : Int)) ∧ Inked L wc.heap.size w0 wr) (fun _ i _ => n - (intOf i).toNat)
  case atStart => exact ⟨0, Nat.zero_le _, rfl, by simp, hi⟩
  case round =>
    clear hi
    obtain ⟨j, hj, rfl, rfl, hi⟩ := hrel
    by_cases hlt : j < n
    · have hc := HC.out (j * 3) (by omega)
      have hc' := HC.out (j * 3 + 1) (by omega)
      have hc2 := HC.out (j * 3 + 2) (by omega)
      obtain ⟨y, hy⟩ := hi.num HG.out hc
      obtain ⟨y', hy'⟩ := hi.num HG.out hc'
      obtain ⟨y2, hy2⟩ := hi.num HG.out hc2
      have hfr := hi.frozen HG.out (j * 3)
      have hfr' := hi.frozen HG.out (j * 3 + 1)
      have hfr2 := hi.frozen HG.out (j * 3 + 2)
      have hset := put (((hi.set hL HLT.out HG.out hc (k + 3 * (j : Int))).set hL HLT.out HG.out hc' (k + 3 * (j : Int) + 1)).set hL HLT.out HG.out hc2 (k + 3 * (j : Int) + 1 + 1))
      clear hc hc' hc2
      go_wp2
      go_roundw
      case rel => exact ⟨j + 1, by omega, by go_num, by first | (congr 1; done) | (congr 1; omega), hset.out⟩
      case measure => simp [intOf]; omega
    · obtain rfl : j = n := by omega
      go_wp2
      go_ret
      exact ⟨rfl, hi⟩

end Go.Proofs.Ytpbkkjiikhjanaa

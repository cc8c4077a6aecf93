/-
  The laws' marks on a copied image: numbers over numbers, in the copy's own blocks alone. Contracts.
-/
import Derived.Test.YtcpjddkhclaafaaDoorCoTo2
namespace Go.Proofs.YtcpjddkhclaafaaDoor
open Go.RowKit Exs

/-- From block L on and below R numbers may have been written over numbers; all else is as it was. -/
structure Inked (L R : Nat) (w w' : World) : Prop where
  below : Below L w w'
  above : ∀ k, R ≤ k → k < w.heap.size → w'.heap[k]? = w.heap[k]?
  cells : ∀ (k : Nat) (cs : Array Value) (t : TypeId), w.heap[k]? = some (.cells cs t (0, 0)) → ∃ cs' : Array Value, w'.heap[k]? = some (.cells cs' t (0, 0)) ∧ cs'.size = cs.size ∧ ∀ (i : Nat) (v : Value), cs[i]? = some v → (∃ x y, v = .int .i64 x ∧ cs'[i]? = some (.int .i64 y)) ∨ cs'[i]? = some v
theorem Inked.refl (L R : Nat) (w : World) : Inked L R w w := ⟨Below.refl _ _, fun _ _ _ => rfl, fun _ cs _ h => ⟨cs, h, rfl, fun _ _ h => .inr h⟩⟩
theorem Inked.trans {L R : Nat} {a b c : World} (h : Inked L R a b) (k : Inked L R b c) : Inked L R a c := by
  refine ⟨h.below.trans k.below, fun i hi hs => (k.above i hi (by have := h.below.size; omega)).trans (h.above i hi hs), fun i cs t hc => ?_⟩
  obtain ⟨ds, h1, h2, h3⟩ := h.cells i cs t hc
  obtain ⟨es, k1, k2, k3⟩ := k.cells i ds t h1
  refine ⟨es, k1, k2.trans h2, fun j v hv => ?_⟩
  rcases h3 j v hv with ⟨x, y, rfl, hy⟩ | hy
  · rcases k3 j _ hy with ⟨_, z, _, hz⟩ | hz
    · exact .inl ⟨x, z, rfl, hz⟩
    · exact .inl ⟨x, y, rfl, hz⟩
  · exact k3 j v hy
theorem Inked.alloc {L R : Nat} {w w' : World} (h : Inked L R w w') (hL : L ≤ w'.heap.size) (o : Obj) : Inked L R w (w'.alloc o) := by
  refine ⟨h.below.alloc hL o, fun k hk hs => (Below.heap_alloc _ _ _ (by have := h.below.size; omega)).trans (h.above k hk hs), fun k cs t hc => ?_⟩
  obtain ⟨cs', h1, h2⟩ := h.cells k cs t hc
  exact ⟨cs', (Below.heap_alloc _ _ _ ((Array.getElem?_eq_some_iff.1 h1).1)).trans h1, h2⟩
theorem Inked.set {L R : Nat} {w w' : World} (h : Inked L R w w') {g i : Nat} {cs : Array Value} {t : TypeId} {x : Int} (hL : L ≤ g) (hR : g < R) (hg : w.heap[g]? = some (.cells cs t (0, 0))) (hc : cs[i]? = some (.int .i64 x)) (y : Int) :
    Inked L R w (w'.setCell ⟨g, i, none⟩ (.int .i64 y)) := by
  refine ⟨h.below.setCell hL _, fun k hk hs => (Below.heap_setCell _ _ _ _ (show k ≠ g by omega)).trans (h.above k hk hs), fun k ds u hd => ?_⟩
  obtain ⟨ds', h1, h2, h3⟩ := h.cells k ds u hd
  by_cases hkg : k = g
  · subst hkg
    rw [hg] at hd
    injection hd with hd
    injection hd with e1 e2 _
    subst e1 e2
    refine ⟨ds'.setIfInBounds i (.int .i64 y), heap_set h1, by simpa using h2, fun j v hv => ?_⟩
    by_cases hj : j = i
    · subst hj
      rw [hc] at hv
      injection hv with hv
      refine .inl ⟨x, y, hv.symm, ?_⟩
      have := (Array.getElem?_eq_some_iff.1 hc).1
      rw [Array.getElem?_setIfInBounds, if_pos rfl, if_pos (by omega)]
    · rw [Array.getElem?_setIfInBounds, if_neg (fun e => hj e.symm)]
      exact h3 j v hv
  · exact ⟨ds', (Below.heap_setCell _ _ _ _ hkg).trans h1, h2, h3⟩
theorem Inked.num {L R : Nat} {w w' : World} (h : Inked L R w w') {g i : Nat} {cs : Array Value} {t : TypeId} {x : Int} (hg : w.heap[g]? = some (.cells cs t (0, 0))) (hc : cs[i]? = some (.int .i64 x)) : ∃ y, w'.cell? ⟨g, i, none⟩ = some (.int .i64 y) := by
  obtain ⟨cs', h1, h2, h3⟩ := h.cells g cs t hg
  rw [cell_of_row w' g i cs' t (0, 0) h1]
  rcases h3 i _ hc with ⟨_, y, _, hy⟩ | hy
  · exact ⟨y, hy⟩
  · exact ⟨x, hy⟩
theorem Inked.slc {L R : Nat} {w w' : World} (h : Inked L R w w') {g i : Nat} {cs : Array Value} {t : TypeId} {A : Option Addr} {n c : Nat} (hg : w.heap[g]? = some (.cells cs t (0, 0))) (hc : cs[i]? = some (.slice A n c)) : w'.cell? ⟨g, i, none⟩ = some (.slice A n c) := by
  obtain ⟨cs', h1, h2, h3⟩ := h.cells g cs t hg
  rw [cell_of_row w' g i cs' t (0, 0) h1]
  rcases h3 i _ hc with ⟨_, y, hx, _⟩ | hy
  · cases hx
  · exact hy
theorem Inked.frozen {L R : Nat} {w w' : World} (h : Inked L R w w') {g : Nat} {cs : Array Value} {t : TypeId} (hg : w.heap[g]? = some (.cells cs t (0, 0))) (i : Nat) : w'.frozen? ⟨g, i, none⟩ = false := by
  obtain ⟨cs', h1, _⟩ := h.cells g cs t hg
  simp [World.frozen?, h1]

theorem Room.cells_ {w : World} {g : Nat} {t : TypeId} {c : Nat} {k : IntKind} {xs : List Int} (h : Room w g t c k xs) : ∃ cs : Array Value, w.heap[g]? = some (.cells cs t (0, 0)) ∧ ∀ j, j < xs.length → cs[j]? = some (.int k (xs.getD j 0)) := by
  have hc := h.cell
  obtain ⟨cs, h1, _⟩ := h
  refine ⟨cs, h1, fun j hj => ?_⟩
  rw [← hc j hj, cell_of_row w g j cs t (0, 0) h1]


def inkC (s : Cd) : Nat := 2 + s.sites.length + 2 * s.ins.length + 3 * s.rows.length
def inkCs : List Cd → Nat
  | [] => 0
  | s :: r => inkC s + inkCs r
theorem inkCs_append (a b : List Cd) : inkCs (a ++ b) = inkCs a + inkCs b := by induction a with | nil => simp [inkCs] | cons s r ih => simp [inkCs, ih]; omega
theorem inkCs_le : ∀ ss : List Cd, inkCs ss ≤ 3 * (ss.length + manyCs ss)
  | [] => by simp [inkCs]
  | s :: r => by have := inkCs_le r; simp only [inkCs, inkC, manyCs, manyC, List.length_cons]; omega
theorem inkCs_step {ss : List Cd} {k : Nat} {s : Cd} (h : ss[k]? = some s) : inkCs (ss.take (k + 1)) = inkCs (ss.take k) + inkC s ∧ inkCs (ss.take k) + inkC s ≤ inkCs ss := by
  have h1 : inkCs (ss.take (k + 1)) = inkCs (ss.take k) + inkC s := by rw [takeA_more h, inkCs_append]; simp [inkCs]
  refine ⟨h1, ?_⟩
  rw [← h1]
  conv => rhs; rw [← List.take_append_drop (k + 1) ss, inkCs_append]
  omega
set_option maxHeartbeats 400000 in
set_option maxRecDepth 100000 in
theorem markInts_ink (A : Option Addr) (n c : Nat) (xs : List Int) (k : Int) (L : Nat) (wc w0 w : World) (m : MInts wc L A n xs) (hw : Below wc.heap.size wc w0) (hi : Inked L wc.heap.size w0 w) (hn : n ≤ 1048576) (hk0 : 0 ≤ k) (hk1 : k ≤ 1000000000) :
    Calls Tryd.prog 25 #[.slice A n c, .int .i64 k] w fun e w' => e = .returned (.int .i64 (k + (n : Int))) ∧ Inked L wc.heap.size w0 w' := by
  obtain ⟨g, rfl, hL, hroom, hl⟩ := m
  have hlt := hroom.lt
  obtain ⟨cs, hg0, hcs⟩ := hroom.cells_
  have hg := (hw.block g hlt).trans hg0
  clear hg0
  have HL := put hl
  have HG := put hg
  have HLT := put hlt
  have HC := put hcs
  clear hg hcs hl hroom hlt
  go_enter Tryd.func25, Tryd.ntmps25
  go_wp2
  go_loopw [1, 5] (fun u i wr => ∃ j : Nat, j ≤ n ∧ i = .int .i64 j ∧ u = .int .i64 (k + (j : Int)) ∧ Inked L wc.heap.size w0 wr) (fun _ i _ => n - (intOf i).toNat)
  case atStart => exact ⟨0, Nat.zero_le _, rfl, by simp, hi⟩
  case round =>
    clear hi
    obtain ⟨j, hj, rfl, rfl, hi⟩ := hrel
    by_cases hlt : j < n
    · have hc := HC.out j (by rw [HL.out]; exact hlt)
      obtain ⟨y, hy⟩ := hi.num HG.out hc
      have hfr := hi.frozen HG.out j
      have hset := put (hi.set hL HLT.out HG.out hc (k + (j : Int)))
      clear hc
      go_wp2
      go_roundw
      case rel => exact ⟨j + 1, by omega, by go_num, by first | (congr 1; done) | (congr 1; omega), hset.out⟩
      case measure => simp [intOf]; omega
    · obtain rfl : j = n := by omega
      go_wp2
      go_ret
      exact ⟨rfl, hi⟩

set_option maxHeartbeats 400000 in
set_option maxRecDepth 100000 in
theorem markToks_ink (A : Option Addr) (n c : Nat) (ts : List Token) (k : Int) (L : Nat) (wc w0 w : World) (m : MToks wc L A n ts) (hw : Below wc.heap.size wc w0) (hi : Inked L wc.heap.size w0 w) (hn : n ≤ 1048576) (hk0 : 0 ≤ k) (hk1 : k ≤ 1000000000) :
    Calls Tryd.prog 40 #[.slice A n c, .int .i64 k] w fun e w' => e = .returned (.int .i64 (k + 2 * (n : Int))) ∧ Inked L wc.heap.size w0 w' := by
  obtain ⟨g, rfl, hL, hroom, hl⟩ := m
  have hlt := hroom.lt
  obtain ⟨cs, hg0, hcs⟩ := hroom.cells_
  have hg := (hw.block g hlt).trans hg0
  clear hg0
  rw [flat_length, hl] at hcs
  have HG := put hg
  have HLT := put hlt
  have HC := put hcs
  clear hg hcs hl hroom hlt
  go_enter Tryd.func40, Tryd.ntmps40
  go_wp2
  go_loopw [1, 5] (fun u i wr => ∃ j : Nat, j ≤ n ∧ i = .int .i64 j ∧ u = .int .i64 (k + 2 * (j : Int)) ∧ Inked L wc.heap.size w0 wr) (fun _ i _ => n - (intOf i).toNat)
  case atStart => exact ⟨0, Nat.zero_le _, rfl, by simp, hi⟩
  case round =>
    clear hi
    obtain ⟨j, hj, rfl, rfl, hi⟩ := hrel
    by_cases hlt : j < n
    · have hc := HC.out (j * 2) (by omega)
      have hc' := HC.out (j * 2 + 1) (by omega)
      obtain ⟨y, hy⟩ := hi.num HG.out hc
      obtain ⟨y', hy'⟩ := hi.num HG.out hc'
      have hfr := hi.frozen HG.out (j * 2)
      have hfr' := hi.frozen HG.out (j * 2 + 1)
      have hset := put ((hi.set hL HLT.out HG.out hc (k + 2 * (j : Int))).set hL HLT.out HG.out hc' (k + 2 * (j : Int) + 1))
      clear hc hc'
      go_wp2
      go_roundw
      case rel => exact ⟨j + 1, by omega, by go_num, by first | (congr 1; done) | (congr 1; omega), hset.out⟩
      case measure => simp [intOf]; omega
    · obtain rfl : j = n := by omega
      go_wp2
      go_ret
      exact ⟨rfl, hi⟩

set_option maxHeartbeats 400000 in
set_option maxRecDepth 100000 in
theorem markRows_ink (A : Option Addr) (n c : Nat) (ts : List Row3) (k : Int) (L : Nat) (wc w0 w : World) (m : MRows wc L A n ts) (hw : Below wc.heap.size wc w0) (hi : Inked L wc.heap.size w0 w) (hn : n ≤ 1048576) (hk0 : 0 ≤ k) (hk1 : k ≤ 1000000000) :
    Calls Tryd.prog 41 #[.slice A n c, .int .i64 k] w fun e w' => e = .returned (.int .i64 (k + 3 * (n : Int))) ∧ Inked L wc.heap.size w0 w' := by
  obtain ⟨g, rfl, hL, hroom, hl⟩ := m
  have hlt := hroom.lt
  obtain ⟨cs, hg0, hcs⟩ := hroom.cells_
  have hg := (hw.block g hlt).trans hg0
  clear hg0
  rw [flat3_length, hl] at hcs
  have HG := put hg
  have HLT := put hlt
  have HC := put hcs
  clear hg hcs hl hroom hlt
  go_enter Tryd.func41, Tryd.ntmps41
  go_wp2
  go_loopw [1, 5] (fun u i wr => ∃ j : Nat, j ≤ n ∧ i = .int .i64 j ∧ u = .int .i64 (k + 3 * (j : Int)) ∧ Inked L wc.heap.size w0 wr) (fun _ i _ => n - (intOf i).toNat)
  case atStart => exact ⟨0, Nat.zero_le _, rfl, by simp, hi⟩
  case round =>
    clear hi
    obtain ⟨j, hj, rfl, rfl, hi⟩ := hrel
    by_cases hlt : j < n
    · have hc := HC.out (j * 3) (by omega)
      have hc' := HC.out (j * 3 + 1) (by omega)
      have hc2 := HC.out (j * 3 + 2) (by omega)
      obtain ⟨y, hy⟩ := hi.num HG.out hc
      obtain ⟨y', hy'⟩ := hi.num HG.out hc'
      obtain ⟨y2, hy2⟩ := hi.num HG.out hc2
      have hfr := hi.frozen HG.out (j * 3)
      have hfr' := hi.frozen HG.out (j * 3 + 1)
      have hfr2 := hi.frozen HG.out (j * 3 + 2)
      have hset := put (((hi.set hL HLT.out HG.out hc (k + 3 * (j : Int))).set hL HLT.out HG.out hc' (k + 3 * (j : Int) + 1)).set hL HLT.out HG.out hc2 (k + 3 * (j : Int) + 1 + 1))
      clear hc hc' hc2
      go_wp2
      go_roundw
      case rel => exact ⟨j + 1, by omega, by go_num, by first | (congr 1; done) | (congr 1; omega), hset.out⟩
      case measure => simp [intOf]; omega
    · obtain rfl : j = n := by omega
      go_wp2
      go_ret
      exact ⟨rfl, hi⟩

set_option maxHeartbeats 1000000 in
set_option maxRecDepth 100000 in
theorem markCodes_ink (A : Option Addr) (n c : Nat) (ss : List Cd) (k : Int) (L : Nat) (wc w0 w : World) (m : MCds wc L A n ss) (hw : Below wc.heap.size wc w0) (hi : Inked L wc.heap.size w0 w) (hn : n ≤ 1048576) (hs : ∀ x ∈ ss, SmallC x) (hk0 : 0 ≤ k) (hk1 : k + (inkCs ss : Int) ≤ 1000000000) :
    Calls Tryd.prog 23 #[.slice A n c, .int .i64 k] w fun e w' => e = .returned (.int .i64 (k + (inkCs ss : Int))) ∧ Inked L wc.heap.size w0 w' := by
  obtain ⟨g, rfl, hL, hroom, hl⟩ := m
  have hgl := hroom.lt
  obtain ⟨cs, hg0, _, hcs⟩ := hroom
  have hg := (hw.block g hgl).trans hg0
  have HLT := put hgl
  clear hg0 hgl
  have HL := put hl
  have HG := put hg
  have HC := put hcs
  have HK := put hk1
  clear hg hcs hl hk1
  go_enter Tryd.func23, Tryd.ntmps23
  go_wp2
  go_loopw [1, 5] (fun u i wr => ∃ j : Nat, j ≤ n ∧ i = .int .i64 j ∧ u = .int .i64 (k + (inkCs (ss.take j) : Int)) ∧ Inked L wc.heap.size w0 wr) (fun _ i _ => n - (intOf i).toNat)
  case atStart => exact ⟨0, Nat.zero_le _, rfl, by simp [inkCs], hi⟩
  case round =>
    clear hi
    obtain ⟨j, hj, rfl, rfl, hi⟩ := hrel
    by_cases hlt : j < n
    · have hx : ss[j]? = some (ss[j]'(by rw [HL.out]; exact hlt)) := List.getElem?_eq_getElem _
      generalize ss[j]'(by rw [HL.out]; exact hlt) = s at hx
      obtain ⟨A1, n1, c1, A2, n2, c2, A3, n3, c3, g0, g1, g2, g3, g4, ms⟩ := HC.out j s hx
      have hss := hs s (mem_of_at hx)
      have l1 : n1 ≤ 1048576 := by obtain ⟨_, _, _, _, e⟩ := ms.sites; rw [← e]; exact hss.1
      have l2 : n2 ≤ 1048576 := by obtain ⟨_, _, _, _, e⟩ := ms.ins; rw [← e]; exact hss.2.1
      have l3 : n3 ≤ 1048576 := by obtain ⟨_, _, _, _, e⟩ := ms.rows; rw [← e]; exact hss.2.2
      have hstep := inkCs_step hx
      have hval : inkC s = 2 + n1 + 2 * n2 + 3 * n3 := by
        obtain ⟨_, _, _, _, e1⟩ := ms.sites; obtain ⟨_, _, _, _, e2⟩ := ms.ins; obtain ⟨_, _, _, _, e3⟩ := ms.rows
        unfold inkC; rw [e1, e2, e3]
      have hbd : k + ((inkCs (ss.take j) : Nat) : Int) + 2 + (n1 : Int) + 2 * (n2 : Int) + 3 * (n3 : Int) ≤ 1000000000 := by have := HK.out; have := hstep.2; omega
      have HN := put (show (k + ((inkCs (ss.take j) : Nat) : Int) + 1 + 1 + (n1 : Int) + 2 * (n2 : Int) + 3 * (n3 : Int)) = k + ((inkCs (ss.take (j + 1)) : Nat) : Int) by rw [hstep.1, hval]; omega)
      generalize inkCs (ss.take j) = T at hbd HN
      clear hstep hval
      obtain ⟨y, hy⟩ := hi.num HG.out g0
      obtain ⟨y', hy'⟩ := hi.num HG.out g1
      have hfr := hi.frozen HG.out (j * 5)
      have hfr' := hi.frozen HG.out (j * 5 + 1)
      have hi2 := (hi.set hL HLT.out HG.out g0 (k + (T : Int))).set hL HLT.out HG.out g1 (k + (T : Int) + 1)
      have q2 := hi.slc HG.out g2
      clear g0 g1 hx
      have M1 := put (ms.sites.from (show L ≤ g + 1 by omega))
      have M2 := put (ms.ins.from (show L ≤ g + 1 by omega))
      have M3 := put (ms.rows.from (show L ≤ g + 1 by omega))
      have G2 := put g2
      have G3 := put g3
      have G4 := put g4
      clear g2 g3 g4 ms hi
      go_wp2_with fail
      generalize (wr.setCell ⟨g, j * 5, none⟩ (.int .i64 (k + (T : Int)))).setCell ⟨g, j * 5 + 1, none⟩ (.int .i64 (k + (T : Int) + 1)) = W at hi2 ⊢
      clear hy hy' hfr hfr' q2
      refine (markInts_ink A1 n1 c1 s.sites (k + (T : Int) + 1 + 1) L wc w0 W M1.out hw hi2 l1 (by omega) (by omega)).mono ?_
      rintro e W1 ⟨rfl, hi3⟩
      have q3 := hi3.slc HG.out G3.out
      clear hi2
      go_wp2_with fail
      clear q3
      refine (markToks_ink A2 n2 c2 s.ins (k + (T : Int) + 1 + 1 + (n1 : Int)) L wc w0 W1 M2.out hw hi3 l2 (by omega) (by omega)).mono ?_
      rintro e W2 ⟨rfl, hi4⟩
      have q4 := hi4.slc HG.out G4.out
      clear hi3
      go_wp2_with fail
      clear q4
      refine (markRows_ink A3 n3 c3 s.rows (k + (T : Int) + 1 + 1 + (n1 : Int) + 2 * (n2 : Int)) L wc w0 W2 M3.out hw hi4 l3 (by omega) (by omega)).mono ?_
      rintro e W3 ⟨rfl, hi5⟩
      clear hi4
      go_wp2
      go_roundw
      case rel => exact ⟨j + 1, by omega, by go_num, by rw [HN.out], hi5⟩
      case measure => simp [intOf]; omega
    · have hfin := put (show ss.take j = ss from List.take_of_length_le (by rw [HL.out]; omega))
      go_wp2
      go_ret
      exact ⟨ret_int (by rw [hfin.out]), hi⟩


set_option maxHeartbeats 400000 in
theorem markImage_ink (A : Option Addr) (n c : Nat) (cs : List Cd) (k : Int) (L : Nat) (wc w : World) (m : MCds wc L A n cs) (hL : L ≤ wc.heap.size) (hw : Below wc.heap.size wc w) (hs : SmallI cs) (hk0 : 0 ≤ k) (hk1 : k + (inkCs cs : Int) ≤ 1000000000) :
    Calls Tryd.prog 10 #[.agg #[.slice A n c], .int .i64 k] w fun e w' => e = .returned (.int .i64 (k + (inkCs cs : Int))) ∧ Inked L wc.heap.size w w' := by
  have hi1 := (Inked.refl L wc.heap.size w).alloc (Nat.le_trans hL hw.size) (.cells #[.slice A n c] 35)
  have hn : n ≤ 1048576 := by obtain ⟨_, _, _, _, e⟩ := m; rw [← e]; exact hs.1
  go_enter Tryd.func10, Tryd.ntmps10
  go_wp2_with fail
  refine (markCodes_ink A n c cs k L wc w _ m hw hi1 hn hs.2 hk0 hk1).mono ?_
  rintro e w1 ⟨rfl, hi2⟩
  go_wp2
  go_ret
  exact ⟨rfl, hi2⟩

end Go.Proofs.YtcpjddkhclaafaaDoor

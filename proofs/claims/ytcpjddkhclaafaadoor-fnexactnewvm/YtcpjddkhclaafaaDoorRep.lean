/-
  slices.Repeat of one number: contract.
-/
import Derived.Test.YtcpjddkhclaafaaDoorAppN
import Derived.Test.YtcpjddkhclaafaaDoorSMul
import Derived.Lib.SlBuf
import Derived.Deep.RegionLaw
namespace Go.Proofs.YtcpjddkhclaafaaDoor
open Go.RowKit Exs

theorem Room.pushes {g : Nat} {t : TypeId} {c : Nat} {k : IntKind} {x : Int} : ∀ (q m : Nat) {w : World}, Room w g t c k (List.replicate m x) → m + q ≤ c → Room (w.setCells g m ((List.replicate q x).map (Value.int k))) g t c k (List.replicate (m + q) x)
  | 0, m, w, h, _ => by simpa [World.setCells] using h
  | q + 1, m, w, h, hc => by
    have h1 := h.push (by simp; omega) x
    rw [List.length_replicate, ← List.replicate_succ'] at h1
    have h2 := Room.pushes q (m + 1) h1 (by omega)
    rw [List.replicate_succ, List.map_cons, World.setCells, show m + (q + 1) = m + 1 + q by omega]
    exact h2
theorem Below.setCells {g B : Nat} {a : World} (hg : B ≤ g) : ∀ (vs : List Value) (o : Nat) {w : World}, Below B a w → Below B a (w.setCells g o vs)
  | [], _, _, h => h
  | v :: r, o, _, h => Below.setCells hg r (o + 1) (h.setCell hg v)

/-- A row is copied on behind itself. -/
theorem copy_rep {P : Program} (w : World) (g n m : Nat) (x : Int) (ty t : TypeId) (ht : P.underlying t = some (.slice 3)) (hi : (P.info? 3).map (·.size) = some 1) (h : Room w g 3 n .i64 (List.replicate m x)) (hmn : m < n) (b off sc dc : Nat) (src : ∀ j, j < Nat.min m (n - m) → w.cell? ⟨b, off + j, none⟩ = some (.int .i64 x)) :
    ∃ w', (Builtin.copy_ #[t, t] ty #[.slice (some ⟨g, m, none⟩) (n - m) dc, .slice (some ⟨b, off, none⟩) m sc]).run P w = .ok (.int .i64 (Nat.min m (n - m) : Nat)) w' ∧ Room w' g 3 n .i64 (List.replicate (m + Nat.min m (n - m)) x) ∧ Below g w w' := by
  have hle : Nat.min m (n - m) ≤ n - m := Nat.min_le_right _ _
  have hrun := run_copy_cells (P := P) w t t ty 3 g m (n - m) dc ⟨b, off, none⟩ m sc ((List.replicate (Nat.min m (n - m)) x).map (Value.int .i64)) ht hi (by simp)
    (fun j v hj => by
      rw [List.getElem?_map] at hj
      obtain ⟨y, hy, rfl⟩ := Option.map_eq_some_iff.1 hj
      rw [List.getElem?_replicate] at hy
      split at hy
      · injection hy with hy
        subst hy
        have := src j (by assumption)
        by_cases hj0 : j = 0
        · subst hj0; simpa [Addr.add] using this
        · simpa [Addr.add, hj0] using this
      · cases hy)
    (fun j hj => by simp at hj; obtain ⟨v, hv⟩ := h.at_ (m + j) (by omega); rw [hv]; rfl)
    (fun j _ => h.frozen _)
    (fun v hv => by simp at hv; obtain ⟨_, rfl⟩ := hv; rfl)
  exact ⟨_, by rw [hrun]; simp [goInt], h.pushes _ _ (by omega), Below.setCells (Nat.le_refl _) _ _ (Below.refl _ _)⟩

section
variable {w : World} {ops : Array Oper} {o : Oper} {a : Act} {K : Act → World → Prop} {Q : Exit → Act → World → Prop} {E : Prop}
theorem step_copy {P : Program} (hgd : o.guard = none) (d s : Operand) (t t' : TypeId) (ho : o.op = .call { callee := .builtin .copy, args := #[d, s], argTypes := #[t, t'] }) (v u : Value) (hd : a.eval d = v) (hs : a.eval s = u) {v' : Value} {w' : World}
    (hr : (Builtin.copy_ #[t, t'] o.type #[v, u]).run P w = .ok v' w') (h : K (a.put o.dst v') w') : if Region.wanted o (yielded ops a.tmps) = true then Oper.wp P o a w K Q else E := by
  have hw : Region.wanted o (yielded ops a.tmps) = true := by simp [Region.wanted, hgd]
  rw [if_pos hw]
  exact Lib.wp_copy_run w d s t t' ho v u hd hs hr h
end

theorem Tryd.size3 : (Tryd.prog.info? 3).map (·.size) = some 1 := by kernel_rfl

set_option maxHeartbeats 600000 in
set_option maxRecDepth 100000 in
theorem repeat_any (x : Int) (n : Nat) (g : Nat) (w : World) (hk : Keep w g #[.int .i64 x] 3) (hn : 1 ≤ n) (hm : n ≤ 300) :
    Calls Tryd.prog 80 #[.slice (some ⟨g, 0, none⟩) 1 1, .int .i64 n] w fun e w' => e = .returned (.slice (some ⟨w.heap.size, 0, none⟩) n n) ∧ Room w' w.heap.size 3 n .i64 (List.replicate n x) ∧ Below w.heap.size w w' := by
  have hmk := fun W => run_make_row' (P := Tryd.prog) 27 3 (.int .i64 0) 8 Tryd.underlying27 Tryd.info3 rfl .i64 .i64 n (by omega) (by omega) W
  have hmul := Tryd.bits_Mul 1 n (by omega) (by omega) w
  have e1 : 1 * n / 18446744073709551616 = 0 := Nat.div_eq_of_lt (by omega)
  have e2 : 1 * n % 18446744073709551616 = n := by rw [Nat.one_mul]; exact Nat.mod_eq_of_lt (by omega)
  rw [e1, e2] at hmul
  clear e1 e2
  have hb := (Below.refl w.heap.size w).alloc (Nat.le_refl _) (.cells (madeCells #[.int .i64 0] n) 3)
  have hr0 := Room.made w 3 n .i64
  have c0 := ((hk.below hb).cell 0)
  simp at c0
  go_enter Tryd.func80, Tryd.ntmps80
  go_wp2_with fail
  refine hmul.mono ?_
  rintro e w1 ⟨rfl, rfl⟩
  clear hmul
  have hn1 : (1 : Nat) < n ∨ n = 1 := by omega
  obtain ⟨w2, hrun, hroom2, hbel2⟩ : ∃ w', (Builtin.copy_ #[27, 27] 3 #[.slice (some ⟨w1.heap.size, 0, none⟩) n n, .slice (some ⟨g, 0, none⟩) 1 1]).run Tryd.prog (w1.alloc (.cells (madeCells #[.int .i64 0] n) 3)) = .ok (.int .i64 1) w' ∧ Room w' w1.heap.size 3 n .i64 (List.replicate 1 x) ∧ Below w1.heap.size (w1.alloc (.cells (madeCells #[.int .i64 0] n) 3)) w' := by
    have hmin : Nat.min 1 n = 1 := by simp only [Nat.min_def]; split <;> omega
    have hrun := run_copy_cells (P := Tryd.prog) (w1.alloc (.cells (madeCells #[.int .i64 0] n) 3)) 27 27 3 3 w1.heap.size 0 n n ⟨g, 0, none⟩ 1 1 [.int .i64 x] Tryd.underlying27 Tryd.size3 (by rw [hmin]; rfl)
      (fun j v hj => by
        match j, hj with
        | 0, hj => simp at hj; subst hj; simpa [Addr.add] using c0)
      (fun j hj => by simp at hj; subst hj; obtain ⟨v, hv⟩ := hr0.at_ 0 (by omega); rw [hv]; rfl)
      (fun j _ => hr0.frozen _)
      (fun v hv => by simp at hv; subst hv; rfl)
    refine ⟨_, hrun, ?_, Below.setCells (Nat.le_refl _) _ _ (Below.refl _ _)⟩
    have := hr0.pushes 1 0 (x := x) (by omega)
    simpa using this
  have hB2 : Below w1.heap.size w1 w2 := hb.trans hbel2
  clear hn1 hbel2
  go_wp2_with (at_builtin; refine Lib.wpList_copy_run _ rfl _ _ 27 27 rfl _ _ rfl rfl hrun ?_)
  clear hrun c0 hr0 hb hmk
  go_loopw [8] (fun i wr => ∃ m : Nat, 1 ≤ m ∧ m ≤ n ∧ i = .int .i64 m ∧ Room wr w1.heap.size 3 n .i64 (List.replicate m x) ∧ Below w1.heap.size w1 wr) (fun i _ => n - (intOf i).toNat)
  case atStart => exact ⟨1, Nat.le_refl _, hn, rfl, hroom2, hB2⟩
  case round =>
    clear hroom2 hB2
    obtain ⟨m, hm1, hmn, rfl, hroom, hbel⟩ := hrel
    by_cases hlt : m < n
    · obtain ⟨q, hq⟩ : ∃ q, Nat.min m (n - m) = q := ⟨_, rfl⟩
      have hq1 : 1 ≤ q ∧ q ≤ m ∧ q ≤ n - m := by rw [← hq]; simp only [Nat.min_def]; split <;> omega
      have hcopy := copy_rep (P := Tryd.prog) wr.drew w1.heap.size n m x 3 27 Tryd.underlying27 Tryd.size3 hroom hlt w1.heap.size 0 n (n - m) (fun j hj => by
        have hjm : j < m := by rw [hq] at hj; omega
        rw [Nat.zero_add]
        have := hroom.at (j := j) (x := x) (by rw [List.getElem?_replicate, if_pos hjm])
        exact this)
      rw [hq] at hcopy
      obtain ⟨w3, hrun, hr3, hb3⟩ := hcopy
      have hw : IntKind.i64.wrap ((m : Int) + (q : Int)) = (m : Int) + (q : Int) := IntWalk.i64_in _ ⟨by omega, by omega⟩
      have hmI : (m : Int) ≤ (n : Int) := by omega
      have hrun2 : (Builtin.copy_ #[27, 27] 3 #[.slice (if n = m then some ⟨w1.heap.size, 0, none⟩ else some ⟨w1.heap.size, m, none⟩) (n - m) (n - m), .slice (some ⟨w1.heap.size, 0, none⟩) m n]).run Tryd.prog wr.drew = .ok (.int .i64 (q : Int)) w3 := by rw [if_neg (by omega)]; exact hrun
      go_wp2
      go_region_law (first | (refine step_copy rfl (.tmp 41) (.tmp 44) 27 27 rfl (.slice (if n = m then some ⟨w1.heap.size, 0, none⟩ else some ⟨w1.heap.size, m, none⟩) (n - m) (n - m)) (.slice (some ⟨w1.heap.size, 0, none⟩) m n) (by go_simp) (by go_simp) hrun2 ?_))
      all_goals (
        go_wp2
        go_roundw
        case rel => exact ⟨m + q, by omega, by omega, by simp, hr3, (hbel.drew.trans hb3)⟩
        case measure => simp [intOf]; omega)
    · obtain rfl : m = n := by omega
      go_wp2
      go_ret
      exact ⟨rfl, hroom, hbel⟩

end Go.Proofs.YtcpjddkhclaafaaDoor

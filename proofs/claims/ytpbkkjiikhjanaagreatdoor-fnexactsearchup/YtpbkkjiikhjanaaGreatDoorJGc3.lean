/-
  The program's checks of a code ahead of its heights: names, sites, ways.
-/
import Derived.Test.YtpbkkjiikhjanaaGreatDoorJGc2
namespace Go.Proofs.YtpbkkjiikhjanaaGreatDoor
open Go.RowKit Exs

def mnI (cs : List Cd) (s : Cd) (op : Int) : Int := if op = 2 ∨ op = 3 then s.vars else if op = 12 ∨ op = 17 then s.sites.length else if op = 7 then cs.length else 9223372036854775807
theorem mnI_other {cs : List Cd} {s : Cd} {op : Int} (h : ¬ (op = 2 ∨ op = 3 ∨ op = 12 ∨ op = 17 ∨ op = 7)) : mnI cs s op = 9223372036854775807 := by
  unfold mnI
  rw [if_neg (by omega), if_neg (by omega), if_neg (by omega)]
theorem insB_most {op x : Int} (h : insB op x = true) : -2147483648 ≤ x ∧ x ≤ 2147483647 := by
  rw [insB_eq] at h
  obtain ⟨_, _, h1, h2⟩ := of_decide_eq_true h
  unfold kL at h1
  unfold kM at h2
  constructor
  · split at h1
    · omega
    · split at h1 <;> omega
  · split at h2
    · omega
    · split at h2
      · omega
      · split at h2 <;> omega
theorem nmB_mn {cs : List Cd} {s : Cd} {op x : Int} (h : insB op x = true) : nmB cs s (op, x) = decide (x < mnI cs s op) := by
  unfold nmB mnI
  by_cases h1 : op = 2 ∨ op = 3
  · rw [if_pos h1, if_pos h1]
  rw [if_neg h1, if_neg h1]
  by_cases h2 : op = 12 ∨ op = 17
  · rw [if_pos h2, if_pos h2]
  rw [if_neg h2, if_neg h2]
  by_cases h3 : op = 7
  · rw [if_pos h3, if_pos h3]
  rw [if_neg h3, if_neg h3]
  have := insB_most h
  exact (decide_eq_true (by omega)).symm
theorem nxL_pos {op x a : Int} (h : insB op x = true) (ha : 0 ≤ a) : ∀ y ∈ nxL op x a, 0 ≤ y := by
  have hn : op = 10 ∨ op = 11 → 0 ≤ x := fun ho => by
    rw [insB_eq] at h
    obtain ⟨_, _, h1, _⟩ := of_decide_eq_true h
    unfold kL at h1
    rw [if_neg (by omega), if_neg (by omega)] at h1
    exact h1
  intro y hy
  unfold nxL at hy
  by_cases h1 : op = 10
  · rw [if_pos h1] at hy
    simp at hy
    have := hn (.inl h1)
    omega
  rw [if_neg h1] at hy
  by_cases h2 : op = 11
  · rw [if_pos h2] at hy
    have := hn (.inr h2)
    by_cases h3 : x = a + 1
    · rw [h3, putL_one_eq] at hy; simp at hy; omega
    · by_cases h4 : x < a + 1
      · rw [putL_one_gt h4] at hy; simp at hy; omega
      · rw [putL_one_lt (by omega)] at hy; simp at hy; omega
  rw [if_neg h2] at hy
  split at hy
  · cases hy
  · simp at hy; omega

set_option maxHeartbeats 2000000 in
theorem manyToName_any (op x : Int) (A : Option Addr) (n c : Nat) (cs : List Cd) (s : Cd) (A1 : Option Addr) (n1 c1 : Nat) (A2 : Option Addr) (n2 c2 : Nat) (A3 : Option Addr) (n3 c3 : Nat) (w : World) (e0 : cs.length = n) (e1 : s.sites.length = n1) :
    Calls Tryz.prog 128 #[.agg #[.slice A n c], cdV s A1 n1 c1 A2 n2 c2 A3 n3 c3, .agg #[.int .i64 op, .int .i64 x]] w fun e w' => e = .returned (.int .i64 (mnI cs s op)) ∧ Below w.heap.size w w' := by
  have hb := (((Below.refl w.heap.size w).alloc (Nat.le_refl _) (Obj.cells #[.slice A n c] 36)).alloc (by simp) (Obj.cells #[.int .i64 s.params, .int .i64 s.vars, .slice A1 n1 c1, .slice A2 n2 c2, .slice A3 n3 c3] 82)).alloc (by simp; omega) (Obj.cells #[.int .i64 op, .int .i64 x] 129)
  have EE := put (And.intro e0 e1)
  clear e0 e1
  unfold cdV
  by_cases ho : op = 2 ∨ op = 3 ∨ op = 12 ∨ op = 17 ∨ op = 7
  · rcases ho with rfl | rfl | rfl | rfl | rfl
    all_goals
      go_enter Tryz.func128, Tryz.ntmps128
      go_wp2
      go_ret
      exact ⟨ret_int (by have := EE.out; simp [mnI]; try omega), hb⟩
  · have HM := put (mnI_other (cs := cs) (s := s) ho)
    have q2 : (op == 2) = false := beq_of fun e => ho (by omega)
    have q3 : (op == 3) = false := beq_of fun e => ho (by omega)
    have q12 : (op == 12) = false := beq_of fun e => ho (by omega)
    have q17 : (op == 17) = false := beq_of fun e => ho (by omega)
    have q7 : (op == 7) = false := beq_of fun e => ho (by omega)
    clear ho
    go_enter Tryz.func128, Tryz.ntmps128
    go_wp2
    go_ret
    exact ⟨ret_int HM.out.symm, hb⟩

set_option maxHeartbeats 2000000 in
set_option maxRecDepth 100000 in
theorem namesAreThere_any (A : Option Addr) (n c : Nat) (cs : List Cd) (s : Cd) (A1 : Option Addr) (n1 c1 : Nat) (A2 : Option Addr) (n2 c2 : Nat) (A3 : Option Addr) (n3 c3 : Nat) (w : World) (hr : ReadsC w w.heap.size A n cs) (hs : IsCd w w.heap.size s A1 n1 A2 n2 A3 n3) (_ : n ≤ 5) (hi : cdB s = true) :
    Calls Tryz.prog 114 #[.agg #[.slice A n c], cdV s A1 n1 c1 A2 n2 c2 A3 n3 c3] w fun e w' => e = .returned (.bool (namedB cs s)) ∧ Below w.heap.size w w' := by
  have hb := ((Below.refl w.heap.size w).alloc (Nat.le_refl _) (Obj.cells #[.slice A n c] 36)).alloc (by simp) (Obj.cells #[.int .i64 s.params, .int .i64 s.vars, .slice A1 n1 c1, .slice A2 n2 c2, .slice A3 n3 c3] 82)
  have k1 := (Keep.new w #[.slice A n c] 36).alloc (Obj.cells #[.int .i64 s.params, .int .i64 s.vars, .slice A1 n1 c1, .slice A2 n2 c2, .slice A3 n3 c3] 82)
  have k2 := Keep.new (w.alloc (Obj.cells #[.slice A n c] 36)) #[.int .i64 s.params, .int .i64 s.vars, .slice A1 n1 c1, .slice A2 n2 c2, .slice A3 n3 c3] 82
  rw [World.size_alloc] at k2
  have hsz := cdB_iff s |>.1 hi
  rw [hs.sites.1, hs.ins.1, hs.rows.1] at hsz
  have HSZ := put hsz
  have l1 : n1 ≤ 4 := by omega
  have l2 : n2 ≤ 300 := by omega
  have l3 : n3 ≤ 300 := by omega
  clear hsz hi
  unfold cdV
  have E := put (show s.sites.length = n1 ∧ cs.length = n from ⟨hs.sites.1, hr.1⟩)
  have hins := hs.ins
  clear hr hs
  go_enter Tryz.func114, Tryz.ntmps114
  go_wp2
  generalize hW : (w.alloc (Obj.cells #[.slice A n c] 36)).alloc (Obj.cells #[.int .i64 s.params, .int .i64 s.vars, .slice A1 n1 c1, .slice A2 n2 c2, .slice A3 n3 c3] 82) = W0 at hb k1 k2 ⊢
  clear hW
  have hbw := hb
  clear hb
  go_loopw [10] (fun i wr => ∃ k : Nat, k ≤ n2 ∧ i = .int .i64 k ∧ Hid (∀ t ∈ s.ins.take k, nmB cs s t = true) ∧ Below W0.heap.size W0 wr) (fun i _ => n2 - (intOf i).toNat)
  case atStart => exact ⟨0, Nat.zero_le _, rfl, put (fun t h => by simp at h), Below.refl _ _⟩
  case round =>
    obtain ⟨k, hk, rfl, hall, hbel⟩ := hrel
    by_cases hlt : k < n2
    · obtain ⟨b, off, op, x, rfl, hb', hc1, hc2, hxt⟩ := (hins.below (hbw.trans (hbel.mono hbw.size))).at_ hlt
      have hb3 := hbel.alloc hbel.size (.cells #[.int .i64 op, .int .i64 x] 129)
      have kk1 := (k1.below hbel).alloc (.cells #[.int .i64 op, .int .i64 x] 129)
      have kk2 := (k2.below hbel).alloc (.cells #[.int .i64 op, .int .i64 x] 129)
      have kn := Keep.new wr #[.int .i64 op, .int .i64 x] 129
      have HB := put (nmB_mn (cs := cs) (s := s) (HSZ.out.2 _ (mem_of_at hxt.out)))
      have HNO := put (fun (h0 : nmB cs s (op, x) = false) => (show namedB cs s = false from no_of fun h => by have h1 := (namedB_iff cs s).1 h _ (mem_of_at hxt.out); rw [h0] at h1; cases h1))
      have HC := put (fun W => manyToName_any op x A n c cs s A1 n1 c1 (some ⟨b, off, none⟩) n2 c2 A3 n3 c3 W E.out.2 E.out.1)
      obtain ⟨m, hm⟩ : ∃ m, mnI cs s op = m := ⟨_, rfl⟩
      rw [hm] at HB HC
      clear hm
      unfold cdV at HC
      go_wp2
      generalize hW : wr.alloc (.cells #[.int .i64 op, .int .i64 x] 129) = W1 at hb3 kk1 kk2 kn ⊢
      clear hW hc1 hc2
      have y0 := kk1.cell 0
      have z0 := kk2.cell 0
      have z1 := kk2.cell 1
      have z2 := kk2.cell 2
      have z3 := kk2.cell 3
      have z4 := kk2.cell 4
      have x0 := kn.cell 0
      have x1 := kn.cell 1
      simp at y0 z0 z1 z2 z3 z4 x0 x1
      by_cases hx : x < m
      · have hall2 := put (all_more (p := nmB cs s) hall.out hxt.out (by rw [HB.out]; exact decide_eq_true hx))
        have hd : decide (m ≤ x) = false := decide_eq_false (by omega)
        go_region_law (first
          | (go_simp; go_at_call 128; refine (HC.out W1.drew).mono ?_; rintro e w1 ⟨rfl, hb4⟩; have u1 := (Keep.below (w := W1.drew) kn hb4).cell 1; simp at u1))
        all_goals (
          go_wp2
          go_roundw
          case rel => exact ⟨k + 1, by omega, by go_num, hall2, hb3.drew.trans (hb4.mono hb3.size)⟩
          case measure => simp [intOf]; omega)
      · have HNO2 := put (HNO.out (by rw [HB.out]; exact decide_eq_false hx))
        have hx' : m ≤ x := by omega
        have hd : decide (m ≤ x) = true := decide_eq_true hx'
        clear hx
        go_region_law (first
          | (go_simp; go_at_call 128; refine (HC.out W1.drew).mono ?_; rintro e w1 ⟨rfl, hb4⟩; have u1 := (Keep.below (w := W1.drew) kn hb4).cell 1; simp at u1))
        all_goals (
          go_wp2
          go_ret
          exact ⟨ret_bool HNO2.out.symm, (hbw.trans (hb3.mono hbw.size)).drew.trans (hb4.mono (Nat.le_trans hbw.size hb3.size))⟩)
    · have hfin := put (show s.ins.take k = s.ins from List.take_of_length_le (by rw [hins.1]; omega))
      have HYES := put ((namedB_iff cs s).2 (by have := hall.out; rwa [hfin.out] at this))
      go_wp2
      go_ret
      exact ⟨ret_bool HYES.out.symm, hbw.trans (hbel.mono hbw.size)⟩

end Go.Proofs.YtpbkkjiikhjanaaGreatDoor

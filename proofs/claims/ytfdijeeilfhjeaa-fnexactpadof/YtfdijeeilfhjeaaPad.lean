/-
  PadOf: both sides' contracts.
-/
import Derived.Test.YtfdijeeilfhjeaaCoTo2
import Derived.Test.YtfdijeeilfhjeaaSpA
namespace Go.Proofs.Ytfdijeeilfhjeaa
open Go.RowKit Exs

def padTo (is : List Token) : Nat → Nat
  | 0 => 0
  | k + 1 => if (is.getD k (0, 0)).1 = 17 then padTo is k else k + 1
def paAns (is : List Token) : Int × Bool := if 1 ≤ is.length ∧ is.length ≤ 300 ∧ (is.getD (is.length - 1) (0, 0)).1 = 18 then ((padTo is (is.length - 1) : Int), true) else (0, false)
theorem paAns_len {is : List Token} (h : ¬ (1 ≤ is.length ∧ is.length ≤ 300)) : paAns is = (0, false) := by
  unfold paAns
  rw [if_neg (fun h' => h ⟨h'.1, h'.2.1⟩)]
theorem paAns_end {is : List Token} {k : Nat} {t : Token} (hk : is.length = k + 1) (ht : is[k]? = some t) (h : t.1 ≠ 18) : paAns is = (0, false) := by
  unfold paAns
  rw [if_neg]
  rintro ⟨_, _, h3⟩
  rw [hk, Nat.add_sub_cancel, List.getD_eq_getElem?_getD, ht] at h3
  exact h h3
theorem paAns_yes {is : List Token} {k : Nat} {t : Token} (hk : is.length = k + 1) (hl : k + 1 ≤ 300) (ht : is[k]? = some t) (h : t.1 = 18) : paAns is = ((padTo is k : Int), true) := by
  unfold paAns
  rw [if_pos ⟨by omega, by omega, by rw [hk, Nat.add_sub_cancel, List.getD_eq_getElem?_getD, ht]; exact h⟩, hk, Nat.add_sub_cancel]
theorem padTo_on {is : List Token} {k : Nat} {t : Token} (ht : is[k]? = some t) (h : t.1 = 17) : padTo is (k + 1) = padTo is k := by
  unfold padTo
  rw [if_pos (by rw [List.getD_eq_getElem?_getD, ht]; exact h)]
  cases k <;> rfl
theorem padTo_off {is : List Token} {k : Nat} {t : Token} (ht : is[k]? = some t) (h : t.1 ≠ 17) : padTo is (k + 1) = k + 1 := by
  unfold padTo
  rw [if_neg (by rw [List.getD_eq_getElem?_getD, ht]; exact h)]

theorem within_no' {n lo hi : Int} (h : ¬ (lo ≤ n ∧ n ≤ hi)) : within n lo hi = false := by
  cases h' : within n lo hi
  · rfl
  · exact absurd ((within_iff n lo hi).1 h') h
theorem within_yes' {n lo hi : Int} (h : lo ≤ n ∧ n ≤ hi) : within n lo hi = true := (within_iff n lo hi).2 h

set_option maxHeartbeats 1000000 in
set_option maxRecDepth 100000 in
theorem specPadOf_any (s : Cd) (A1 : Option Addr) (n1 c1 : Nat) (A2 : Option Addr) (n2 c2 : Nat) (A3 : Option Addr) (n3 c3 : Nat) (w : World) (hs : IsCd w w.heap.size s A1 n1 A2 n2 A3 n3) (hsm : SmallC s) :
    Calls Try.prog 9 #[cdV s A1 n1 c1 A2 n2 c2 A3 n3 c3] w fun e w' => e = .returned (.tuple #[.int .i64 (paAns s.ins).1, .bool (paAns s.ins).2]) ∧ Below w.heap.size w w' := by
  have hb := (Below.refl w.heap.size w).alloc (Nat.le_refl _) (Obj.cells #[.int .i64 s.params, .int .i64 s.vars, .slice A1 n1 c1, .slice A2 n2 c2, .slice A3 n3 c3] 33)
  have k2 := Keep.new w #[.int .i64 s.params, .int .i64 s.vars, .slice A1 n1 c1, .slice A2 n2 c2, .slice A3 n3 c3] 33
  have E := put hs.ins.1
  have hins := hs.ins.now hb
  have hl2 : n2 ≤ 1048576 := by rw [← E.out]; exact hsm.2.1
  clear hs hsm
  unfold cdV
  by_cases hin : ¬ (1 ≤ (n2 : Int) ∧ (n2 : Int) ≤ 300)
  · have HA := put (paAns_len (is := s.ins) (by rw [E.out]; omega))
    have q := within_no' hin
    clear hin
    go_enter Try.func9, Try.ntmps9
    go_wp2_with fail
    refine (l1In_any (n2 : Int) 1 300 _).mono ?_
    rintro e w1 ⟨rfl, rfl⟩
    rw [q]
    go_wp2
    go_ret2
    exact ⟨by rw [HA.out]; rfl, hb⟩
  replace hin := Classical.not_not.1 hin
  have q := within_yes' hin
  obtain ⟨k, hk⟩ : ∃ k : Nat, n2 = k + 1 := ⟨n2 - 1, by omega⟩
  have HK := put hk
  have hn300 : n2 ≤ 300 := by omega
  have hkn : k < n2 := by omega
  have hw1 : IntKind.i64.wrap ((n2 : Int) - 1) = (k : Int) := by rw [hk, IntWalk.i64_in _ ⟨by omega, by omega⟩]; omega
  obtain ⟨b, off, op, x, rfl, hb', hc1, hc2, hxt⟩ := hins.at_ hkn
  clear hk hin
  by_cases hop : op ≠ 18
  · have HA := put (paAns_end (by rw [E.out, HK.out]) hxt.out hop)
    have hop1 : (op == 18) = false := beq_of hop
    have hop2 : (op != 18) = true := by simp [hop]
    clear hop
    go_enter Try.func9, Try.ntmps9
    go_wp2_with fail
    refine (l1In_any (n2 : Int) 1 300 _).mono ?_
    rintro e w1 ⟨rfl, rfl⟩
    rw [q]
    go_wp2
    go_ret2
    exact ⟨by rw [HA.out]; rfl, hb⟩
  · obtain rfl := Classical.not_not.1 hop
    clear hop
    have HA := put (paAns_yes (by rw [E.out, HK.out]) (by have := HK.out; omega) hxt.out rfl)
    go_enter Try.func9, Try.ntmps9
    go_wp2_with fail
    refine (l1In_any (n2 : Int) 1 300 _).mono ?_
    rintro e w1 ⟨rfl, rfl⟩
    rw [q]
    go_wp2
    generalize hW : w.alloc (Obj.cells #[.int .i64 s.params, .int .i64 s.vars, .slice A1 n1 c1, .slice (some ⟨b, off, none⟩) n2 c2, .slice A3 n3 c3] 33) = W0 at hb k2 hins hc1 hc2 hb' ⊢
    clear hW
    have z3 := k2.cell 3
    simp at z3
    go_loopw [5] (fun i wr => ∃ j : Nat, j ≤ k ∧ i = .int .i64 j ∧ Hid (padTo s.ins j = padTo s.ins k) ∧ wr = W0) (fun i _ => (intOf i).toNat)
    case atStart => exact ⟨k, Nat.le_refl _, rfl, put rfl, rfl⟩
    case round =>
      clear hc1 hc2
      obtain ⟨j, hj, rfl, HP, rfl⟩ := hrel
      rcases j with _ | i
      · have HB := put (show paAns s.ins = (0, true) by rw [HA.out, ← HP.out]; rfl)
        go_wp2
        go_ret2
        exact ⟨by rw [HB.out]; rfl, hb⟩
      · obtain ⟨j, hji⟩ : ∃ j : Nat, j = i + 1 := ⟨_, rfl⟩
        rw [← hji] at HP hj ⊢
        have hw2 : IntKind.i64.wrap ((j : Int) - 1) = (i : Int) := by rw [hji, IntWalk.i64_in _ ⟨by omega, by omega⟩]; omega
        have hj0 : 0 < (j : Int) := by omega
        have hin2 : i < n2 := by omega
        have HJI := put hji
        obtain ⟨b2, off2, op, x, hA2, hb2', hc1, hc2, hit⟩ := hins.at_ hin2
        injection hA2 with hA2
        injection hA2 with e1 e2 e3
        subst e1 e2
        clear hji
        by_cases hop : op = 17
        · subst hop
          have H2 := put (show padTo s.ins i = padTo s.ins k by rw [← HP.out, HJI.out]; exact (padTo_on hit.out rfl).symm)
          go_wp2
          go_roundw
          case rel => exact ⟨i, by have := HJI.out; omega, by go_num, H2, trivial⟩
          case measure => have := HJI.out; simp [intOf]; omega
        · have HB := put (show paAns s.ins = ((j : Int), true) by rw [HA.out, ← HP.out, HJI.out, padTo_off hit.out hop])
          have hop1 := beq_of hop
          clear hop
          go_wp2
          go_ret2
          exact ⟨by rw [HB.out]; rfl, hb⟩

set_option maxHeartbeats 1000000 in
set_option maxRecDepth 100000 in
theorem padOf_any (s : Cd) (A1 : Option Addr) (n1 c1 : Nat) (A2 : Option Addr) (n2 c2 : Nat) (A3 : Option Addr) (n3 c3 : Nat) (w : World) (hs : IsCd w w.heap.size s A1 n1 A2 n2 A3 n3) (hsm : SmallC s) :
    Calls Try.prog 11 #[cdV s A1 n1 c1 A2 n2 c2 A3 n3 c3] w fun e w' => e = .returned (.tuple #[.int .i64 (paAns s.ins).1, .bool (paAns s.ins).2]) ∧ Below w.heap.size w w' := by
  have hb := (Below.refl w.heap.size w).alloc (Nat.le_refl _) (Obj.cells #[.int .i64 s.params, .int .i64 s.vars, .slice A1 n1 c1, .slice A2 n2 c2, .slice A3 n3 c3] 33)
  have k2 := Keep.new w #[.int .i64 s.params, .int .i64 s.vars, .slice A1 n1 c1, .slice A2 n2 c2, .slice A3 n3 c3] 33
  have E := put hs.ins.1
  have hins := hs.ins.now hb
  have hl2 : n2 ≤ 1048576 := by rw [← E.out]; exact hsm.2.1
  clear hs hsm
  unfold cdV
  by_cases hlo : n2 < 1
  · have HA := put (paAns_len (is := s.ins) (by rw [E.out]; omega))
    go_enter Try.func11, Try.ntmps11
    go_wp2
    go_ret2
    exact ⟨by rw [HA.out]; rfl, hb⟩
  by_cases hhi : 300 < n2
  · have HA := put (paAns_len (is := s.ins) (by rw [E.out]; omega))
    replace hlo : 1 ≤ n2 := by omega
    go_enter Try.func11, Try.ntmps11
    go_wp2
    go_ret2
    exact ⟨by rw [HA.out]; rfl, hb⟩
  have hin : 1 ≤ (n2 : Int) ∧ (n2 : Int) ≤ 300 := by omega
  replace hlo : 1 ≤ n2 := by omega
  replace hhi : n2 ≤ 300 := by omega
  obtain ⟨k, hk⟩ : ∃ k : Nat, n2 = k + 1 := ⟨n2 - 1, by omega⟩
  have HK := put hk
  have hn300 : n2 ≤ 300 := by omega
  have hkn : k < n2 := by omega
  have hw1 : IntKind.i64.wrap ((n2 : Int) - 1) = (k : Int) := by rw [hk, IntWalk.i64_in _ ⟨by omega, by omega⟩]; omega
  obtain ⟨b, off, op, x, rfl, hb', hc1, hc2, hxt⟩ := hins.at_ hkn
  clear hk hin
  by_cases hop : op ≠ 18
  · have HA := put (paAns_end (by rw [E.out, HK.out]) hxt.out hop)
    have hop1 : (op == 18) = false := beq_of hop
    have hop2 : (op != 18) = true := by simp [hop]
    clear hop
    go_enter Try.func11, Try.ntmps11
    go_wp2
    go_ret2
    exact ⟨by rw [HA.out]; rfl, hb⟩
  · obtain rfl := Classical.not_not.1 hop
    clear hop
    have HA := put (paAns_yes (by rw [E.out, HK.out]) (by have := HK.out; omega) hxt.out rfl)
    go_enter Try.func11, Try.ntmps11
    go_wp2
    generalize hW : w.alloc (Obj.cells #[.int .i64 s.params, .int .i64 s.vars, .slice A1 n1 c1, .slice (some ⟨b, off, none⟩) n2 c2, .slice A3 n3 c3] 33) = W0 at hb k2 hins hc1 hc2 hb' ⊢
    clear hW
    have z3 := k2.cell 3
    simp at z3
    go_loopw [4] (fun i wr => ∃ j : Nat, j ≤ k ∧ i = .int .i64 j ∧ Hid (padTo s.ins j = padTo s.ins k) ∧ wr = W0) (fun i _ => (intOf i).toNat)
    case atStart => exact ⟨k, Nat.le_refl _, rfl, put rfl, rfl⟩
    case round =>
      clear hc1 hc2
      obtain ⟨j, hj, rfl, HP, rfl⟩ := hrel
      rcases j with _ | i
      · have HB := put (show paAns s.ins = (0, true) by rw [HA.out, ← HP.out]; rfl)
        go_wp2
        go_ret2
        exact ⟨by rw [HB.out]; rfl, hb⟩
      · obtain ⟨j, hji⟩ : ∃ j : Nat, j = i + 1 := ⟨_, rfl⟩
        rw [← hji] at HP hj ⊢
        have hw2 : IntKind.i64.wrap ((j : Int) - 1) = (i : Int) := by rw [hji, IntWalk.i64_in _ ⟨by omega, by omega⟩]; omega
        have hj0 : 0 < (j : Int) := by omega
        have hin2 : i < n2 := by omega
        have HJI := put hji
        obtain ⟨b2, off2, op, x, hA2, hb2', hc1, hc2, hit⟩ := hins.at_ hin2
        injection hA2 with hA2
        injection hA2 with e1 e2 e3
        subst e1 e2
        clear hji
        by_cases hop : op = 17
        · subst hop
          have H2 := put (show padTo s.ins i = padTo s.ins k by rw [← HP.out, HJI.out]; exact (padTo_on hit.out rfl).symm)
          go_wp2
          go_roundw
          case rel => exact ⟨i, by have := HJI.out; omega, by go_num, H2, trivial⟩
          case measure => have := HJI.out; simp [intOf]; omega
        · have HB := put (show paAns s.ins = ((j : Int), true) by rw [HA.out, ← HP.out, HJI.out, padTo_off hit.out hop])
          have hop1 := beq_of hop
          clear hop
          go_wp2
          go_ret2
          exact ⟨by rw [HB.out]; rfl, hb⟩

end Go.Proofs.Ytfdijeeilfhjeaa

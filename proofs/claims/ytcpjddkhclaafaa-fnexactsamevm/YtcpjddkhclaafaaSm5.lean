/-
  Whether lists of frames are the same: the program's EqualFunc.
-/
import Derived.Test.YtcpjddkhclaafaaSm3
import Derived.Test.YtcpjddkhclaafaaSm4
namespace Go.Proofs.Ytcpjddkhclaafaa
open Go.RowKit Go.Deep Exs

theorem sameFrame_any (s s' : Fr) (A1 : Option Addr) (n1 c1 : Nat) (A2 : Option Addr) (n2 c2 : Nat) (A3 : Option Addr) (n3 c3 : Nat) (B1 : Option Addr) (m1 d1 : Nat) (B2 : Option Addr) (m2 d2 : Nat) (B3 : Option Addr) (m3 d3 : Nat) (w : World) (hr : IsFr w w.heap.size s A1 n1 A2 n2 A3 n3) (hr' : IsFr w w.heap.size s' B1 m1 B2 m2 B3 m3) (hs : SmallFr s) (hs' : SmallFr s') :
    Calls Try.prog 37 #[frV s A1 n1 c1 A2 n2 c2 A3 n3 c3, frV s' B1 m1 d1 B2 m2 d2 B3 m3 d3] w fun e w' => e = .returned (.bool (decide (s = s'))) ∧ Below w.heap.size w w' := by
  obtain ⟨l1, l2, l3⟩ := hs
  obtain ⟨l1', l2', l3'⟩ := hs'
  rw [hr.pile.1] at l1; rw [hr.vars.1] at l2; rw [hr.flags.1] at l3
  rw [hr'.pile.1] at l1'; rw [hr'.vars.1] at l2'; rw [hr'.flags.1] at l3'
  cases s; cases s'
  exact sameFrame_x _ _ _ _ _ _ _ _ _ _ _ _ _ _ _ _ _ _ _ _ _ _ _ _ _ _ _ _ _ _ _ _ _ _ _ _ _ _ _ _ w hr.pile hr.vars hr.flags hr'.pile hr'.vars hr'.flags l1 l2 l3 l1' l2' l3'

theorem l8SameFrame_any (s s' : Fr) (A1 : Option Addr) (n1 c1 : Nat) (A2 : Option Addr) (n2 c2 : Nat) (A3 : Option Addr) (n3 c3 : Nat) (B1 : Option Addr) (m1 d1 : Nat) (B2 : Option Addr) (m2 d2 : Nat) (B3 : Option Addr) (m3 d3 : Nat) (w : World) (hr : IsFr w w.heap.size s A1 n1 A2 n2 A3 n3) (hr' : IsFr w w.heap.size s' B1 m1 B2 m2 B3 m3) (hs : SmallFr s) (hs' : SmallFr s') :
    Calls Try.prog 32 #[frV s A1 n1 c1 A2 n2 c2 A3 n3 c3, frV s' B1 m1 d1 B2 m2 d2 B3 m3 d3] w fun e w' => e = .returned (.bool (decide (s = s'))) ∧ Below w.heap.size w w' := by
  obtain ⟨l1, l2, l3⟩ := hs
  obtain ⟨l1', l2', l3'⟩ := hs'
  rw [hr.pile.1] at l1; rw [hr.vars.1] at l2; rw [hr.flags.1] at l3
  rw [hr'.pile.1] at l1'; rw [hr'.vars.1] at l2'; rw [hr'.flags.1] at l3'
  cases s; cases s'
  exact l8SameFrame_x _ _ _ _ _ _ _ _ _ _ _ _ _ _ _ _ _ _ _ _ _ _ _ _ _ _ _ _ _ _ _ _ _ _ _ _ _ _ _ _ w hr.pile hr.vars hr.flags hr'.pile hr'.vars hr'.flags l1 l2 l3 l1' l2' l3'

set_option maxHeartbeats 40000000 in
set_option maxRecDepth 100000 in
theorem frsEqual_any (A A' : Option Addr) (n n' c c' : Nat) (xs ys : List Fr) (w : World) (hr : ReadsFr w w.heap.size A n xs) (hr' : ReadsFr w w.heap.size A' n' ys) (hn : n ≤ 1048576) (hn' : n' ≤ 1048576) (hs : ∀ x ∈ xs, SmallFr x) (hs' : ∀ x ∈ ys, SmallFr x) :
    Calls Try.prog 36 #[.slice A n c, .slice A' n' c', .func (.func 37) #[] #[]] w fun e w' => e = .returned (.bool (decide (xs = ys))) ∧ Below w.heap.size w w' := by
  by_cases hnn : n = n'
  · subst hnn
    go_enter Try.func36, Try.ntmps36
    go_wp2
    go_loopw [17] (fun i wr => ∃ k : Nat, k ≤ n ∧ i = .int .i64 k ∧ Below w.heap.size w wr ∧ Hid (xs.take k = ys.take k)) (fun i _ => n - (intOf i).toNat)
    case atStart => exact ⟨0, Nat.zero_le _, rfl, Below.refl _ _, put rfl⟩
    case round =>
      obtain ⟨k, hk, rfl, hb, hq⟩ := hrel
      by_cases hlt : k < n
      · obtain ⟨b, off, s, A1, n1, c1, A2, n2, c2, A3, n3, c3, rfl, hbl, g0, g1, g2, g3, g4, g5, g6, g7, g8, g9, g10, rr, hx⟩ := (hr.below hb).at_ hlt
        obtain ⟨b', off', s', B1, m1, d1, B2, m2, d2, B3, m3, d3, rfl, hbl', h0, h1, h2, h3, h4, h5, h6, h7, h8, h9, h10, rr', hx'⟩ := (hr'.below hb).at_ hlt
        have RR := put (rr.more hb.size)
        have RR' := put (rr'.more hb.size)
        clear rr rr'
        have bA : Below wr.heap.size wr (wr.alloc (.cells #[.int .i64 s.ide, .int .i64 s.fn, .int .i64 s.pla, .slice A1 n1 c1, .slice A2 n2 c2, .slice A3 n3 c3, .int .i64 s.result, .int .i64 s.mode, .int .i64 s.value, .int .i64 s.base, .bool s.off] 59)) := (Below.refl _ _).alloc (Nat.le_refl _) _
        have b2 : Below wr.heap.size wr ((wr.alloc (.cells #[.int .i64 s.ide, .int .i64 s.fn, .int .i64 s.pla, .slice A1 n1 c1, .slice A2 n2 c2, .slice A3 n3 c3, .int .i64 s.result, .int .i64 s.mode, .int .i64 s.value, .int .i64 s.base, .bool s.off] 59)).alloc (.cells #[(.int .i64 s'.ide), (.int .i64 s'.fn), (.int .i64 s'.pla), .slice B1 m1 d1, .slice B2 m2 d2, .slice B3 m3 d3, (.int .i64 s'.result), (.int .i64 s'.mode), (.int .i64 s'.value), (.int .i64 s'.base), (.bool s'.off)] 59)) := bA.alloc bA.size _
        have e0 := (bA.cell (p := ⟨b', _, none⟩) (show b' < wr.heap.size by have := hb.size; omega)).trans h0
        have e1 := (bA.cell (p := ⟨b', _, none⟩) (show b' < wr.heap.size by have := hb.size; omega)).trans h1
        have e2 := (bA.cell (p := ⟨b', _, none⟩) (show b' < wr.heap.size by have := hb.size; omega)).trans h2
        have e3 := (bA.cell (p := ⟨b', _, none⟩) (show b' < wr.heap.size by have := hb.size; omega)).trans h3
        have e4 := (bA.cell (p := ⟨b', _, none⟩) (show b' < wr.heap.size by have := hb.size; omega)).trans h4
        have e5 := (bA.cell (p := ⟨b', _, none⟩) (show b' < wr.heap.size by have := hb.size; omega)).trans h5
        have e6 := (bA.cell (p := ⟨b', _, none⟩) (show b' < wr.heap.size by have := hb.size; omega)).trans h6
        have e7 := (bA.cell (p := ⟨b', _, none⟩) (show b' < wr.heap.size by have := hb.size; omega)).trans h7
        have e8 := (bA.cell (p := ⟨b', _, none⟩) (show b' < wr.heap.size by have := hb.size; omega)).trans h8
        have e9 := (bA.cell (p := ⟨b', _, none⟩) (show b' < wr.heap.size by have := hb.size; omega)).trans h9
        have e10 := (bA.cell (p := ⟨b', _, none⟩) (show b' < wr.heap.size by have := hb.size; omega)).trans h10
        have hkx : Keep ((wr.alloc (.cells #[.int .i64 s.ide, .int .i64 s.fn, .int .i64 s.pla, .slice A1 n1 c1, .slice A2 n2 c2, .slice A3 n3 c3, .int .i64 s.result, .int .i64 s.mode, .int .i64 s.value, .int .i64 s.base, .bool s.off] 59)).alloc (.cells #[(.int .i64 s'.ide), (.int .i64 s'.fn), (.int .i64 s'.pla), .slice B1 m1 d1, .slice B2 m2 d2, .slice B3 m3 d3, (.int .i64 s'.result), (.int .i64 s'.mode), (.int .i64 s'.value), (.int .i64 s'.base), (.bool s'.off)] 59)) wr.heap.size #[.int .i64 s.ide, .int .i64 s.fn, .int .i64 s.pla, .slice A1 n1 c1, .slice A2 n2 c2, .slice A3 n3 c3, .int .i64 s.result, .int .i64 s.mode, .int .i64 s.value, .int .i64 s.base, .bool s.off] 59 := (Keep.new _ _ _).alloc _
        have hky : Keep ((wr.alloc (.cells #[.int .i64 s.ide, .int .i64 s.fn, .int .i64 s.pla, .slice A1 n1 c1, .slice A2 n2 c2, .slice A3 n3 c3, .int .i64 s.result, .int .i64 s.mode, .int .i64 s.value, .int .i64 s.base, .bool s.off] 59)).alloc (.cells #[(.int .i64 s'.ide), (.int .i64 s'.fn), (.int .i64 s'.pla), .slice B1 m1 d1, .slice B2 m2 d2, .slice B3 m3 d3, (.int .i64 s'.result), (.int .i64 s'.mode), (.int .i64 s'.value), (.int .i64 s'.base), (.bool s'.off)] 59)) (wr.heap.size + 1) #[(.int .i64 s'.ide), (.int .i64 s'.fn), (.int .i64 s'.pla), .slice B1 m1 d1, .slice B2 m2 d2, .slice B3 m3 d3, (.int .i64 s'.result), (.int .i64 s'.mode), (.int .i64 s'.value), (.int .i64 s'.base), (.bool s'.off)] 59 := by
          have := Keep.new (wr.alloc (.cells #[.int .i64 s.ide, .int .i64 s.fn, .int .i64 s.pla, .slice A1 n1 c1, .slice A2 n2 c2, .slice A3 n3 c3, .int .i64 s.result, .int .i64 s.mode, .int .i64 s.value, .int .i64 s.base, .bool s.off] 59)) #[(.int .i64 s'.ide), (.int .i64 s'.fn), (.int .i64 s'.pla), .slice B1 m1 d1, .slice B2 m2 d2, .slice B3 m3 d3, (.int .i64 s'.result), (.int .i64 s'.mode), (.int .i64 s'.value), (.int .i64 s'.base), (.bool s'.off)] 59
          rw [World.size_alloc] at this
          exact this
        go_wp2_with fail
        generalize (wr.alloc (.cells #[.int .i64 s.ide, .int .i64 s.fn, .int .i64 s.pla, .slice A1 n1 c1, .slice A2 n2 c2, .slice A3 n3 c3, .int .i64 s.result, .int .i64 s.mode, .int .i64 s.value, .int .i64 s.base, .bool s.off] 59)).alloc (.cells #[(.int .i64 s'.ide), (.int .i64 s'.fn), (.int .i64 s'.pla), .slice B1 m1 d1, .slice B2 m2 d2, .slice B3 m3 d3, (.int .i64 s'.result), (.int .i64 s'.mode), (.int .i64 s'.value), (.int .i64 s'.base), (.bool s'.off)] 59) = W1 at b2 hkx hky ⊢
        have h1 := hs _ (mem_of_at hx.out)
        have h2 := hs' _ (mem_of_at hx'.out)
        refine (sameFrame_any s s' A1 n1 c1 A2 n2 c2 A3 n3 c3 B1 m1 d1 B2 m2 d2 B3 m3 d3 W1 (RR.out.now b2) (RR'.out.now b2) h1 h2).mono ?_
        rintro e W2 ⟨rfl, hb2⟩
        have hB : Below w.heap.size w W2 := (hb.trans (b2.mono hb.size)).trans (hb2.mono (by have := hb.size; have := b2.size; omega))
        by_cases hq' : s = s'
        · have hs' := put (take_sameA hq.out hx.out hx'.out hq')
          rw [decide_eq_true hq']
          go_wp2
          go_roundw
          case rel => exact ⟨k + 1, by omega, by go_num, hB, hs'⟩
          case measure => simp [intOf]; omega
        · have hs' := put (take_differA hx.out hx'.out hq')
          rw [decide_eq_false hq']
          go_wp2
          go_ret
          exact ⟨ret_no hs'.out, hB⟩
      · obtain rfl : k = n := by omega
        have hfin := put (all_same hq.out hr.1 hr'.1)
        go_wp2
        go_ret
        exact ⟨ret_yes hfin.out, hb⟩
  · have hfin := put (show ¬ xs = ys from fun h => hnn (by rw [← hr.1, ← hr'.1, h]))
    have hnn' : ¬ (n : Int) = n' := by omega
    go_enter Try.func36, Try.ntmps36
    go_wp2
    go_ret
    exact ⟨ret_no hfin.out, Below.refl _ _⟩

end Go.Proofs.Ytcpjddkhclaafaa

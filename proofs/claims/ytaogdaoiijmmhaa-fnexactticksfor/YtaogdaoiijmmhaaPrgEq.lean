/-
  The laws' comparing of programs: one that reads the same is the same.
-/
import Derived.Test.YtaogdaoiijmmhaaPrgTo2
import Derived.Test.YtaogdaoiijmmhaaNeeds
namespace Go.Proofs.Ytaogdaoiijmmhaa
open Go.RowKit Exs

theorem eqInts_below (A A' : Option Addr) (n c c' : Nat) (xs : List Int) (w : World) (hr : Reads w w.heap.size .i64 A n xs) (hr' : Reads w w.heap.size .i64 A' n xs) (hn : n ≤ 1048576) :
    Calls Try.prog 17 #[.slice A n c, .slice A' n c'] w fun e w' => e = .returned (.bool true) ∧ Below w.heap.size w w' :=
  (eqInts_same A A' n c c' xs w hr hr' hn).mono fun _ _ ⟨he, q, hq⟩ => ⟨he, by rw [hq]; exact below_drewN (Below.refl _ _) _⟩

set_option maxHeartbeats 1000000 in
set_option maxRecDepth 100000 in
theorem eqStmt_same (s : St) (A1 : Option Addr) (n1 c1 : Nat) (A2 : Option Addr) (n2 c2 : Nat) (A3 : Option Addr) (n3 c3 : Nat) (B1 : Option Addr) (d1 : Nat) (B2 : Option Addr) (d2 : Nat) (B3 : Option Addr) (d3 : Nat) (w : World)
    (hr : IsSt w w.heap.size s A1 n1 A2 n2 A3 n3) (hr' : IsSt w w.heap.size s B1 n1 B2 n2 B3 n3) (hs : SmallS s) :
    Calls Try.prog 61 #[stV s A1 n1 c1 A2 n2 c2 A3 n3 c3, stV s B1 n1 d1 B2 n2 d2 B3 n3 d3] w fun e w' => e = .returned (.bool true) ∧ Below w.heap.size w w' := by
  obtain ⟨l1, l2, l3⟩ := hs
  rw [hr.ex.1] at l1; rw [hr.th.1] at l2; rw [hr.el.1] at l3
  unfold stV
  go_enter Try.func61, Try.ntmps61
  go_wp2_with fail
  have hb0 : Below w.heap.size w ((w.alloc (.cells #[.int .i64 s.kind, .int .i64 s.n, .slice A1 n1 c1, .slice A2 n2 c2, .slice A3 n3 c3] 68)).alloc (.cells #[.int .i64 s.kind, .int .i64 s.n, .slice B1 n1 d1, .slice B2 n2 d2, .slice B3 n3 d3] 68)) := ((Below.refl _ _).alloc (Nat.le_refl _) _).alloc (by simp) _
  have hx0 : Keep ((w.alloc (.cells #[.int .i64 s.kind, .int .i64 s.n, .slice A1 n1 c1, .slice A2 n2 c2, .slice A3 n3 c3] 68)).alloc (.cells #[.int .i64 s.kind, .int .i64 s.n, .slice B1 n1 d1, .slice B2 n2 d2, .slice B3 n3 d3] 68)) w.heap.size #[.int .i64 s.kind, .int .i64 s.n, .slice A1 n1 c1, .slice A2 n2 c2, .slice A3 n3 c3] 68 := (Keep.new _ _ _).alloc _
  have hy0 : Keep ((w.alloc (.cells #[.int .i64 s.kind, .int .i64 s.n, .slice A1 n1 c1, .slice A2 n2 c2, .slice A3 n3 c3] 68)).alloc (.cells #[.int .i64 s.kind, .int .i64 s.n, .slice B1 n1 d1, .slice B2 n2 d2, .slice B3 n3 d3] 68)) (w.heap.size + 1) #[.int .i64 s.kind, .int .i64 s.n, .slice B1 n1 d1, .slice B2 n2 d2, .slice B3 n3 d3] 68 := by
    have := Keep.new (w.alloc (.cells #[.int .i64 s.kind, .int .i64 s.n, .slice A1 n1 c1, .slice A2 n2 c2, .slice A3 n3 c3] 68)) #[.int .i64 s.kind, .int .i64 s.n, .slice B1 n1 d1, .slice B2 n2 d2, .slice B3 n3 d3] 68
    rw [World.size_alloc] at this
    exact this
  generalize hW0 : (w.alloc (.cells #[.int .i64 s.kind, .int .i64 s.n, .slice A1 n1 c1, .slice A2 n2 c2, .slice A3 n3 c3] 68)).alloc (.cells #[.int .i64 s.kind, .int .i64 s.n, .slice B1 n1 d1, .slice B2 n2 d2, .slice B3 n3 d3] 68) = W0 at hb0 hx0 hy0 ⊢
  clear hW0
  refine (eqToks_same A1 B1 n1 c1 d1 s.ex _ (hr.ex.now hb0) (hr'.ex.now hb0) l1).mono ?_
  rintro e W1 ⟨rfl, hc0⟩
  have hb1 : Below w.heap.size w W1 := hb0.trans (hc0.mono hb0.size)
  have hx1 := hx0.below hc0
  have hy1 := hy0.below hc0
  clear hx0 hy0 hc0 hb0
  have q1 := hx1.cell 3
  have q2 := hy1.cell 3
  simp at q1 q2
  go_wp2_with fail
  clear q1 q2
  refine (eqInts_below A2 B2 n2 c2 d2 s.th _ (hr.th.now hb1) (hr'.th.now hb1) l2).mono ?_
  rintro e W2 ⟨rfl, hc1⟩
  have hb2 : Below w.heap.size w W2 := hb1.trans (hc1.mono hb1.size)
  have hx2 := hx1.below hc1
  have hy2 := hy1.below hc1
  clear hx1 hy1 hc1 hb1
  have q1 := hx2.cell 4
  have q2 := hy2.cell 4
  simp at q1 q2
  go_wp2_with fail
  clear q1 q2
  refine (eqInts_below A3 B3 n3 c3 d3 s.el _ (hr.el.now hb2) (hr'.el.now hb2) l3).mono ?_
  rintro e W3 ⟨rfl, hc2⟩
  have hb3 : Below w.heap.size w W3 := hb2.trans (hc2.mono hb2.size)
  have hx3 := hx2.below hc2
  have hy3 := hy2.below hc2
  clear hx2 hy2 hc2 hb2
  go_wp2
  go_ret
  exact ⟨rfl, hb3⟩

set_option maxHeartbeats 1000000 in
set_option maxRecDepth 100000 in
theorem eqStmts_same (A A' : Option Addr) (n c c' : Nat) (ss : List St) (w : World) (hr : ReadsS w w.heap.size A n ss) (hr' : ReadsS w w.heap.size A' n ss) (hn : n ≤ 1048576) (hs : ∀ x ∈ ss, SmallS x) :
    Calls Try.prog 54 #[.slice A n c, .slice A' n c'] w fun e w' => e = .returned (.bool true) ∧ Below w.heap.size w w' := by
  go_enter Try.func54, Try.ntmps54
  go_wp2
  go_loopw [5] (fun i wr => ∃ k : Nat, k ≤ n ∧ i = .int .i64 k ∧ Below w.heap.size w wr) (fun i _ => n - (intOf i).toNat)
  case atStart => exact ⟨0, Nat.zero_le _, rfl, Below.refl _ _⟩
  case round =>
    obtain ⟨k, hk, rfl, hbel⟩ := hrel
    by_cases hlt : k < n
    · obtain ⟨b, off, s, A1, n1, c1, A2, n2, c2, A3, n3, c3, rfl, hb, g0, g1, g2, g3, g4, r1, r2, r3, hx⟩ := (hr.below hbel).at_ hlt
      obtain ⟨b', off', s', B1, m1, d1, B2, m2, d2, B3, m3, d3, rfl, hb', h0, h1, h2, h3, h4, q1, q2, q3, hx'⟩ := (hr'.below hbel).at_ hlt
      obtain rfl : s = s' := by have := hx.out; rw [hx'.out] at this; injection this with this; exact this.symm
      have u0 := cell_regrown g0
      have v0 := cell_regrown h0
      have u1 := cell_regrown g1
      have v1 := cell_regrown h1
      have u2 := cell_regrown g2
      have v2 := cell_regrown h2
      have u3 := cell_regrown g3
      have v3 := cell_regrown h3
      have u4 := cell_regrown g4
      have v4 := cell_regrown h4
      obtain rfl : n1 = m1 := by have := r1.1; have := q1.1; omega
      obtain rfl : n2 = m2 := by have := r2.1; have := q2.1; omega
      obtain rfl : n3 = m3 := by have := r3.1; have := q3.1; omega
      have hcon := fun W (hW : Below wr.heap.size wr W) => eqStmt_same s A1 n1 c1 A2 n2 c2 A3 n3 c3 B1 d1 B2 d2 B3 d3 W ((IsSt.more ⟨r1, r2, r3⟩ hbel.size).now hW) ((IsSt.more ⟨q1, q2, q3⟩ hbel.size).now hW) (hs _ (mem_of_at hx.out))
      unfold stV at hcon
      clear r1 r2 r3 q1 q2 q3
      go_wp2
      refine wp_region_quiet_below (by kernel_rfl) (by kernel_rfl) ?_
      repeat (first | go_big_quiet_step ((go_at_call 61; exact Calls.regrown_of (hcon _ (below_regrown wr _ _)))) | quiet_step (fail))
      refine wpQuiet_nil ?_
      intro _ hw'
      obtain ⟨⟨dq, osq⟩, hw''⟩ := hw'
      subst hw''
      go_wp2
      go_roundw
      case rel => exact ⟨k + 1, by omega, by go_num, hbel.trans ((below_regrown wr dq osq).mono hbel.size)⟩
      case measure => simp [intOf]; omega
    · go_wp2
      go_ret
      exact ⟨rfl, hbel⟩

set_option maxHeartbeats 1000000 in
set_option maxRecDepth 100000 in
theorem eqFunc_same (f : Fc) (A1 : Option Addr) (n1 c1 : Nat) (A2 : Option Addr) (n2 c2 : Nat) (B1 : Option Addr) (d1 : Nat) (B2 : Option Addr) (d2 : Nat) (w : World)
    (hr : IsFc w w.heap.size f A1 n1 A2 n2) (hr' : IsFc w w.heap.size f B1 n1 B2 n2) (hs : SmallF f) :
    Calls Try.prog 40 #[fcV f A1 n1 c1 A2 n2 c2, fcV f B1 n1 d1 B2 n2 d2] w fun e w' => e = .returned (.bool true) ∧ Below w.heap.size w w' := by
  obtain ⟨l1, l2, l3⟩ := hs
  rw [hr.body.1] at l1; rw [hr.stmts.1] at l2
  unfold fcV
  go_enter Try.func40, Try.ntmps40
  go_wp2_with fail
  have hb0 : Below w.heap.size w ((w.alloc (.cells #[.int .i64 f.params, .int .i64 f.vars, .slice A1 n1 c1, .slice A2 n2 c2] 51)).alloc (.cells #[.int .i64 f.params, .int .i64 f.vars, .slice B1 n1 d1, .slice B2 n2 d2] 51)) := ((Below.refl _ _).alloc (Nat.le_refl _) _).alloc (by simp) _
  have hx0 : Keep ((w.alloc (.cells #[.int .i64 f.params, .int .i64 f.vars, .slice A1 n1 c1, .slice A2 n2 c2] 51)).alloc (.cells #[.int .i64 f.params, .int .i64 f.vars, .slice B1 n1 d1, .slice B2 n2 d2] 51)) w.heap.size #[.int .i64 f.params, .int .i64 f.vars, .slice A1 n1 c1, .slice A2 n2 c2] 51 := (Keep.new _ _ _).alloc _
  have hy0 : Keep ((w.alloc (.cells #[.int .i64 f.params, .int .i64 f.vars, .slice A1 n1 c1, .slice A2 n2 c2] 51)).alloc (.cells #[.int .i64 f.params, .int .i64 f.vars, .slice B1 n1 d1, .slice B2 n2 d2] 51)) (w.heap.size + 1) #[.int .i64 f.params, .int .i64 f.vars, .slice B1 n1 d1, .slice B2 n2 d2] 51 := by
    have := Keep.new (w.alloc (.cells #[.int .i64 f.params, .int .i64 f.vars, .slice A1 n1 c1, .slice A2 n2 c2] 51)) #[.int .i64 f.params, .int .i64 f.vars, .slice B1 n1 d1, .slice B2 n2 d2] 51
    rw [World.size_alloc] at this
    exact this
  generalize hW0 : (w.alloc (.cells #[.int .i64 f.params, .int .i64 f.vars, .slice A1 n1 c1, .slice A2 n2 c2] 51)).alloc (.cells #[.int .i64 f.params, .int .i64 f.vars, .slice B1 n1 d1, .slice B2 n2 d2] 51) = W0 at hb0 hx0 hy0 ⊢
  clear hW0
  refine (eqInts_below A1 B1 n1 c1 d1 f.body _ (hr.body.now hb0) (hr'.body.now hb0) l1).mono ?_
  rintro e W1 ⟨rfl, hc0⟩
  have hb1 : Below w.heap.size w W1 := hb0.trans (hc0.mono hb0.size)
  have hx1 := hx0.below hc0
  have hy1 := hy0.below hc0
  clear hx0 hy0 hc0 hb0
  have q1 := hx1.cell 3
  have q2 := hy1.cell 3
  simp at q1 q2
  go_wp2_with fail
  clear q1 q2
  refine (eqStmts_same A2 B2 n2 c2 d2 f.stmts _ (hr.stmts.now hb1) (hr'.stmts.now hb1) l2 l3).mono ?_
  rintro e W2 ⟨rfl, hc1⟩
  have hb2 : Below w.heap.size w W2 := hb1.trans (hc1.mono hb1.size)
  have hx2 := hx1.below hc1
  have hy2 := hy1.below hc1
  clear hx1 hy1 hc1 hb1
  go_wp2
  go_ret
  exact ⟨rfl, hb2⟩

set_option maxHeartbeats 1000000 in
set_option maxRecDepth 100000 in
theorem eqFuncs_same (A A' : Option Addr) (n c c' : Nat) (fs : List Fc) (w : World) (hr : ReadsF w w.heap.size A n fs) (hr' : ReadsF w w.heap.size A' n fs) (hn : n ≤ 1048576) (hs : ∀ x ∈ fs, SmallF x) :
    Calls Try.prog 28 #[.slice A n c, .slice A' n c'] w fun e w' => e = .returned (.bool true) ∧ Below w.heap.size w w' := by
  go_enter Try.func28, Try.ntmps28
  go_wp2
  go_loopw [5] (fun i wr => ∃ k : Nat, k ≤ n ∧ i = .int .i64 k ∧ Below w.heap.size w wr) (fun i _ => n - (intOf i).toNat)
  case atStart => exact ⟨0, Nat.zero_le _, rfl, Below.refl _ _⟩
  case round =>
    obtain ⟨k, hk, rfl, hbel⟩ := hrel
    by_cases hlt : k < n
    · obtain ⟨b, off, f, A1, n1, c1, A2, n2, c2, rfl, hb, g0, g1, g2, g3, r1, r2, hx⟩ := (hr.below hbel).at_ hlt
      obtain ⟨b', off', f', B1, m1, d1, B2, m2, d2, rfl, hb', h0, h1, h2, h3, q1, q2, hx'⟩ := (hr'.below hbel).at_ hlt
      obtain rfl : f = f' := by have := hx.out; rw [hx'.out] at this; injection this with this; exact this.symm
      have u0 := cell_regrown g0
      have v0 := cell_regrown h0
      have u1 := cell_regrown g1
      have v1 := cell_regrown h1
      have u2 := cell_regrown g2
      have v2 := cell_regrown h2
      have u3 := cell_regrown g3
      have v3 := cell_regrown h3
      obtain rfl : n1 = m1 := by have := r1.1; have := q1.1; omega
      obtain rfl : n2 = m2 := by have := r2.1; have := q2.1; omega
      have hcon := fun W (hW : Below wr.heap.size wr W) => eqFunc_same f A1 n1 c1 A2 n2 c2 B1 d1 B2 d2 W ((IsFc.more ⟨r1, r2⟩ hbel.size).now hW) ((IsFc.more ⟨q1, q2⟩ hbel.size).now hW) (hs _ (mem_of_at hx.out))
      unfold fcV at hcon
      clear r1 r2 q1 q2
      go_wp2
      refine wp_region_quiet_below (by kernel_rfl) (by kernel_rfl) ?_
      repeat (first | go_big_quiet_step ((go_at_call 40; exact Calls.regrown_of (hcon _ (below_regrown wr _ _)))) | quiet_step (fail))
      refine wpQuiet_nil ?_
      intro _ hw'
      obtain ⟨⟨dq, osq⟩, hw''⟩ := hw'
      subst hw''
      go_wp2
      go_roundw
      case rel => exact ⟨k + 1, by omega, by go_num, hbel.trans ((below_regrown wr dq osq).mono hbel.size)⟩
      case measure => simp [intOf]; omega
    · go_wp2
      go_ret
      exact ⟨rfl, hbel⟩

set_option maxHeartbeats 1000000 in
theorem eqProg_same (A A' : Option Addr) (n c c' : Nat) (fs : List Fc) (w : World) (hr : ReadsF w w.heap.size A n fs) (hr' : ReadsF w w.heap.size A' n fs) (hs : SmallP fs) :
    Calls Try.prog 14 #[.agg #[.slice A n c], .agg #[.slice A' n c']] w fun e w' => e = .returned (.bool true) ∧ Below w.heap.size w w' := by
  obtain ⟨l1, l2⟩ := hs
  rw [hr.1] at l1
  have hb0 : Below w.heap.size w ((w.alloc (.cells #[.slice A n c] 39)).alloc (.cells #[.slice A' n c'] 39)) := ((Below.refl _ _).alloc (Nat.le_refl _) _).alloc (by simp) _
  go_enter Try.func14, Try.ntmps14
  go_wp2_with fail
  refine (eqFuncs_same A A' n c c' fs _ (hr.now hb0) (hr'.now hb0) l1 l2).mono ?_
  rintro e W1 ⟨rfl, hc⟩
  go_wp2
  go_ret
  exact ⟨rfl, hb0.trans (hc.mono hb0.size)⟩

end Go.Proofs.Ytaogdaoiijmmhaa

/-
  The reference's SitesOf and OrderOf: contracts.
-/
import Derived.Test.YtfdijeeilfhjeaaSitI
namespace Go.Proofs.Ytfdijeeilfhjeaa
open Go.RowKit Exs

theorem alone_order {f : Fc} (h : aloneB f = true) : Nest f ∧ (∀ n ∈ f.body, ((0 : Nat) : Int) ≤ n ∧ n < f.stmts.length) ∧ ord f f.stmts.length f.body = run 0 f.stmts.length := by
  obtain ⟨n, _, hp⟩ := (alone_iff f).1 h
  exact ⟨nest_of_blocks hp.2.1, body_of_blocks hp.2.1, hp.2.2.2.1⟩

set_option maxHeartbeats 1000000 in
theorem specSitesOf_any (f : Fc) (A1 : Option Addr) (n1 c1 : Nat) (A2 : Option Addr) (n2 c2 : Nat) (w : World) (hr : IsFc w w.heap.size f A1 n1 A2 n2) (hs : SmallF f) :
    Calls Try.prog 21 #[fcV f A1 n1 c1 A2 n2 c2] w fun e w' => ∃ v, e = .returned (.tuple #[v, .bool (siteAns f).2]) ∧ Nums w' w.heap.size 3 .i64 v (siteAns f).1 ∧ Below w.heap.size w w' := by
  have hb0 : Below w.heap.size w (w.alloc (.cells #[.int .i64 f.params, .int .i64 f.vars, .slice A1 n1 c1, .slice A2 n2 c2] 58)) := (Below.refl _ _).alloc (Nat.le_refl _) _
  have hk0 := Keep.new w #[.int .i64 f.params, .int .i64 f.vars, .slice A1 n1 c1, .slice A2 n2 c2] 58
  have HL := put hr.stmts.1
  have H1 := put (l3Alone_any f A1 n1 c1 A2 n2 c2 _ (hr.now hb0) hs)
  have H2 := put (fun W (hW : Below w.heap.size w W) (hn : n2 ≤ 1000000) => l3Sites_any f A1 n1 c1 A2 n2 c2 W (hr.now hW) hn)
  unfold fcV at H1 H2 ⊢
  go_enter Try.func21, Try.ntmps21
  go_wp2_with fail
  refine H1.out.mono ?_
  rintro e w1 ⟨rfl, hb1⟩
  have b1 : Below w.heap.size w w1 := hb0.trans (hb1.mono hb0.size)
  have k1 := hk0.below hb1
  have y0 := k1.cell 0
  have y1 := k1.cell 1
  have y2 := k1.cell 2
  have y3 := k1.cell 3
  simp at y0 y1 y2 y3
  clear hb0 hk0 hb1 H1
  cases hal : aloneB f with
  | false =>
    have hf := put (show siteAns f = ([], false) by simp [siteAns, hal])
    clear hal H2
    go_wp2
    go_ret2
    exact ⟨.slice none 0 0, retL (by rw [hf.out]), by rw [hf.out]; exact Nums.nil _ _ _ _, b1⟩
  | true =>
    have hf := put (show siteAns f = (sitesL f, true) by simp [siteAns, hal])
    have h16 := put (alone_head hal).1
    clear hal
    go_wp2_with fail
    refine (H2.out _ b1 (by have := h16.out; have := HL.out; omega)).mono ?_
    rintro e w2 ⟨v, rfl, hnum, hb2⟩
    have b2 : Below w.heap.size w w2 := b1.trans (hb2.mono b1.size)
    have HN := put (hnum.more b1.size)
    clear hnum H2
    go_wp2
    go_ret2
    exact ⟨_, retL (by rw [hf.out]), by rw [hf.out]; exact HN.out, b2⟩

set_option maxHeartbeats 1000000 in
theorem specOrderOf_any (f : Fc) (A1 : Option Addr) (n1 c1 : Nat) (A2 : Option Addr) (n2 c2 : Nat) (w : World) (hr : IsFc w w.heap.size f A1 n1 A2 n2) (hs : SmallF f) :
    Calls Try.prog 42 #[fcV f A1 n1 c1 A2 n2 c2] w fun e w' => ∃ v, e = .returned (.tuple #[v, .bool (ordAns f).2]) ∧ Nums w' w.heap.size 3 .i64 v (ordAns f).1 ∧ Below w.heap.size w w' := by
  have hb0 : Below w.heap.size w (w.alloc (.cells #[.int .i64 f.params, .int .i64 f.vars, .slice A1 n1 c1, .slice A2 n2 c2] 58)) := (Below.refl _ _).alloc (Nat.le_refl _) _
  have hk0 := Keep.new w #[.int .i64 f.params, .int .i64 f.vars, .slice A1 n1 c1, .slice A2 n2 c2] 58
  have HL := put hr.stmts.1
  have H1 := put (l3Alone_any f A1 n1 c1 A2 n2 c2 _ (hr.now hb0) hs)
  have H2 := put (fun W (hW : Below w.heap.size w W) (hal : aloneB f = true) => by
    have := l3Order_any f A1 n1 c1 A2 n2 c2 (alone_order hal).1 hs hr.stmts.1 f.stmts.length f.body A1 n1 c1 0 W (alone_order hal).2.1 (by omega) (hr.now hW) (hr.now hW).body (by rw [← hr.body.1]; exact hs.1) (by rw [(alone_order hal).2.2, run_length]; have := (alone_head hal).1; omega)
    rw [(alone_order hal).2.2] at this
    exact this)
  unfold fcV at H1 H2 ⊢
  go_enter Try.func42, Try.ntmps42
  go_wp2_with fail
  refine H1.out.mono ?_
  rintro e w1 ⟨rfl, hb1⟩
  have b1 : Below w.heap.size w w1 := hb0.trans (hb1.mono hb0.size)
  have k1 := hk0.below hb1
  have y0 := k1.cell 0
  have y1 := k1.cell 1
  have y2 := k1.cell 2
  have y3 := k1.cell 3
  simp at y0 y1 y2 y3
  clear hb0 hk0 hb1 H1
  cases hal : aloneB f with
  | false =>
    have hf := put (show ordAns f = ([], false) by simp [ordAns, hal])
    clear hal H2
    go_wp2
    go_ret2
    exact ⟨.slice none 0 0, retL (by rw [hf.out]), by rw [hf.out]; exact Nums.nil _ _ _ _, b1⟩
  | true =>
    have hf := put (show ordAns f = (run 0 f.stmts.length, true) by simp [ordAns, hal])
    have HAL := put hal
    clear hal
    go_wp2_with fail
    refine (H2.out _ b1 HAL.out).mono ?_
    rintro e w2 ⟨v, rfl, hnum, hb2⟩
    have b2 : Below w.heap.size w w2 := b1.trans (hb2.mono b1.size)
    have HN := put (hnum.more b1.size)
    clear hnum H2
    go_wp2
    go_ret2
    exact ⟨_, retL (by rw [hf.out]), by rw [hf.out]; exact HN.out, b2⟩

end Go.Proofs.Ytfdijeeilfhjeaa

/-
  The program's iterator over a function's places, and its test that they are in order.
-/
import Derived.Test.YtaogdaoiijmmhaaYield
import Derived.RangeFuncBox
namespace Go.Proofs.Ytaogdaoiijmmhaa
open Go.RowKit Go.Shelf Exs
attribute [local go_sem] Oper.semAt_some

set_option maxHeartbeats 1000000 in
theorem placesIn_in (F : Fence) (n : Nat) (h53 : F.fn 39) (hro : F.round = none) (f : Fc) (A1 : Option Addr) (n1 c1 : Nat) (A2 : Option Addr) (n2 c2 : Nat) (w : World) :
    CallsIn F n Try.prog 39 #[fcV f A1 n1 c1 A2 n2 c2] w fun e w' => e = .returned (.func (.func 52) #[] #[.pointer (some ⟨w.heap.size, 0, none⟩)]) ∧ w' = w.alloc (.cells #[.int .i64 f.params, .int .i64 f.vars, .slice A1 n1 c1, .slice A2 n2 c2] 51) := by
  unfold fcV
  refine callsIn_of_wp Try.func39 rfl h53 ?_ hro
  simp only [Try.ntmps39, List.size_toArray, List.length_cons, List.length_nil, Nat.reduceAdd, Nat.reduceSub, Array.replicate_succ, Array.replicate_zero, List.push_toArray, List.append_toArray, List.nil_append, List.cons_append]
  gi_wp2
  go_ret
  exact ⟨rfl, rfl⟩

set_option maxHeartbeats 1000000 in
set_option maxRecDepth 100000 in
/-- The iterator's value. -/
theorem places_steps (F : Fence) (hd : F.depth = none) (n : Nat) (h77 : F.fn 52) (h78 : F.fn 53) (hro : F.round = none) (B n₀ : Nat) (Mine : World → Nat → Prop) (Qw : World → Prop) (f : Fc) (A1 : Option Addr) (n1 c1 : Nat) (A2 : Option Addr) (n2 c2 : Nat) (st : Prop) (w : World)
    (hMa : ∀ W o g, g < W.heap.size → ¬ Mine W g → ¬ Mine (W.alloc o) g) (hMf : ∀ W o, w.heap.size + 2 ≤ W.heap.size → Qw W → ¬ Mine (W.alloc o) W.heap.size) (hn : n₀ ≤ w.heap.size) (hsm : SmallF f)
    (hB : Keep w B #[.int .i64 f.params, .int .i64 f.vars, .slice A1 n1 c1, .slice A2 n2 c2] 51) (hf : IsFc w n₀ f A1 n1 A2 n2) (hst : go f f.stmts.length f.body false 0 = none → st) :
    Steps F n Try.prog 52 #[.pointer (some ⟨B, 0, none⟩)] (fun x : Int × Bool => #[.int .i64 x.1, .bool x.2]) (KeepsBut n₀ Mine) (fun k x => okAt f k x.1 x.2 = true ∨ st) (stepTo f) 0 (go f f.stmts.length f.body false 0) Qw w := by
  intro l J Jx W hW hJ hQ hY h0
  have hdd : ∀ k : Nat, (F.depth.isSome = true → 1 ≤ k) := fun k h => by rw [hd] at h; cases h
  have hBW := hB.below hW
  have hfW := hf.below (hW.mono hn)
  have hcall := yieldBlock_in F hd h78 hro l n₀ Mine f A1 n1 c1 A2 n2 c2 J Jx st hJ hMa (fun k W o h => hMf W o (hQ k W h).1 (hQ k W h).2) hsm
    (fun m k x b W1 h1 h2 => YieldAt.free hd m (hY k (x, b) W1 h1 h2)) f.stmts.length (n - 1) f.body A1 n1 c1 false 0 W (by omega) (Nat.le_trans hn hW.size) (by rw [← hf.body.1]; exact hsm.1) hfW hfW.body h0 hst
  unfold fcV at hcall
  have y0 := hBW.cell 0
  have y1 := hBW.cell 1
  have y2 := hBW.cell 2
  have y3 := hBW.cell 3
  simp at y0 y1 y2 y3
  have H := put hcall
  clear hcall hY
  show CallsIn F n Try.prog 52 #[.func (.yield l) #[] #[], .pointer (some ⟨B, 0, none⟩)] W _
  refine callsIn_of_wp Try.func52 rfl h77 ?_ hro
  simp only [Try.ntmps52, List.size_toArray, List.length_cons, List.length_nil, Nat.reduceAdd, Nat.reduceSub, Array.replicate_succ, Array.replicate_zero, List.push_toArray, List.append_toArray, List.nil_append, List.cons_append]
  gi_wp2_with fail
  refine H.out.mono ?_
  rintro e W3 (⟨k1, hk1, rfl, hJ4, _⟩ | ⟨hk1, rfl, hx3⟩)
  · have HK := put hk1
    clear hk1 H
    gi_wp2
    go_end0
    exact ⟨⟨_, rfl⟩, .inl ⟨k1, HK.out, hJ4⟩⟩
  · have HK := put hk1
    clear hk1 H
    gi_wp2
    go_end0
    exact ⟨⟨_, rfl⟩, .inr ⟨HK.out, hx3⟩⟩

end Go.Proofs.Ytaogdaoiijmmhaa

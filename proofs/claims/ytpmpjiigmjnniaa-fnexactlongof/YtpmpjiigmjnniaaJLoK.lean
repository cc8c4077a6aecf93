/-
  slices.Backward over a row of numbers: its walk, for whatever loop body.
-/
import Derived.Test.YtpmpjiigmjnniaaJYield
import Derived.Test.YtpmpjiigmjnniaaJOrdI
namespace Go.Proofs.Ytpmpjiigmjnniaa
open Go.RowKit Go.Shelf Exs
attribute [local go_sem] Oper.semAt_some

/-- A box that holds a row, and the row's numbers where they lie. -/
def Fix (B : Nat) (A : Option Addr) (m c : Nat) (xs : List Int) (W : World) : Prop :=
  W.cell? ⟨B, 0, none⟩ = some (.slice A m c) ∧ m = xs.length ∧ ∀ j x, xs[j]? = some x → ∃ g o, A = some ⟨g, o, none⟩ ∧ W.cell? ⟨g, o + j, none⟩ = some (.int .i64 x)

set_option maxRecDepth 100000 in
set_option maxHeartbeats 2000000 in
theorem back_steps (F : Fence) (hd : F.depth = none) (n : Nat) (h52 : F.fn 52) (hro : F.round = none) (B : Nat) (A : Option Addr) (m c : Nat) (xs : List Int) (hm : m ≤ 1000000) (w : World) :
    Steps F n Try.prog 52 #[.pointer (some ⟨B, 0, none⟩)] (fun x : Int × Int => #[.int .i64 x.1, .int .i64 x.2]) (fun _ _ => True) (fun k x => k < m ∧ x.1 = (m : Int) - 1 - (k : Int)) (fun k _ => some (k + 1)) 0 (some m) (Fix B A m c xs) w := by
  intro l J Jx W hW hJ hQ hY h0
  have hdd : ∀ k : Nat, (F.depth.isSome = true → 1 ≤ k) := fun k h => by rw [hd] at h; cases h
  have y0 := (hQ 0 W h0).2.1
  have hw0 : IntKind.i64.wrap ((m : Int) - 1) = (m : Int) - 1 := IntWalk.i64_in _ ⟨by omega, by omega⟩
  show CallsIn F n Try.prog 52 #[.func (.yield l) #[] #[], .pointer (some ⟨B, 0, none⟩)] W _
  refine callsIn_of_wp Try.func52 rfl h52 ?_ hro
  simp only [Try.ntmps52, List.size_toArray, List.length_cons, List.length_nil, Nat.reduceAdd, Nat.reduceSub, Array.replicate_succ, Array.replicate_zero, List.push_toArray, List.append_toArray, List.nil_append, List.cons_append]
  gi_wp2
  gi_loopw [3] (fun i wr => ∃ k : Nat, k ≤ m ∧ i = .int .i64 ((m : Int) - 1 - (k : Int)) ∧ J k wr) (fun i _ => (intOf i + 1).toNat)
  case atStart => exact ⟨0, Nat.zero_le _, by simp, h0⟩
  case round =>
    obtain ⟨k, hk, rfl, hJk⟩ := hrel
    clear y0
    by_cases hlt : k < m
    · obtain ⟨kk, hkk⟩ : ∃ kk : Nat, (m : Int) - 1 - (k : Int) = (kk : Int) := ⟨m - 1 - k, by omega⟩
      obtain ⟨z0, hml, hz⟩ := (hQ k wr hJk).2
      obtain ⟨x, hx⟩ : ∃ x, xs[kk]? = some x := ⟨_, List.getElem?_eq_getElem (by omega)⟩
      obtain ⟨g, o, hA, hc⟩ := hz kk x hx
      have hyy := hY k ((kk : Int), x) wr hJk ⟨hlt, hkk.symm⟩
      have HKK := put hkk
      have hkm : kk < m := by omega
      have hwk : IntKind.i64.wrap ((kk : Int) - 1) = (kk : Int) - 1 := IntWalk.i64_in _ ⟨by omega, by omega⟩
      rw [hkk]
      subst hA
      obtain ⟨fn, tmps, assign, body, hy, hR⟩ := hyy
      clear hz hx hkk hml hY hQ hJk
      gi_wp2_with ((try refine ⟨hdd _, ?_⟩); refine hR.mono ?_; clear hR; rintro e W2 (⟨_, ⟨⟩, rfl, hJ2, _⟩ | ⟨⟨⟩, _⟩))
      go_roundw
      case rel => exact ⟨k + 1, by omega, by have := HKK.out; congr 1; omega, hJ2⟩
      case measure => simp [intOf]
    · obtain rfl : k = m := by omega
      have hneg : (k : Int) - 1 - (k : Int) = -1 := by omega
      rw [hneg]
      gi_wp2
      go_end0
      exact ⟨⟨_, rfl⟩, .inl ⟨k, rfl, hJk⟩⟩

end Go.Proofs.Ytpmpjiigmjnniaa

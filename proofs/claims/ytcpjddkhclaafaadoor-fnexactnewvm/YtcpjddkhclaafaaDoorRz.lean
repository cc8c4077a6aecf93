/-
  What may raise something, what stands only where the pile is empty.
-/
import Derived.Test.YtcpjddkhclaafaaDoorGrf
namespace Go.Proofs.YtcpjddkhclaafaaDoor
open Go.RowKit Exs Ht

/-- Whether it may raise something. -/
def raisB (op : Int) : Bool := op == 4 || op == 7 || op == 13 || op == 14 || op == 16 || op == 17
theorem raisB_iff (op : Int) : raisB op = true ↔ op = 4 ∨ op = 7 ∨ op = 13 ∨ op = 14 ∨ op = 16 ∨ op = 17 := by simp [raisB, or_assoc]
/-- Whether the pile must be empty there. -/
def flatB (op : Int) : Bool := op == 18 || op == 16 || op == 14 || op == 17
theorem flatB_iff (op : Int) : flatB op = true ↔ op = 18 ∨ op = 16 ∨ op = 14 ∨ op = 17 := by simp [flatB, or_assoc]

set_option maxHeartbeats 400000 in
theorem mayRaise_any (op x : Int) (w : World) : Calls Tryd.prog 83 #[.agg #[.int .i64 op, .int .i64 x]] w fun e w' => e = .returned (.bool (raisB op)) ∧ Below w.heap.size w w' := by
  have hb := (Below.refl w.heap.size w).alloc (Nat.le_refl _) (Obj.cells #[.int .i64 op, .int .i64 x] 83)
  by_cases h : raisB op = true
  · rcases (raisB_iff op).1 h with rfl | rfl | rfl | rfl | rfl | rfl
    all_goals
      clear h
      go_enter Tryd.func83, Tryd.ntmps83
      go_wp2
      go_ret
      exact ⟨rfl, hb⟩
  · have h0 := no_of h
    rw [h0]
    have hn := fun hh => h ((raisB_iff op).2 hh)
    have a4 : (op == 4) = false := beq_of fun e => hn (by omega)
    have a7 : (op == 7) = false := beq_of fun e => hn (by omega)
    have a13 : (op == 13) = false := beq_of fun e => hn (by omega)
    have a14 : (op == 14) = false := beq_of fun e => hn (by omega)
    have a16 : (op == 16) = false := beq_of fun e => hn (by omega)
    have a17 : (op == 17) = false := beq_of fun e => hn (by omega)
    clear hn h h0
    go_enter Tryd.func83, Tryd.ntmps83
    go_wp2
    go_ret
    exact ⟨rfl, hb⟩

set_option maxHeartbeats 400000 in
theorem wantsNothing_any (op x : Int) (w : World) : Calls Tryd.prog 85 #[.agg #[.int .i64 op, .int .i64 x]] w fun e w' => e = .returned (.bool (flatB op)) ∧ Below w.heap.size w w' := by
  have hb := (Below.refl w.heap.size w).alloc (Nat.le_refl _) (Obj.cells #[.int .i64 op, .int .i64 x] 83)
  by_cases h : flatB op = true
  · rcases (flatB_iff op).1 h with rfl | rfl | rfl | rfl
    all_goals
      clear h
      go_enter Tryd.func85, Tryd.ntmps85
      go_wp2
      go_ret
      exact ⟨rfl, hb⟩
  · have h0 := no_of h
    rw [h0]
    have hn := fun hh => h ((flatB_iff op).2 hh)
    have a18 : (op == 18) = false := beq_of fun e => hn (by omega)
    have a16 : (op == 16) = false := beq_of fun e => hn (by omega)
    have a14 : (op == 14) = false := beq_of fun e => hn (by omega)
    have a17 : (op == 17) = false := beq_of fun e => hn (by omega)
    clear hn h h0
    go_enter Tryd.func85, Tryd.ntmps85
    go_wp2
    go_ret
    exact ⟨rfl, hb⟩

set_option maxHeartbeats 400000 in
theorem l5Raises_any (op : Int) (w : World) : Calls Tryd.prog 55 #[.int .i64 op] w fun e w' => e = .returned (.bool (raisB op)) ∧ w = w' := by
  by_cases h : raisB op = true
  · rcases (raisB_iff op).1 h with rfl | rfl | rfl | rfl | rfl | rfl
    all_goals
      clear h
      go_enter Tryd.func55, Tryd.ntmps55
      go_wp2
      go_ret
      exact ⟨rfl, rfl⟩
  · have h0 := no_of h
    rw [h0]
    have hn := fun hh => h ((raisB_iff op).2 hh)
    have a4 : (op == 4) = false := beq_of fun e => hn (by omega)
    have a7 : (op == 7) = false := beq_of fun e => hn (by omega)
    have a13 : (op == 13) = false := beq_of fun e => hn (by omega)
    have a14 : (op == 14) = false := beq_of fun e => hn (by omega)
    have a16 : (op == 16) = false := beq_of fun e => hn (by omega)
    have a17 : (op == 17) = false := beq_of fun e => hn (by omega)
    clear hn h h0
    go_enter Tryd.func55, Tryd.ntmps55
    go_wp2
    go_ret
    exact ⟨rfl, rfl⟩

/-- Nothing that wants an empty pile stands where it is not empty. -/
def endOk (s : Cd) (hs : List Int) : Prop := ∀ (a : Nat) (t : Token) (g : Int), s.ins[a]? = some t → hs[a]? = some g → 0 < g → flatB t.1 = false

set_option maxHeartbeats 2000000 in
set_option maxRecDepth 100000 in
theorem endsAtNothing_any (s : Cd) (A1 : Option Addr) (n1 c1 : Nat) (A2 : Option Addr) (n2 c2 : Nat) (A3 : Option Addr) (n3 c3 : Nat) (w : World) (hs : IsCd w w.heap.size s A1 n1 A2 n2 A3 n3) (hi : cdB s = true) (v : Value) (hts0 : List Int) (B : Nat) (hv : Nums w B 3 .i64 v hts0) (hlen : hts0.length = n2) :
    Calls Tryd.prog 66 #[cdV s A1 n1 c1 A2 n2 c2 A3 n3 c3, v] w fun e w' => (∃ q : Bool, e = .returned (.bool q) ∧ (q = true ↔ endOk s hts0)) ∧ Below w.heap.size w w' := by
  have hb := (Below.refl w.heap.size w).alloc (Nat.le_refl _) (Obj.cells #[.int .i64 s.params, .int .i64 s.vars, .slice A1 n1 c1, .slice A2 n2 c2, .slice A3 n3 c3] 67)
  have k2 := Keep.new w #[.int .i64 s.params, .int .i64 s.vars, .slice A1 n1 c1, .slice A2 n2 c2, .slice A3 n3 c3] 67
  have hsz := cdB_iff s |>.1 hi
  rw [hs.sites.1, hs.ins.1, hs.rows.1] at hsz
  have HSZ := put hsz
  have l2 : n2 ≤ 300 := by omega
  have E := put hs.ins.1
  have hins := hs.ins
  clear hsz hi hs
  unfold cdV
  clear HSZ k2
  obtain ⟨Av, cv, rfl, hrv⟩ := hv.reads
  rw [hlen] at hrv ⊢
  clear hv
  go_enter Tryd.func66, Tryd.ntmps66
  go_wp2
  generalize hW : w.alloc (Obj.cells #[.int .i64 s.params, .int .i64 s.vars, .slice A1 n1 c1, .slice A2 n2 c2, .slice A3 n3 c3] 67) = W0 at hb ⊢
  clear hW
  go_loopw [10] (fun i wr => ∃ k : Nat, k ≤ n2 ∧ i = .int .i64 k ∧ Hid (∀ (a : Nat) (t : Token) (g : Int), a < k → s.ins[a]? = some t → hts0[a]? = some g → 0 < g → flatB t.1 = false) ∧ Below w.heap.size w wr) (fun i _ => n2 - (intOf i).toNat)
  case atStart => exact ⟨0, Nat.zero_le _, rfl, put (fun a t g h => by omega), hb⟩
  case round =>
    clear hb
    obtain ⟨k, hk, rfl, hall, hbel⟩ := hrel
    by_cases hlt : k < n2
    · obtain ⟨b, off, op, x, rfl, hb', hc1, hc2, hxt⟩ := (hins.below hbel).at_ hlt
      have hb3 := hbel.alloc hbel.size (.cells #[.int .i64 op, .int .i64 x] 83)
      obtain ⟨bv, ov, g, rfl, hbv, eg, hg⟩ := (hrv.below hb3).at_ hlt
      have HST := put (fun (h0 : 0 < g → flatB op = false) => (show ∀ (a : Nat) (t : Token) (g : Int), a < k + 1 → s.ins[a]? = some t → hts0[a]? = some g → 0 < g → flatB t.1 = false from fun a t g' ha ht hg' hp => by
        by_cases h : a < k
        · exact hall.out a t g' h ht hg' hp
        · obtain rfl : a = k := by omega
          rw [hxt.out] at ht; injection ht with ht; subst ht
          rw [hg.out] at hg'; injection hg' with hg'; subst hg'
          exact h0 hp))
      by_cases hp : 0 < g
      · cases hf : flatB op
        · have HF := put hf
          have H2 := put (HST.out (fun _ => hf))
          clear hf HST
          go_wp2_with fail
          refine (wantsNothing_any op x _).mono ?_
          rintro e w1 ⟨rfl, hb4⟩
          rw [HF.out]
          go_wp2
          go_roundw
          case rel => exact ⟨k + 1, by omega, by go_num, H2, hb3.trans (hb4.mono hb3.size)⟩
          case measure => simp [intOf]; omega
        · have HF := put hf
          have HNO := put (show ¬ endOk s hts0 from fun h => by have := h k _ g hxt.out hg.out hp; rw [hf] at this; cases this)
          clear hf HST
          go_wp2_with fail
          refine (wantsNothing_any op x _).mono ?_
          rintro e w1 ⟨rfl, hb4⟩
          rw [HF.out]
          go_wp2
          go_ret
          exact ⟨⟨false, rfl, by simp [HNO.out]⟩, hb3.trans (hb4.mono hb3.size)⟩
      · have hp' : g ≤ 0 := by omega
        have H2 := put (HST.out (fun h => absurd h hp))
        clear hp HST
        go_wp2
        go_roundw
        case rel => exact ⟨k + 1, by omega, by go_num, H2, hb3⟩
        case measure => simp [intOf]; omega
    · have HYES := put (show endOk s hts0 from fun a t g ht hg hp => hall.out a t g (by have := (List.getElem?_eq_some_iff.1 ht).1; have := E.out; omega) ht hg hp)
      go_wp2
      go_ret
      exact ⟨⟨true, rfl, by simp [HYES.out]⟩, hbel⟩

end Go.Proofs.YtcpjddkhclaafaaDoor

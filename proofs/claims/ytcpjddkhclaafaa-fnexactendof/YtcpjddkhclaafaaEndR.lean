/-
  EndOf of both sides at every machine; the laws' marks on an outcome of one's own.
-/
import Derived.Test.YtcpjddkhclaafaaEndI
import Derived.Test.YtcpjddkhclaafaaEndZ
import Derived.Test.YtcpjddkhclaafaaMcInk
namespace Go.Proofs.Ytcpjddkhclaafaa
open Go.RowKit Go.Deep Exs

theorem inkMc_le (s : Mc) : inkMc s ≤ 8 * manyMc s := by
  have := inkFrs_le s.frames
  simp only [inkMc, manyMc]
  omega
/-- What EndOf answers. -/
def endR (s : Mc) : Oc × Bool := if within s.code 0 4 then (endOc s, true) else (⟨0, 0, 0, []⟩, false)
theorem endR_length {s : Mc} {m : Nat} (h : s.trace.length ≤ m) : (endR s).1.trace.length ≤ m := by
  unfold endR
  split
  · exact h
  · exact Nat.zero_le _

theorem specEndOf_any (s : Mc) (A1 : Option Addr) (n1 c1 : Nat) (A2 : Option Addr) (n2 c2 : Nat) (A3 : Option Addr) (n3 c3 : Nat) (w : World) (hr : IsMc w w.heap.size s A1 n1 A2 n2 A3 n3) (hn : n2 ≤ 1048576) (hA : A2 = none → c2 = 0) :
    Calls Try.prog 6 #[.agg #[.slice A1 n1 c1, .slice A2 n2 c2, .int .i64 s.used, .int .i64 s.code, .int .i64 s.value, .int .i64 s.made, .slice A3 n3 c3]] w fun e w' => ∃ v, e = .returned (.tuple #[.agg #[.int .i64 (endR s).1.code, .int .i64 (endR s).1.value, v, .int .i64 (endR s).1.used], .bool (endR s).2]) ∧ Nums w' w.heap.size 3 .i64 v (endR s).1.trace ∧ Below w.heap.size w w' := by
  by_cases hc : within s.code 0 4 = true
  · have e : endR s = (endOc s, true) := by simp [endR, hc]
    rw [e]
    exact specEndOf_good s A1 n1 c1 A2 n2 c2 A3 n3 c3 w hr hn hA hc
  · have hc' : within s.code 0 4 = false := by simpa using hc
    have e : endR s = (⟨0, 0, 0, []⟩, false) := by simp [endR, hc]
    rw [e]
    refine (specEndOf_bad s A1 n1 c1 A2 n2 c2 A3 n3 c3 w hc').mono ?_
    rintro e w' ⟨rfl, hb⟩
    exact ⟨.slice none 0 0, rfl, Nums.nil _ _ _ _, hb⟩

theorem implEndOf_any (s : Mc) (A1 : Option Addr) (n1 c1 : Nat) (A2 : Option Addr) (n2 c2 : Nat) (A3 : Option Addr) (n3 c3 : Nat) (w : World) (hr : IsMc w w.heap.size s A1 n1 A2 n2 A3 n3) (hn : n2 ≤ 1048576) (hA : ∃ g, A2 = some g) :
    Calls Try.prog 8 #[.agg #[.slice A1 n1 c1, .slice A2 n2 c2, .int .i64 s.used, .int .i64 s.code, .int .i64 s.value, .int .i64 s.made, .slice A3 n3 c3]] w fun e w' => ∃ v, e = .returned (.tuple #[.agg #[.int .i64 (endR s).1.code, .int .i64 (endR s).1.value, v, .int .i64 (endR s).1.used], .bool (endR s).2]) ∧ Nums w' w.heap.size 3 .i64 v (endR s).1.trace ∧ Below w.heap.size w w' := by
  by_cases hc : within s.code 0 4 = true
  · have e : endR s = (endOc s, true) := by simp [endR, hc]
    rw [e]
    obtain ⟨g2, rfl⟩ := hA
    have hw := (within_iff s.code 0 4).1 hc
    exact implEndOf_good s A1 n1 c1 g2 n2 c2 A3 n3 c3 w hr hn hw.1 hw.2
  · have hc' : within s.code 0 4 = false := by simpa using hc
    have e : endR s = (⟨0, 0, 0, []⟩, false) := by simp [endR, hc]
    rw [e]
    refine (implEndOf_bad s A1 n1 c1 A2 n2 c2 A3 n3 c3 w (by have : ¬ (0 ≤ s.code ∧ s.code ≤ 4) := fun h => hc ((within_iff s.code 0 4).2 h); omega)).mono ?_
    rintro e w' ⟨rfl, hb⟩
    exact ⟨.slice none 0 0, rfl, Nums.nil _ _ _ _, hb⟩

set_option maxHeartbeats 400000 in
set_option maxRecDepth 100000 in
/-- Marks on a row of the call's own: no other block is written. -/
theorem markNums_o (v : Value) (xs : List Int) (B : Nat) (w : World) (h : Nums w B 3 .i64 v xs) (hn : xs.length ≤ 1048576) :
    Calls Try.prog 29 #[v, .int .i64 1] w fun e w' => e = .returned (.int .i64 ((xs.length : Int) + 1)) ∧ Nums w' B 3 .i64 v (ups xs.length) ∧ Below B w w' ∧ ∀ gb, (∀ g n c, v = .slice (some ⟨g, 0, none⟩) n c → gb ≠ g) → w'.heap[gb]? = w.heap[gb]? := by
  rcases h.to_room with ⟨rfl, rfl⟩ | ⟨g, c, rfl, hB, hroom, hl, hc⟩
  · go_enter Try.func29, Try.ntmps29
    go_wp2
    refine wp_loop_rounds 1 ?_
    rw [rounds_succ]
    go_wp2
    go_ret
    exact ⟨rfl, h, Below.refl _ _, fun _ _ => rfl⟩
  · clear h
    have HC := put hc
    obtain ⟨n, hxn⟩ : ∃ n, xs.length = n := ⟨_, rfl⟩
    rw [hxn] at hl hn ⊢
    have hr0 := hroom.none_
    clear hroom hc hxn
    go_enter Try.func29, Try.ntmps29
    go_wp2
    go_loopw [1, 5] (fun u i wr => ∃ k : Nat, k ≤ n ∧ i = .int .i64 k ∧ u = .int .i64 ((k : Int) + 1) ∧ Room wr g 3 c .i64 (ups k) ∧ Below B w wr ∧ Hid (∀ gb, gb ≠ g → wr.heap[gb]? = w.heap[gb]?)) (fun _ i _ => n - (intOf i).toNat)
    case atStart => exact ⟨0, Nat.zero_le _, rfl, rfl, hr0, Below.refl _ _, fun _ _ => rfl⟩
    case round =>
      obtain ⟨k, hk, rfl, rfl, hroom, hb, ho⟩ := hrel
      clear hr0
      by_cases hlt : k < n
      · obtain ⟨c0, hc0⟩ := hroom.at_ k (by omega)
        have hfr := hroom.frozen k
        have hpush := hroom.push (by rw [ups_length]; omega) ((k : Int) + 1)
        rw [ups_length, ← ups_more] at hpush
        have HP := put hpush
        have HB := put (hb.setCell (p := ⟨g, k, none⟩) hB (.int .i64 ((k : Int) + 1)))
        have HO := put (fun gb (hne : gb ≠ g) => (Below.heap_setCell wr ⟨g, k, none⟩ (.int .i64 ((k : Int) + 1)) gb hne).trans (ho.out gb hne))
        clear hpush
        go_wp2
        go_roundw
        case rel => exact ⟨k + 1, by omega, by go_num, by go_num, HP.out, HB.out, HO⟩
        case measure => simp [intOf]; omega
      · obtain rfl : k = n := by omega
        go_wp2
        go_ret
        exact ⟨rfl, by have := Nums.of_room hroom hB (by rw [ups_length]; exact hl) HC.out; rwa [ups_length] at this, hb, fun gb hgb => ho.out gb (hgb g _ _ rfl)⟩

set_option maxHeartbeats 400000 in
theorem markOc_n (a b u : Int) (A : Option Addr) (n c : Nat) (xs : List Int) (hx : xs.length = n) (B : Nat) (w : World) (h : Nums w B 3 .i64 (.slice A n c) xs) (hB : B ≤ w.heap.size) (hn : n ≤ 1048576) :
    Calls Try.prog 12 #[.agg #[.int .i64 a, .int .i64 b, .slice A n c, .int .i64 u], .int .i64 1] w fun e w' => e = .returned (.int .i64 ((n : Int) + 1)) ∧ Nums w' B 3 .i64 (.slice A n c) (ups n) ∧ Below B w w' ∧ ∀ gb, gb < w.heap.size → (∀ g n' c', (.slice A n c : Value) = .slice (some ⟨g, 0, none⟩) n' c' → gb ≠ g) → w'.heap[gb]? = w.heap[gb]? := by
  have hb0 : Below B w (w.alloc (.cells #[.int .i64 a, .int .i64 b, .slice A n c, .int .i64 u] 29)) := (Below.refl _ _).alloc hB _
  have hs := put (h.alloc (.cells #[.int .i64 a, .int .i64 b, .slice A n c, .int .i64 u] 29))
  have HX := put hx
  clear h hx
  go_enter Try.func12, Try.ntmps12
  go_wp2_with fail
  have hm := markNums_o (.slice A n c) xs B _ hs.out (by rw [HX.out]; exact hn)
  rw [HX.out] at hm
  refine hm.mono ?_
  rintro e w1 ⟨rfl, h1, h2, h3⟩
  have H3 := put h3
  have H1 := put h1
  have H2 := put (hb0.trans h2)
  clear h3 h1 h2 hm hb0 hs
  go_wp2
  go_ret
  exact ⟨rfl, H1.out, H2.out, fun gb hlt hne => (H3.out gb hne).trans (Below.heap_alloc _ _ _ hlt)⟩

set_option maxHeartbeats 400000 in
theorem heldOc_o (a b u : Int) (v : Value) (n : Nat) (B : Nat) (w : World) (h : Nums w B 3 .i64 v (ups n)) (hn : n ≤ 1048576) :
    Calls Try.prog 13 #[.agg #[.int .i64 a, .int .i64 b, v, .int .i64 u], .int .i64 1] w fun e w' => e = .returned (.int .i64 ((n : Int) + 1)) ∧ Below w.heap.size w w' := by
  obtain ⟨A, c, hv, _⟩ := h.reads
  rw [ups_length] at hv
  subst hv
  have hb0 : Below w.heap.size w (w.alloc (.cells #[.int .i64 a, .int .i64 b, .slice A n c, .int .i64 u] 29)) := (Below.refl _ _).alloc (Nat.le_refl _) _
  have hs := h.alloc (.cells #[.int .i64 a, .int .i64 b, .slice A n c, .int .i64 u] 29)
  have hp : ¬ ((n : Int) + 1) < 0 := by omega
  go_enter Try.func13, Try.ntmps13
  go_wp2_with fail
  refine (heldNums_any _ n B _ hs hn).mono ?_
  rintro e w1 ⟨rfl, rfl⟩
  go_wp2
  go_ret
  exact ⟨rfl, hb0⟩

set_option maxHeartbeats 400000 in
theorem eqOc_o (o : Oc) (A : Option Addr) (n c : Nat) (B : Option Addr) (m d : Nat) (w : World) (L L' : Nat) (h : Nums w L 3 .i64 (.slice A n c) o.trace) (h' : Nums w L' 3 .i64 (.slice B m d) o.trace) (hn : o.trace.length ≤ 1048576) :
    Calls Try.prog 9 #[.agg #[.int .i64 o.code, .int .i64 o.value, .slice A n c, .int .i64 o.used], .agg #[.int .i64 o.code, .int .i64 o.value, .slice B m d, .int .i64 o.used]] w fun e w' => e = .returned (.bool true) ∧ Below w.heap.size w w' := by
  obtain ⟨A1, c1, e1, r1⟩ := h.reads
  obtain ⟨A2, c2, e2, r2⟩ := h'.reads
  injection e1 with e11 e12 e13
  injection e2 with e21 e22 e23
  subst e11 e12 e13 e21 e22 e23
  exact eqOutcome_same o _ _ _ _ _ w r1 r2 hn

end Go.Proofs.Ytcpjddkhclaafaa

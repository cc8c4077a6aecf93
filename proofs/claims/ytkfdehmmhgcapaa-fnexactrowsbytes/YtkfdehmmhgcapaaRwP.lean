/-
  The row of a place as the program finds it; PadFor and CoverOf of both sides.
-/
import Derived.Test.YtkfdehmmhgcapaaRwG
namespace Go.Proofs.Ytkfdehmmhgcapaa
open Go.RowKit Exs

set_option maxHeartbeats 400000 in
theorem holds_any (x y z a : Int) (w : World) : Calls Try.prog 133 #[.agg #[.int .i64 x, .int .i64 y, .int .i64 z], .int .i64 a] w fun e w' => e = .returned (.bool (decide (x ≤ a ∧ a < y))) ∧ Below w.heap.size w w' := by
  have hb := (Below.refl w.heap.size w).alloc (Nat.le_refl _) (Obj.cells #[.int .i64 x, .int .i64 y, .int .i64 z] 50)
  by_cases h1 : x ≤ a
  · have H := put (show decide (x ≤ a ∧ a < y) = decide (a < y) by simp [h1])
    go_enter Try.func133, Try.ntmps133
    go_wp2
    go_ret
    exact ⟨ret_bool (by rw [H.out]), hb⟩
  · have h2 := put (Int.not_le.1 h1)
    go_enter Try.func133, Try.ntmps133
    go_wp2
    go_ret
    exact ⟨ret_bool (by have := h2.out; simp; omega), hb⟩

theorem method_row (v : Value) (w : World) : (method 168 50 v "loop.example/g00745/impl.holds").run Try.prog w = .ok (133, v) w := by kernel_rfl

set_option maxHeartbeats 400000 in
set_option maxRecDepth 100000 in
theorem findIs_any (x y z a : Int) (g : Nat) (w : World) (hg : g < w.heap.size) (hc : w.cell? ⟨g, 0, none⟩ = some (.int .i64 a)) :
    Calls Try.prog 66 #[.agg #[.int .i64 x, .int .i64 y, .int .i64 z], .pointer (some ⟨g, 0, none⟩)] w fun e w' => e = .returned (.bool (decide (x ≤ a ∧ a < y))) ∧ Below w.heap.size w w' := by
  have hm := method_row
  have hb := (Below.refl w.heap.size w).alloc (Nat.le_refl _) (Obj.cells #[.int .i64 x, .int .i64 y, .int .i64 z] 50)
  have hc1 : (w.alloc (Obj.cells #[.int .i64 x, .int .i64 y, .int .i64 z] 50)).cell? ⟨g, 0, none⟩ = some (.int .i64 a) := (hb.cell (p := ⟨g, 0, none⟩) hg).trans hc
  go_enter Try.func66, Try.ntmps66
  go_wp2_with fail
  refine (holds_any x y z a _).mono ?_
  rintro e w1 ⟨rfl, hb1⟩
  go_wp2
  go_ret
  exact ⟨ret_bool (by simp), hb.trans (hb1.mono hb.size)⟩

set_option maxHeartbeats 1000000 in
set_option maxRecDepth 100000 in
theorem indexFunc_any (A : Option Addr) (n c : Nat) (rs : List Row3) (a : Int) (g : Nat) (w : World) (hr : ReadsR w w.heap.size A n rs) (hn : n ≤ 1048576) (hg : g < w.heap.size) (hcg : w.cell? ⟨g, 0, none⟩ = some (.int .i64 a)) :
    Calls Try.prog 65 #[.slice A n c, .func (.func 66) #[] #[.pointer (some ⟨g, 0, none⟩)]] w fun e w' => e = .returned (.int .i64 (ixOf a rs 0)) ∧ Below w.heap.size w w' := by
  have HLN := put hr.1
  go_enter Try.func65, Try.ntmps65
  go_wp2
  go_loopw [8] (fun i wr => ∃ k : Nat, k ≤ n ∧ i = .int .i64 k ∧ Hid (∀ r ∈ rs.take k, ¬ InR r a) ∧ Below w.heap.size w wr) (fun i _ => n - (intOf i).toNat)
  case atStart => exact ⟨0, Nat.zero_le _, rfl, put (fun t h => by simp at h), Below.refl _ _⟩
  case round =>
    obtain ⟨k, hk, rfl, hall, hbel⟩ := hrel
    by_cases hlt : k < n
    · obtain ⟨b, off, x, y, z, rfl, hb', hc1, hc2, hc3, hxt⟩ := (hr.below hbel).at_ hlt
      have hcg' := (hbel.cell (p := ⟨g, 0, none⟩) hg).trans hcg
      have hg' : g < wr.heap.size := Nat.lt_of_lt_of_le hg hbel.size
      by_cases h : x ≤ a ∧ a < y
      · have HR := put (show ixOf a rs 0 = (k : Int) from by have := ixOf_hit (j := 0) hxt.out (show InR (x, y, z) a from h) hall.out; rwa [Nat.zero_add] at this)
        have q := put (decide_eq_true h)
        clear h hcg
        go_wp2_with fail
        refine (findIs_any x y z a g _ hg' hcg').mono ?_
        rintro e w1 ⟨rfl, hb1⟩
        rw [q.out]
        go_wp2
        go_ret
        exact ⟨ret_int HR.out.symm, hbel.trans (hb1.mono hbel.size)⟩
      · have hall2 := put (none_more hxt.out (show ¬ InR (x, y, z) a from h) hall.out)
        have q := put (decide_eq_false h)
        clear h hcg
        go_wp2_with fail
        refine (findIs_any x y z a g _ hg' hcg').mono ?_
        rintro e w1 ⟨rfl, hb1⟩
        rw [q.out]
        go_wp2
        go_roundw
        case rel => exact ⟨k + 1, by omega, by go_num, hall2, hbel.trans (hb1.mono hbel.size)⟩
        case measure => simp [intOf]; omega
    · have hfin : rs.take k = rs := List.take_of_length_le (by have := HLN.out; omega)
      have HR := put (show ixOf a rs 0 = -1 from ixOf_none (by have := hall.out; rwa [hfin] at this))
      clear hfin
      go_wp2
      go_ret
      exact ⟨ret_int HR.out.symm, hbel⟩

set_option maxHeartbeats 400000 in
set_option maxRecDepth 100000 in
theorem find_any (A : Option Addr) (n c : Nat) (rs : List Row3) (a : Int) (w : World) (hr : ReadsR w w.heap.size A n rs) (hn : n ≤ 1048576) :
    Calls Try.prog 44 #[.slice A n c, .int .i64 a] w fun e w' => e = .returned (.int .i64 (ixOf a rs 0)) ∧ Below w.heap.size w w' := by
  have hb0 := (Below.refl w.heap.size w).alloc (Nat.le_refl _) (Obj.cells #[.int .i64 a] 3)
  have hmf : ∀ (fn : Fn) (first cap : Array Value) (w : World), (Instr.makeFunc fn first cap).run Try.prog w = .ok (.func fn first cap) w := fun _ _ _ _ => rfl
  go_enter Try.func44, Try.ntmps44
  go_wp2_with fail
  refine (indexFunc_any A n c rs a w.heap.size _ (hr.now hb0) hn (by simp) (by simp)).mono ?_
  rintro e w1 ⟨rfl, hb1⟩
  go_wp2
  go_ret
  exact ⟨rfl, hb0.trans (hb1.mono hb0.size)⟩

set_option maxHeartbeats 1000000 in
set_option maxRecDepth 100000 in
theorem implPadFor_any (A : Option Addr) (n c : Nat) (rs : List Row3) (many a : Int) (w : World) (hr : ReadsR w w.heap.size A n rs) (hn : n ≤ 1048576) :
    Calls Try.prog 17 #[.slice A n c, .int .i64 many, .int .i64 a] w fun e w' => e = .returned (.tuple #[.int .i64 (padAns many rs a).1, .bool (padAns many rs a).2]) ∧ Below w.heap.size w w' := by
  cases hg : goodB many rs with
  | false =>
    have HG := put hg
    have HA := put (padAns_bad (a := a) hg)
    clear hg
    go_enter Try.func17, Try.ntmps17
    go_wp2_with fail
    refine (implGoodRows_any A n c rs many _ hr hn).mono ?_
    rintro e w1 ⟨rfl, hb1⟩
    rw [HG.out]
    go_wp2
    go_ret2
    exact ⟨by rw [HA.out]; rfl, hb1⟩
  | true =>
    have HG := put hg
    rcases ixOf_cases a rs with ⟨k, r, h1, h2, h3⟩ | ⟨h1, _⟩
    · have HA := put (padAns_hit hg h1 h2)
      have hkn : k < n := by have := (List.getElem?_eq_some_iff.1 h2).1; rw [hr.1] at this; exact this
      have HI := put h1
      have H2 := put h2
      clear hg h1 h2 h3
      have q : ((k : Int) == -1) = false := by rw [beq_eq_false_iff_ne]; omega
      go_enter Try.func17, Try.ntmps17
      go_wp2_with fail
      refine (implGoodRows_any A n c rs many _ hr hn).mono ?_
      rintro e w1 ⟨rfl, hb1⟩
      rw [HG.out]
      go_wp2_with fail
      refine (find_any A n c rs a _ (hr.now hb1) hn).mono ?_
      rintro e w2 ⟨rfl, hb2⟩
      rw [HI.out]
      have b2 := hb1.trans (hb2.mono hb1.size)
      obtain ⟨b, off, x, y, z, rfl, hb', hc1, hc2, hc3, hxt⟩ := (hr.below b2).at_ hkn
      have HZ := put (show r.2.2 = z by have := hxt.out; rw [H2.out] at this; injection this with this; rw [this])
      clear hb1 hb2
      go_wp2
      go_ret2
      exact ⟨by rw [HA.out, HZ.out]; rfl, b2⟩
    · have HA := put (padAns_none (many := many) (show ixOf a rs 0 < 0 by omega))
      have HI := put h1
      clear hg h1
      go_enter Try.func17, Try.ntmps17
      go_wp2_with fail
      refine (implGoodRows_any A n c rs many _ hr hn).mono ?_
      rintro e w1 ⟨rfl, hb1⟩
      rw [HG.out]
      go_wp2_with fail
      refine (find_any A n c rs a _ (hr.now hb1) hn).mono ?_
      rintro e w2 ⟨rfl, hb2⟩
      rw [HI.out]
      have b2 := hb1.trans (hb2.mono hb1.size)
      go_wp2
      go_ret2
      exact ⟨by rw [HA.out]; rfl, b2⟩

set_option maxHeartbeats 1000000 in
set_option maxRecDepth 100000 in
theorem specPadFor_any (A : Option Addr) (n c : Nat) (rs : List Row3) (many a : Int) (w : World) (hr : ReadsR w w.heap.size A n rs) (hn : n ≤ 1048576) :
    Calls Try.prog 16 #[.slice A n c, .int .i64 many, .int .i64 a] w fun e w' => e = .returned (.tuple #[.int .i64 (padAns many rs a).1, .bool (padAns many rs a).2]) ∧ Below w.heap.size w w' := by
  cases hg : goodB many rs with
  | false =>
    have HG := put hg
    have HA := put (padAns_bad (a := a) hg)
    clear hg
    go_enter Try.func16, Try.ntmps16
    go_wp2_with fail
    refine (l7Good_any A n c rs many _ hr hn).mono ?_
    rintro e w1 ⟨rfl, hb1⟩
    rw [HG.out]
    go_wp2
    go_ret2
    exact ⟨by rw [HA.out]; rfl, hb1⟩
  | true =>
    have HG := put hg
    have hm := (goodB_iff.1 hg).1
    have HRO := put (goodB_iff.1 hg).2
    have hn3 : n ≤ 300 := by rw [← hr.1]; exact goodB_length hg
    have hm1 : IntKind.i64.wrap (many - 1) = many - 1 := IntWalk.i64_in _ ⟨by omega, by omega⟩
    have hm3 : many.toNat ≤ 300 := by omega
    by_cases hw : 0 ≤ a ∧ a ≤ many - 1
    · have qw := within_yes7 hw
      rcases ixOf_cases a rs with ⟨k, r, h1, h2, h3⟩ | ⟨h1, _⟩
      · have HA := put (padAns_hit hg h1 h2)
        have hkn : k < n := by have := (List.getElem?_eq_some_iff.1 h2).1; rw [hr.1] at this; exact this
        have HI := put h1
        have H2 := put h2
        clear hg h1 h2 h3 hm hw
        have q : ¬ ((k : Int) < 0) := by omega
        go_enter Try.func16, Try.ntmps16
        go_wp2_with fail
        refine (l7Good_any A n c rs many _ hr hn).mono ?_
        rintro e w1 ⟨rfl, hb1⟩
        rw [HG.out]
        go_wp2_with fail
        refine (l1In_any a 0 (many - 1) _).mono ?_
        rintro e w1' ⟨rfl, rfl⟩
        rw [qw]
        go_wp2_with fail
        refine (l5RowAt_any A n c rs a many.toNat _ (hr.now hb1) hn3 hm3 HRO.out).mono ?_
        rintro e w2 ⟨rfl, hb2⟩
        rw [HI.out]
        have b2 := hb1.trans (hb2.mono hb1.size)
        go_wp2_with fail
        refine (l5RowAt_any A n c rs a many.toNat _ (hr.now b2) hn3 hm3 HRO.out).mono ?_
        rintro e w3 ⟨rfl, hb3⟩
        rw [HI.out]
        have b3 := b2.trans (hb3.mono b2.size)
        obtain ⟨b, off, x, y, z, rfl, hb', hc1, hc2, hc3, hxt⟩ := (hr.below b3).at_ hkn
        have HZ := put (show r.2.2 = z by have := hxt.out; rw [H2.out] at this; injection this with this; rw [this])
        clear hb1 hb2 hb3 b2
        go_wp2
        go_ret2
        exact ⟨by rw [HA.out, HZ.out]; rfl, b3⟩
      · have HA := put (padAns_none (many := many) (show ixOf a rs 0 < 0 by omega))
        have HI := put h1
        clear hg h1 hm hw
        go_enter Try.func16, Try.ntmps16
        go_wp2_with fail
        refine (l7Good_any A n c rs many _ hr hn).mono ?_
        rintro e w1 ⟨rfl, hb1⟩
        rw [HG.out]
        go_wp2_with fail
        refine (l1In_any a 0 (many - 1) _).mono ?_
        rintro e w1' ⟨rfl, rfl⟩
        rw [qw]
        go_wp2_with fail
        refine (l5RowAt_any A n c rs a many.toNat _ (hr.now hb1) hn3 hm3 HRO.out).mono ?_
        rintro e w2 ⟨rfl, hb2⟩
        rw [HI.out]
        have b2 := hb1.trans (hb2.mono hb1.size)
        go_wp2
        go_ret2
        exact ⟨by rw [HA.out]; rfl, b2⟩
    · have qw := within_no7 hw
      have HA := put (padAns_none (many := many) (show ixOf a rs 0 < 0 from Int.not_le.1 fun h => hw (ixOf_within hg h)))
      clear hg hm hw
      go_enter Try.func16, Try.ntmps16
      go_wp2_with fail
      refine (l7Good_any A n c rs many _ hr hn).mono ?_
      rintro e w1 ⟨rfl, hb1⟩
      rw [HG.out]
      go_wp2_with fail
      refine (l1In_any a 0 (many - 1) _).mono ?_
      rintro e w1' ⟨rfl, rfl⟩
      rw [qw]
      go_wp2
      go_ret2
      exact ⟨by rw [HA.out]; rfl, hb1⟩

end Go.Proofs.Ytkfdehmmhgcapaa

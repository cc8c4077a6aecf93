/-
  Sized images: the program's side.
-/
import Derived.Test.YtpbkkjiikhjanaaGreatDoorJIns2
namespace Go.Proofs.YtpbkkjiikhjanaaGreatDoor
open Go.RowKit Exs

/-- Whether a code is sized; whether an image is. -/
def cdB (c : Cd) : Bool := within c.params 0 2 && within c.vars c.params 6 && decide (c.sites.length ≤ 4) && within c.ins.length 1 300 && decide (c.rows.length ≤ 300) && c.ins.all fun t => insB t.1 t.2
def imB (cs : List Cd) : Bool := within cs.length 1 5 && cs.all cdB

theorem cdB_iff (c : Cd) : cdB c = true ↔ ((((((0 ≤ c.params ∧ c.params ≤ 2) ∧ (c.params ≤ c.vars ∧ c.vars ≤ 6)) ∧ c.sites.length ≤ 4) ∧ ((1 : Int) ≤ c.ins.length ∧ (c.ins.length : Int) ≤ 300)) ∧ c.rows.length ≤ 300) ∧ ∀ t ∈ c.ins, insB t.1 t.2 = true) := by
  unfold cdB
  rw [Bool.and_eq_true, Bool.and_eq_true, Bool.and_eq_true, Bool.and_eq_true, Bool.and_eq_true, within_iff, within_iff, within_iff, decide_eq_true_iff, decide_eq_true_iff, List.all_eq_true]
theorem imB_iff (cs : List Cd) : imB cs = true ↔ ((1 : Int) ≤ cs.length ∧ (cs.length : Int) ≤ 5) ∧ ∀ c ∈ cs, cdB c = true := by
  unfold imB
  rw [Bool.and_eq_true, within_iff, List.all_eq_true]
theorem no_of {b : Bool} (h : ¬ b = true) : b = false := by simpa using h
theorem all_more {α : Type} {p : α → Bool} {l : List α} {k : Nat} {t : α} (h : ∀ x ∈ l.take k, p x = true) (ht : l[k]? = some t) (hp : p t = true) : ∀ x ∈ l.take (k + 1), p x = true := fun x hx => by
  rw [takeA_more ht] at hx
  rcases List.mem_append.1 hx with hx | hx
  · exact h x hx
  · simp at hx; subst hx; exact hp

set_option maxHeartbeats 1000000 in
set_option maxRecDepth 100000 in
theorem sizedCode_any (s : Cd) (A1 : Option Addr) (n1 c1 : Nat) (A2 : Option Addr) (n2 c2 : Nat) (A3 : Option Addr) (n3 c3 : Nat) (w : World) (hr : IsCd w w.heap.size s A1 n1 A2 n2 A3 n3) (hk : Kinds w) (hpos : 0 < w.heap.size) :
    Calls Tryz.prog 113 #[cdV s A1 n1 c1 A2 n2 c2 A3 n3 c3] w fun e w' => e = .returned (.bool (cdB s)) ∧ Below w.heap.size w w' := by
  have e1 := hr.sites.1
  have e2 := hr.ins.1
  have e3 := hr.rows.1
  have hB := cdB_iff s
  rw [e1, e2, e3] at hB
  have hb := (Below.refl w.heap.size w).alloc (Nat.le_refl _) (Obj.cells #[.int .i64 s.params, .int .i64 s.vars, .slice A1 n1 c1, .slice A2 n2 c2, .slice A3 n3 c3] 82)
  have hins := hr.ins
  have HK := put hk
  have HB := put hB
  clear e1 e2 e3 hr hk hB
  unfold cdV
  by_cases p0 : s.params < 0
  · rw [no_of (b := cdB s) (fun h => by have := HB.out.1 h; omega)]
    clear HB HK hins
    go_enter Tryz.func113, Tryz.ntmps113
    go_wp2
    go_ret
    exact ⟨rfl, hb⟩
  replace p0 : 0 ≤ s.params := by omega
  by_cases p1 : 2 < s.params
  · rw [no_of (b := cdB s) (fun h => by have := HB.out.1 h; omega)]
    clear HB HK hins
    go_enter Tryz.func113, Tryz.ntmps113
    go_wp2
    go_ret
    exact ⟨rfl, hb⟩
  replace p1 : s.params ≤ 2 := by omega
  by_cases p2 : s.vars < s.params
  · rw [no_of (b := cdB s) (fun h => by have := HB.out.1 h; omega)]
    clear HB HK hins
    go_enter Tryz.func113, Tryz.ntmps113
    go_wp2
    go_ret
    exact ⟨rfl, hb⟩
  replace p2 : s.params ≤ s.vars := by omega
  by_cases p3 : 6 < s.vars
  · rw [no_of (b := cdB s) (fun h => by have := HB.out.1 h; omega)]
    clear HB HK hins
    go_enter Tryz.func113, Tryz.ntmps113
    go_wp2
    go_ret
    exact ⟨rfl, hb⟩
  replace p3 : s.vars ≤ 6 := by omega
  by_cases p4 : 4 < n1
  · rw [no_of (b := cdB s) (fun h => by have := HB.out.1 h; omega)]
    clear HB HK hins
    go_enter Tryz.func113, Tryz.ntmps113
    go_wp2
    go_ret
    exact ⟨rfl, hb⟩
  replace p4 : n1 ≤ 4 := by omega
  by_cases p5 : n2 < 1
  · rw [no_of (b := cdB s) (fun h => by have := HB.out.1 h; omega)]
    clear HB HK hins
    go_enter Tryz.func113, Tryz.ntmps113
    go_wp2
    go_ret
    exact ⟨rfl, hb⟩
  replace p5 : 1 ≤ n2 := by omega
  by_cases p6 : 300 < n2
  · rw [no_of (b := cdB s) (fun h => by have := HB.out.1 h; omega)]
    clear HB HK hins
    go_enter Tryz.func113, Tryz.ntmps113
    go_wp2
    go_ret
    exact ⟨rfl, hb⟩
  replace p6 : n2 ≤ 300 := by omega
  by_cases p7 : 300 < n3
  · rw [no_of (b := cdB s) (fun h => by have := HB.out.1 h; omega)]
    clear HB HK hins
    go_enter Tryz.func113, Tryz.ntmps113
    go_wp2
    go_ret
    exact ⟨rfl, hb⟩
  replace p7 : n3 ≤ 300 := by omega
  have HALL := put (show cdB s = true ↔ ∀ t ∈ s.ins, insB t.1 t.2 = true from ⟨fun h => (HB.out.1 h).2, fun h => HB.out.2 ⟨by omega, h⟩⟩)
  clear HB
  go_enter Tryz.func113, Tryz.ntmps113
  go_wp2
  go_loopw [50] (fun i wr => ∃ k : Nat, k ≤ n2 ∧ i = .int .i64 k ∧ Hid (∀ t ∈ s.ins.take k, insB t.1 t.2 = true) ∧ Below w.heap.size w wr) (fun i _ => n2 - (intOf i).toNat)
  case atStart => exact ⟨0, Nat.zero_le _, rfl, put (fun t h => by simp at h), hb⟩
  case round =>
    obtain ⟨k, hk, rfl, hall, hbel⟩ := hrel
    clear hb p0 p1 p2 p3 p4
    by_cases hlt : k < n2
    · obtain ⟨b, off, op, x, rfl, hb', hc1, hc2, hx⟩ := (hins.below hbel).at_ hlt
      have hb1 := hbel.alloc hbel.size (.cells #[.int .i64 op, .int .i64 x] 129)
      cases hi : insB op x
      · have HI := put hi
        clear hi
        have HNO := put (no_of (b := cdB s) (fun h => by have h1 := HALL.out.1 h _ (mem_of_at hx.out); rw [show insB op x = false from HI.out] at h1; cases h1))
        go_wp2_with fail
        refine (goodIns_any op x _ (HK.out.below hb1 hpos) (by simp)).mono ?_
        rintro e w1 ⟨rfl, hb2⟩
        rw [HI.out]
        go_wp2
        go_ret
        exact ⟨ret_bool HNO.out.symm, hb1.trans (hb2.mono hb1.size)⟩
      · have HI := put hi
        clear hi
        have hall2 := put (all_more (p := fun t => insB t.1 t.2) hall.out hx.out HI.out)
        go_wp2_with fail
        refine (goodIns_any op x _ (HK.out.below hb1 hpos) (by simp)).mono ?_
        rintro e w1 ⟨rfl, hb2⟩
        rw [HI.out]
        go_wp2
        go_roundw
        case rel => exact ⟨k + 1, by omega, by go_num, hall2, hb1.trans (hb2.mono hb1.size)⟩
        case measure => simp [intOf]; omega
    · have hfin := put (show s.ins.take k = s.ins from List.take_of_length_le (by rw [hins.1]; omega))
      have HYES := put (HALL.out.2 (by have := hall.out; rwa [hfin.out] at this))
      go_wp2
      go_ret
      exact ⟨ret_bool HYES.out.symm, hbel⟩

set_option maxHeartbeats 1000000 in
set_option maxRecDepth 100000 in
theorem sizedImage_any (A : Option Addr) (n c : Nat) (cs : List Cd) (w : World) (hr : ReadsC w w.heap.size A n cs) (hk : Kinds w) (hpos : 0 < w.heap.size) :
    Calls Tryz.prog 85 #[.agg #[.slice A n c]] w fun e w' => e = .returned (.bool (imB cs)) ∧ Below w.heap.size w w' := by
  have hB := imB_iff cs
  rw [hr.1] at hB
  have hb := (Below.refl w.heap.size w).alloc (Nat.le_refl _) (Obj.cells #[.slice A n c] 36)
  have HK := put hk
  have HB := put hB
  clear hk hB
  by_cases p0 : n < 1
  · rw [no_of (b := imB cs) (fun h => by have := HB.out.1 h; omega)]
    clear HB HK hr
    go_enter Tryz.func85, Tryz.ntmps85
    go_wp2
    go_ret
    exact ⟨rfl, hb⟩
  by_cases p1 : 5 < n
  · replace p0 : 1 ≤ n := by omega
    rw [no_of (b := imB cs) (fun h => by have := HB.out.1 h; omega)]
    clear HB HK hr
    go_enter Tryz.func85, Tryz.ntmps85
    go_wp2
    go_ret
    exact ⟨rfl, hb⟩
  replace p0 : 1 ≤ n := by omega
  replace p1 : n ≤ 5 := by omega
  have HALL := put (show imB cs = true ↔ ∀ t ∈ cs, cdB t = true from ⟨fun h => (HB.out.1 h).2, fun h => HB.out.2 ⟨by omega, h⟩⟩)
  clear HB
  go_enter Tryz.func85, Tryz.ntmps85
  go_wp2
  go_loopw [18] (fun i wr => ∃ k : Nat, k ≤ n ∧ i = .int .i64 k ∧ Hid (∀ t ∈ cs.take k, cdB t = true) ∧ Below w.heap.size w wr) (fun i _ => n - (intOf i).toNat)
  case atStart => exact ⟨0, Nat.zero_le _, rfl, put (fun t h => by simp at h), hb⟩
  case round =>
    obtain ⟨k, hk, rfl, hall, hbel⟩ := hrel
    clear hb p0
    by_cases hlt : k < n
    · obtain ⟨b, off, s, A1, n1, c1, A2, n2, c2, A3, n3, c3, rfl, hb, g0, g1, g2, g3, g4, r1, r2, r3, hx⟩ := (hr.below hbel).at_ hlt
      have hb1 := hbel.alloc hbel.size (.cells #[.int .i64 s.params, .int .i64 s.vars, .slice A1 n1 c1, .slice A2 n2 c2, .slice A3 n3 c3] 82)
      have hcon := sizedCode_any s A1 n1 c1 A2 n2 c2 A3 n3 c3 (wr.alloc (.cells #[.int .i64 s.params, .int .i64 s.vars, .slice A1 n1 c1, .slice A2 n2 c2, .slice A3 n3 c3] 82)) (IsCd.now (IsCd.more ⟨r1, r2, r3⟩ hbel.size) ((Below.refl _ wr).alloc (Nat.le_refl _) _)) (HK.out.below hb1 hpos) (by simp)
      unfold cdV at hcon
      clear r1 r2 r3
      cases hi : cdB s
      · have HI := put hi
        rw [hi] at hcon
        clear hi
        have HNO := put (no_of (b := imB cs) (fun h => by have h1 := HALL.out.1 h _ (mem_of_at hx.out); rw [show cdB s = false from HI.out] at h1; cases h1))
        go_wp2_with fail
        refine hcon.mono ?_
        rintro e w1 ⟨rfl, hb2⟩
        clear hcon
        go_wp2
        go_ret
        exact ⟨ret_bool HNO.out.symm, hb1.trans (hb2.mono hb1.size)⟩
      · have HI := put hi
        rw [hi] at hcon
        clear hi
        have hall2 := put (all_more (p := cdB) hall.out hx.out HI.out)
        go_wp2_with fail
        refine hcon.mono ?_
        rintro e w1 ⟨rfl, hb2⟩
        clear hcon
        go_wp2
        go_roundw
        case rel => exact ⟨k + 1, by omega, by go_num, hall2, hb1.trans (hb2.mono hb1.size)⟩
        case measure => simp [intOf]; omega
    · have hfin := put (show cs.take k = cs from List.take_of_length_le (by rw [hr.1]; omega))
      have HYES := put (HALL.out.2 (by have := hall.out; rwa [hfin.out] at this))
      go_wp2
      go_ret
      exact ⟨ret_bool HYES.out.symm, hbel⟩

end Go.Proofs.YtpbkkjiikhjanaaGreatDoor

/-
  Texts joined: Cda Cda2.
-/
import Derived.Test.YtpbkkjiikhjanaaGreatDoorJGc4
import Derived.Test.YtpbkkjiikhjanaaGreatDoorJHtS
import Derived.Deep.LoopGhost
import Derived.WalkMore
/-
  A code's fault as one plain answer; rows about a place.
-/
namespace Go.Proofs.YtpbkkjiikhjanaaGreatDoor
open Go.RowKit Exs Ht

/-- A place is in a row. -/
def InR (r : Row3) (a : Nat) : Prop := r.1 ≤ (a : Int) ∧ (a : Int) < r.2.1
theorem rowsF_from {many : Nat} : ∀ {rs : List Row3} {a : Int}, rowsF many a rs = true → ∀ r ∈ rs, a ≤ r.1 ∧ r.1 < r.2.1 ∧ r.2.1 ≤ many
  | [], _, _, r, h => by cases h
  | q :: rs, a, h, r, hr => by
    simp only [rowsF, Bool.and_eq_true] at h
    have h1 := of_decide_eq_true h.1
    rcases List.mem_cons.1 hr with rfl | hr
    · exact ⟨h1.1, h1.2.1, h1.2.2.1⟩
    · have := rowsF_from h.2 r hr
      omega
theorem rowsF_one {many : Nat} : ∀ {rs : List Row3} {a : Int}, rowsF many a rs = true → ∀ r ∈ rs, ∀ r' ∈ rs, ∀ p, InR r p → InR r' p → r = r'
  | [], _, _, r, h => by cases h
  | q :: rs, a, h, r, hr => by
    intro r' hr' p hp hp'
    simp only [rowsF, Bool.and_eq_true] at h
    rcases List.mem_cons.1 hr with rfl | hs <;> rcases List.mem_cons.1 hr' with rfl | hs'
    · rfl
    · have := rowsF_from h.2 r' hs'
      unfold InR at hp hp'
      omega
    · have := rowsF_from h.2 r hs
      unfold InR at hp hp'
      omega
    · exact rowsF_one h.2 r hs r' hs' p hp hp'
/-- Where something may be raised there is a row with a pad further on. -/
def raisOk (s : Cd) (hs : List Int) : Prop := ∀ (a : Nat) (t : Token) (g : Int), s.ins[a]? = some t → hs[a]? = some g → 0 ≤ g → raisB t.1 = true → ∃ r ∈ s.rows, InR r a ∧ (a : Int) < r.2.2
/-- The row in which a place is, by its number. -/
def RowAt (rs : List Row3) (a : Nat) (k : Int) : Prop := (∃ (j : Nat) (r : Row3), k = (j : Int) ∧ j < rs.length ∧ rs[j]? = some r ∧ InR r a) ∨ (k = -1 ∧ ∀ r ∈ rs, ¬ InR r a)
open Classical in
/-- What is wrong with a code: 0 for nothing. -/
noncomputable def cdAns (cs : List Cd) (s : Cd) : Int :=
  if namedB cs s = false then 1 else if sitesB cs s = false then 2 else if goesB s = false then 3 else if rowsF s.ins.length 0 s.rows = false then 4 else
  match hts (gr cs s) with
  | none => 5
  | some hs => if raisOk s hs then (if endOk s hs then 0 else 7) else 6
section
variable {cs : List Cd} {s : Cd}
theorem cdAns_1 (h : namedB cs s = false) : cdAns cs s = 1 := by unfold cdAns; rw [if_pos h]
theorem cdAns_2 (h1 : namedB cs s = true) (h : sitesB cs s = false) : cdAns cs s = 2 := by unfold cdAns; rw [if_neg (by rw [h1]; exact Bool.noConfusion), if_pos h]
theorem cdAns_3 (h1 : namedB cs s = true) (h2 : sitesB cs s = true) (h : goesB s = false) : cdAns cs s = 3 := by unfold cdAns; rw [if_neg (by rw [h1]; exact Bool.noConfusion), if_neg (by rw [h2]; exact Bool.noConfusion), if_pos h]
theorem cdAns_4 (h1 : namedB cs s = true) (h2 : sitesB cs s = true) (h3 : goesB s = true) (h : rowsF s.ins.length 0 s.rows = false) : cdAns cs s = 4 := by unfold cdAns; rw [if_neg (by rw [h1]; exact Bool.noConfusion), if_neg (by rw [h2]; exact Bool.noConfusion), if_neg (by rw [h3]; exact Bool.noConfusion), if_pos h]
theorem cdAns_on (h1 : namedB cs s = true) (h2 : sitesB cs s = true) (h3 : goesB s = true) (h4 : rowsF s.ins.length 0 s.rows = true) : (hts (gr cs s) = none → cdAns cs s = 5) ∧ ∀ hs, hts (gr cs s) = some hs → (¬ raisOk s hs → cdAns cs s = 6) ∧ (raisOk s hs → ¬ endOk s hs → cdAns cs s = 7) ∧ (raisOk s hs → endOk s hs → cdAns cs s = 0) := by
  unfold cdAns
  rw [if_neg (by rw [h1]; exact Bool.noConfusion), if_neg (by rw [h2]; exact Bool.noConfusion), if_neg (by rw [h3]; exact Bool.noConfusion), if_neg (by rw [h4]; exact Bool.noConfusion)]
  refine ⟨fun h => by rw [h], fun hs h => ?_⟩
  rw [h]
  refine ⟨fun hr => ?_, fun hr he => ?_, fun hr he => ?_⟩
  · dsimp only
    rw [if_neg hr]
  · dsimp only
    rw [if_pos hr, if_neg he]
  · dsimp only
    rw [if_pos hr, if_pos he]
end
theorem cdAns_zero {cs : List Cd} {s : Cd} (h : cdAns cs s = 0) : namedB cs s = true ∧ sitesB cs s = true ∧ goesB s = true ∧ rowsF s.ins.length 0 s.rows = true ∧ ∃ hs, hts (gr cs s) = some hs := by
  cases h1 : namedB cs s
  · rw [cdAns_1 h1] at h; cases h
  cases h2 : sitesB cs s
  · rw [cdAns_2 h1 h2] at h; cases h
  cases h3 : goesB s
  · rw [cdAns_3 h1 h2 h3] at h; cases h
  cases h4 : rowsF s.ins.length 0 s.rows
  · rw [cdAns_4 h1 h2 h3 h4] at h; cases h
  refine ⟨rfl, rfl, rfl, rfl, ?_⟩
  cases h5 : hts (gr cs s)
  · rw [(cdAns_on h1 h2 h3 h4).1 h5] at h; cases h
  · exact ⟨_, rfl⟩
theorem cdAns_bounds (cs : List Cd) (s : Cd) : 0 ≤ cdAns cs s ∧ cdAns cs s ≤ 7 := by
  unfold cdAns
  repeat' split
  all_goals omega

end Go.Proofs.YtpbkkjiikhjanaaGreatDoor

/-
  Rows about a place: l5RowAt, raisesInRows.
-/
namespace Go.Proofs.YtpbkkjiikhjanaaGreatDoor
open Go.RowKit Exs Ht

set_option maxHeartbeats 1000000 in
set_option maxRecDepth 100000 in
theorem l5RowAt_any (A3 : Option Addr) (n3 c3 : Nat) (rs : List Row3) (many a : Nat) (w : World) (hr : ReadsR w w.heap.size A3 n3 rs) (hn : n3 ≤ 300) (_ : many ≤ 300) (_ : a ≤ 300) (hro : rowsF many 0 rs = true) :
    Calls Tryz.prog 42 #[.slice A3 n3 c3, .int .i64 a] w fun e w' => (∃ k, e = .returned (.int .i64 k) ∧ RowAt rs a k) ∧ Below w.heap.size w w' := by
  have HRO := put hro
  have HLN := put hr.1
  clear hro
  go_enter Tryz.func42, Tryz.ntmps42
  go_wp2
  go_loopw [9] (fun i wr => ∃ k : Nat, k ≤ n3 ∧ i = .int .i64 k ∧ Hid (∀ r ∈ rs.take k, ¬ InR r a) ∧ Below w.heap.size w wr) (fun i _ => n3 - (intOf i).toNat)
  case atStart => exact ⟨0, Nat.zero_le _, rfl, put (fun t h => by simp at h), Below.refl _ _⟩
  case round =>
    obtain ⟨k, hk, rfl, hall, hbel⟩ := hrel
    by_cases hlt : k < n3
    · obtain ⟨b, off, x, y, z, rfl, hb', hc1, hc2, hc3, hxt⟩ := (hr.below hbel).at_ hlt
      have hb3 := hbel.alloc hbel.size (.cells #[.int .i64 x, .int .i64 y, .int .i64 z] 85)
      obtain ⟨p0, p1, p2⟩ : 0 ≤ x ∧ x < y ∧ y ≤ many := rowsF_from HRO.out _ (mem_of_at hxt.out)
      have hw1 : IntKind.i64.wrap (y - 1) = y - 1 := IntWalk.i64_in _ ⟨by omega, by omega⟩
      by_cases h : InR (x, y, z) a
      · have q := within_yes (n := (a : Int)) (lo := x) (hi := y - 1) ⟨h.1, by have := h.2; simp at this; omega⟩
        have HR := put (show RowAt rs a k from .inl ⟨k, _, rfl, by have := HLN.out; omega, hxt.out, h⟩)
        clear h
        go_wp2_with fail
        refine (l1In_any (a : Int) x (y - 1) _).mono ?_
        rintro e w1 ⟨rfl, rfl⟩
        rw [q]
        go_wp2
        go_ret
        exact ⟨⟨_, rfl, HR.out⟩, hb3⟩
      · have q := within_no (n := (a : Int)) (lo := x) (hi := y - 1) (fun h' => h ⟨h'.1, by simp; omega⟩)
        have hall2 := put (show ∀ r ∈ rs.take (k + 1), ¬ InR r a from fun r hr' => by
          rw [takeA_more hxt.out] at hr'
          rcases List.mem_append.1 hr' with hr' | hr'
          · exact hall.out r hr'
          · simp at hr'; subst hr'; exact h)
        clear h
        go_wp2_with fail
        refine (l1In_any (a : Int) x (y - 1) _).mono ?_
        rintro e w1 ⟨rfl, rfl⟩
        rw [q]
        go_wp2
        go_roundw
        case rel => exact ⟨k + 1, by omega, by go_num, hall2, hb3⟩
        case measure => simp [intOf]; omega
    · have hfin : rs.take k = rs := List.take_of_length_le (by have := HLN.out; omega)
      have HR := put (show RowAt rs a (-1) from .inr ⟨rfl, by have := hall.out; rwa [hfin] at this⟩)
      clear hfin
      go_wp2
      go_ret
      exact ⟨⟨_, rfl, HR.out⟩, hbel⟩

set_option maxHeartbeats 400000 in
theorem holds_any (x y z a : Int) (w : World) : Calls Tryz.prog 133 #[.agg #[.int .i64 x, .int .i64 y, .int .i64 z], .int .i64 a] w fun e w' => e = .returned (.bool (decide (x ≤ a ∧ a < y))) ∧ Below w.heap.size w w' := by
  have hb := (Below.refl w.heap.size w).alloc (Nat.le_refl _) (Obj.cells #[.int .i64 x, .int .i64 y, .int .i64 z] 85)
  by_cases h1 : x ≤ a
  · have H := put (show decide (x ≤ a ∧ a < y) = decide (a < y) by simp [h1])
    go_enter Tryz.func133, Tryz.ntmps133
    go_wp2
    go_ret
    exact ⟨ret_bool (by rw [H.out]), hb⟩
  · have h2 := put (Int.not_le.1 h1)
    go_enter Tryz.func133, Tryz.ntmps133
    go_wp2
    go_ret
    exact ⟨ret_bool (by have := h2.out; simp; omega), hb⟩

/-- What raisesInRows tells. -/
def raisTo (s : Cd) (hs : List Int) (k : Nat) : Prop := ∀ (a : Nat) (t : Token) (g : Int), a < k → s.ins[a]? = some t → hs[a]? = some g → 0 ≤ g → raisB t.1 = true → ∃ r ∈ s.rows, InR r a ∧ (a : Int) < r.2.2
theorem raisTo_more {s : Cd} {hs : List Int} {k : Nat} {t : Token} {g : Int} (h : raisTo s hs k) (ht : s.ins[k]? = some t) (hg : hs[k]? = some g) (hk : 0 ≤ g → raisB t.1 = true → ∃ r ∈ s.rows, InR r k ∧ (k : Int) < r.2.2) : raisTo s hs (k + 1) := fun a t' g' ha ht' hg' => by
  by_cases h' : a < k
  · exact h a t' g' h' ht' hg'
  · obtain rfl : a = k := by omega
    rw [ht] at ht'; injection ht' with e; subst e
    rw [hg] at hg'; injection hg' with e; subst e
    exact hk

set_option maxHeartbeats 4000000 in
set_option maxRecDepth 100000 in
theorem raisesInRows_any (s : Cd) (A1 : Option Addr) (n1 c1 : Nat) (A2 : Option Addr) (n2 c2 : Nat) (A3 : Option Addr) (n3 c3 : Nat) (w : World) (hs : IsCd w w.heap.size s A1 n1 A2 n2 A3 n3) (hi : cdB s = true) (v : Value) (hts0 : List Int) (B : Nat) (hv : Nums w B 3 .i64 v hts0) (hlen : hts0.length = n2) (hge : ∀ (a : Nat) (g : Int), hts0[a]? = some g → g = -1 ∨ 0 ≤ g) :
    Calls Tryz.prog 118 #[cdV s A1 n1 c1 A2 n2 c2 A3 n3 c3, v] w fun e w' => (∃ q : Bool, e = .returned (.bool q) ∧ (q = true ↔ raisOk s hts0)) ∧ Below w.heap.size w w' := by
  have HGE := put hge
  clear hge
  have hb := (Below.refl w.heap.size w).alloc (Nat.le_refl _) (Obj.cells #[.int .i64 s.params, .int .i64 s.vars, .slice A1 n1 c1, .slice A2 n2 c2, .slice A3 n3 c3] 82)
  have k2 := Keep.new w #[.int .i64 s.params, .int .i64 s.vars, .slice A1 n1 c1, .slice A2 n2 c2, .slice A3 n3 c3] 82
  have hsz := cdB_iff s |>.1 hi
  rw [hs.sites.1, hs.ins.1, hs.rows.1] at hsz
  have HSZ := put hsz
  have l2 : n2 ≤ 300 := by omega
  have E := put hs.ins.1
  have hins := hs.ins
  have hrw := hs.rows
  have l3 : n3 ≤ 300 := by omega
  clear hsz hi hs
  unfold cdV
  clear HSZ
  have LR := put hrw.1
  obtain ⟨Av, cv, rfl, hrv⟩ := hv.reads
  rw [hlen] at hrv ⊢
  have hins := hins.now hb
  have hrw := hrw.now hb
  have hrv := hrv.now hb
  clear hv
  go_enter Tryz.func118, Tryz.ntmps118
  go_wp2
  go_step3
  go_wp2
  go_step3
  go_wp2
  generalize hW : w.alloc (Obj.cells #[.int .i64 s.params, .int .i64 s.vars, .slice A1 n1 c1, .slice A2 n2 c2, .slice A3 n3 c3] 82) = W0 at hb k2 hins hrw hrv ⊢
  clear hW
  have hbw := hb
  clear hb
  go_loopg [12] n2 (fun g i wr => ∃ k : Nat, k + g = n2 ∧ i = .int .i64 k ∧ Hid (raisTo s hts0 k) ∧ Below W0.heap.size W0 wr)
  case atStart => exact ⟨0, by omega, rfl, put (fun a t g h => by omega), Below.refl _ _⟩
  case round =>
    obtain ⟨k, hkg, rfl, hall, hbel⟩ := hrel
    cases gk with
    | zero =>
      obtain rfl : k = n2 := by omega
      have HYES := put (show raisOk s hts0 from fun a t g ht hg hp hr => hall.out a t g (by have := (List.getElem?_eq_some_iff.1 ht).1; have := E.out; omega) ht hg hp hr)
      go_wp2
      try rw [Exit.noGoto_ret]
      go_ret
      exact ⟨⟨true, rfl, by simp [HYES.out]⟩, hbw.trans (hbel.mono hbw.size)⟩
    | succ g =>
      have hlt : k < n2 := by omega
      have hltI : (k : Int) < (n2 : Int) := by omega
      obtain ⟨b, off, op, x, rfl, hb', hc1, hc2, hxt⟩ := (hins.below hbel).at_ hlt
      have hb3 := hbel.alloc hbel.size (.cells #[.int .i64 op, .int .i64 x] 129)
      obtain ⟨bv, ov, gg, rfl, hbv, eg, hg⟩ := (hrv.below hb3).at_ hlt
      have HST := put (fun (h0 : 0 ≤ gg → raisB op = true → ∃ r ∈ s.rows, InR r k ∧ (k : Int) < r.2.2) => raisTo_more hall.out hxt.out hg.out h0)
      by_cases hp : gg = -1
      · subst hp
        have H2 := put (HST.out (fun h => absurd h (by decide)))
        clear HST
        go_wp2
        go_roundg g
        case measure => omega
        case rel => exact ⟨k + 1, by omega, by go_num, H2, hb3⟩
      have hpb := beq_of hp
      have hp0 : 0 ≤ gg := by rcases HGE.out k gg hg.out with h | h; exact absurd h hp; exact h
      cases hf : raisB op
      · have HF := put hf
        have H2 := put (HST.out (fun _ h => by rw [hf] at h; cases h))
        clear hf HST hp
        go_wp2_with fail
        refine (mayRaise_any op x _).mono ?_
        rintro e w1 ⟨rfl, hb4⟩
        rw [HF.out]
        go_wp2
        go_roundg g
        case measure => omega
        case rel => exact ⟨k + 1, by omega, by go_num, H2, hb3.trans (hb4.mono hb3.size)⟩
      · have HF := put hf
        have HNO := put (fun (h : ∀ r ∈ s.rows, ¬ (InR r k ∧ (k : Int) < r.2.2)) => (show ¬ raisOk s hts0 from fun h' => by
          obtain ⟨r, hr, hr'⟩ := h' k _ gg hxt.out hg.out hp0 hf
          exact h r hr hr'))
        clear hf hp
        go_wp2_with fail
        refine (mayRaise_any op x _).mono ?_
        rintro e w1 ⟨rfl, hb4⟩
        rw [HF.out]
        have hb5 := hb3.trans (hb4.mono hb3.size)
        have z4 := (k2.below hb5).cell 4
        simp at z4
        clear hb4 hb3 hc1 hc2 eg hbel
        go_wp2
        go_loopg [30] n3 (fun g2 i wr => ∃ j : Nat, j + g2 = n3 ∧ i = .int .i64 j ∧ Hid (∀ r ∈ s.rows.take j, ¬ (InR r k ∧ (k : Int) < r.2.2)) ∧ Below W0.heap.size W0 wr)
        case atStart => exact ⟨0, by omega, rfl, put (fun t h => by simp at h), hb5⟩
        case round =>
          obtain ⟨j, hjg, rfl, hnot, hbel⟩ := hrel
          cases gk with
          | zero =>
            obtain rfl : j = n3 := by omega
            have HN := put (HNO.out (by have h := hnot.out; rwa [List.take_of_length_le (by have := LR.out; omega)] at h))
            go_wp2
            try rw [Exit.noGoto_ret]
            go_ret
            exact ⟨⟨false, rfl, by simp [HN.out]⟩, hbw.trans (hbel.mono hbw.size)⟩
          | succ g2 =>
            have hlt2 : j < n3 := by omega
            have hltI2 : (j : Int) < (n3 : Int) := by omega
            obtain ⟨b2, off2, p, y, z, rfl, hb2', d1, d2, d3, hrt⟩ := (hrw.below hbel).at_ hlt2
            have hb6 := hbel.alloc hbel.size (.cells #[.int .i64 p, .int .i64 y, .int .i64 z] 85)
            have HG := put (fun (h : ¬ (InR (p, y, z) k ∧ (k : Int) < z)) => (show ∀ r ∈ s.rows.take (j + 1), ¬ (InR r k ∧ (k : Int) < r.2.2) from fun r hr' => by
              rw [takeA_more hrt.out] at hr'
              rcases List.mem_append.1 hr' with hr' | hr'
              · exact hnot.out r hr'
              · simp at hr'; subst hr'; exact h))
            have kr := Keep.new wr #[.int .i64 p, .int .i64 y, .int .i64 z] 85
            by_cases q0 : p ≤ (k : Int) ∧ (k : Int) < y
            · by_cases q2 : z ≤ (k : Int)
              · have hnot2 := put (HG.out (fun h => by have h3 := h.2; omega))
                clear HG
                go_wp2_with fail
                refine (holds_any p y z (k : Int) _).mono ?_
                rintro e w2 ⟨rfl, hb7⟩
                have b8 := hb6.trans (hb7.mono hb6.size)
                have x2 := (kr.below hb7).cell 2
                simp at x2
                rw [decide_eq_true q0]
                clear hb7 hb6 kr
                go_wp2
                go_roundg g2
                case measure => omega
                case rel => exact ⟨j + 1, by omega, by go_num, hnot2, b8⟩
              replace q2 : (k : Int) < z := by omega
              have H2 := put (HST.out (fun _ _ => ⟨_, mem_of_at hrt.out, ⟨q0.1, q0.2⟩, q2⟩))
              clear HG HST
              go_wp2_with fail
              refine (holds_any p y z (k : Int) _).mono ?_
              rintro e w2 ⟨rfl, hb7⟩
              have b8 := hb6.trans (hb7.mono hb6.size)
              have x2 := (kr.below hb7).cell 2
              simp at x2
              rw [decide_eq_true q0]
              clear hb7 hb6 kr
              go_wp2
              go_roundg g
              case measure => omega
              case rel => exact ⟨k + 1, by omega, by go_num, H2, b8⟩
            · have hnot2 := put (HG.out (fun h => q0 h.1))
              clear HG
              go_wp2_with fail
              refine (holds_any p y z (k : Int) _).mono ?_
              rintro e w2 ⟨rfl, hb7⟩
              have b8 := hb6.trans (hb7.mono hb6.size)
              rw [decide_eq_false q0]
              clear hb7 hb6 kr q0
              go_wp2
              go_roundg g2
              case measure => omega
              case rel => exact ⟨j + 1, by omega, by go_num, hnot2, b8⟩

end Go.Proofs.YtpbkkjiikhjanaaGreatDoor

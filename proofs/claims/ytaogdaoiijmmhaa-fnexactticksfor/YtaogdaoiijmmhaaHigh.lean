/-
  Contracts of the functions that tell how high the pile gets, of the program and of the reference: GoodExpr, HighOf and what they call.
-/
import Derived.Test.YtaogdaoiijmmhaaNeeds
namespace Go.Proofs.Ytaogdaoiijmmhaa
open Go.RowKit Exs
set_option linter.unusedVariables false

theorem pile_step {vars : Int} {ps : List Int} {ts : List Token} {k : Nat} {op x p m : Int} (h : ts[k]? = some (op, x)) :
    pile vars ps (ts.drop k) p m = if knB vars ps op x = true ∧ needs ps (op, x) ≤ p then pile vars ps (ts.drop (k + 1)) (p + 1 - needs ps (op, x)) (max m (p + 1 - needs ps (op, x))) else none := by
  obtain ⟨hk, he⟩ := List.getElem?_eq_some_iff.1 h
  rw [List.drop_eq_getElem_cons hk, he, pile]
  simp only [knB, decide_eq_true_eq]
theorem pile_done {vars : Int} {ps : List Int} {ts : List Token} {k : Nat} {p m : Int} (h : ts.length ≤ k) : pile vars ps (ts.drop k) p m = some (p, m) := by
  rw [List.drop_eq_nil_of_le h, pile]

/-- What a good expression's greatest height is, and whether it is one. -/
def highAns (ts : List Token) (vars : Int) (ps : List Int) : Int × Bool := if goodExpr ts vars ps then (high vars ps ts, true) else (0, false)

theorem highAns_none {ts : List Token} {vars : Int} {ps : List Int} (h : pile vars ps ts 0 0 = none) : highAns ts vars ps = (0, false) := by
  unfold highAns
  rw [if_neg]
  rintro ⟨_, _, _, h4⟩
  unfold high at h4
  rw [h] at h4
  simp at h4
theorem highAns_off {ts : List Token} {vars : Int} {ps : List Int} {p m : Int} (h : pile vars ps ts 0 0 = some (p, m)) (hp : p ≠ 1) : highAns ts vars ps = (0, false) := by
  unfold highAns
  rw [if_neg]
  rintro ⟨_, _, _, h4⟩
  unfold high at h4
  rw [h] at h4
  simp [hp] at h4
theorem highAns_some {ts : List Token} {vars : Int} {ps : List Int} {m : Int} (h : pile vars ps ts 0 0 = some (1, m)) (hm : 1 ≤ m) (hl : ts.length ≤ 12) (h0 : 0 ≤ vars) (h6 : vars ≤ 6) (hp : parB ps = true) : highAns ts vars ps = (m, true) := by
  have hh : high vars ps ts = m := by
    unfold high
    rw [h]
    simp [hl]
  unfold highAns
  rw [if_pos ⟨h0, h6, (parB_iff _).1 hp, by rw [hh]; omega⟩, hh]
theorem highAns_vars {ts : List Token} {vars : Int} {ps : List Int} (h : ¬ (0 ≤ vars ∧ vars ≤ 6)) : highAns ts vars ps = (0, false) := by
  unfold highAns
  rw [if_neg (fun hg => h ⟨hg.1, hg.2.1⟩)]
theorem highAns_par {ts : List Token} {vars : Int} {ps : List Int} (h : parB ps = false) : highAns ts vars ps = (0, false) := by
  unfold highAns
  rw [if_neg (fun hg => by rw [(parB_iff _).2 hg.2.2.1] at h; cases h)]
theorem highAns_long {ts : List Token} {vars : Int} {ps : List Int} (h : ¬ ts.length ≤ 12) : highAns ts vars ps = (0, false) := by
  unfold highAns
  rw [if_neg]
  rintro ⟨_, _, _, h4⟩
  unfold high at h4
  cases hq : pile vars ps ts 0 0 with
  | none => rw [hq] at h4; simp at h4
  | some q => rw [hq] at h4; simp [h] at h4

theorem max_if (q h : Int) : (if q < h then h else q) = max q h := by split <;> omega

theorem knB_six {vars : Int} {ps : List Int} {op x : Int} (h6 : vars ≤ 6) : knB vars ps op x = true ↔ knB 6 ps op x = true ∧ (op = 2 → x < vars) := by
  rw [knB_iff, knB_iff]
  constructor
  · rintro ⟨a, b, c⟩; exact ⟨⟨a, fun h => by have := b h; omega, c⟩, b⟩
  · rintro ⟨⟨a, _, c⟩, b⟩; exact ⟨a, b, c⟩

theorem parB_range {ps : List Int} (h : parB ps = true) (t : Token) : 0 ≤ needs ps t ∧ needs ps t ≤ 2 := needs_range ((parB_iff _).1 h).2 t

set_option maxHeartbeats 1000000 in
set_option maxRecDepth 100000 in
theorem exprHigh_any (A : Option Addr) (n c : Nat) (ts : List Token) (vars : Int) (A' : Option Addr) (m c' : Nat) (ps : List Int) (w : World) (hr : ReadsT w w.heap.size A n ts) (hr' : Reads w w.heap.size .i64 A' m ps)
    (hn : n ≤ 1048576) (hm : m ≤ 1048576) (hp : parB ps = true) :
    Calls Try.prog 60 #[.slice A n c, .int .i64 vars, .slice A' m c'] w fun e w' => e = .returned (.tuple #[.int .i64 (highAns ts vars ps).1, .bool (highAns ts vars ps).2]) ∧ Below w.heap.size w w' := by
  by_cases hl : n ≤ 12
  · by_cases h0 : 0 ≤ vars
    · by_cases h6 : vars ≤ 6
      · have HP := put hp; clear hp
        go_enter Try.func60, Try.ntmps60
        go_wp2
        go_loopw [8, 9, 27] (fun hgt hig i wr => ∃ (k : Nat) (p q : Int), k ≤ n ∧ i = .int .i64 k ∧ hgt = .int .i64 p ∧ hig = .int .i64 q ∧ 0 ≤ p ∧ p ≤ q ∧ q ≤ 12 ∧ q ≤ k ∧ Hid (pile vars ps ts 0 0 = pile vars ps (ts.drop k) p q) ∧ Below w.heap.size w wr) (fun _ _ i _ => n - (intOf i).toNat)
        case atStart => exact ⟨0, 0, 0, Nat.zero_le _, rfl, rfl, rfl, by omega, by omega, by omega, by omega, rfl, Below.refl _ _⟩
        case round =>
          obtain ⟨k, p, q, hk, rfl, rfl, rfl, hp0, hpq, hq12, hqk, hpile, hbel⟩ := hrel
          by_cases hlt : k < n
          · obtain ⟨b, off, op, x, rfl, hb, hc1, hc2, hx⟩ := (hr.below hbel).at_ hlt
            have hstep := put (pile_step (vars := vars) (ps := ps) (p := p) (m := q) hx.out)
            have hrg := parB_range HP.out (op, x)
            have hr1 := ((hr'.below hbel).more (B' := wr.heap.size) hbel.size)
            have hr2 : Reads (wr.alloc (Obj.cells #[Value.int IntKind.i64 op, Value.int IntKind.i64 x] 99)) (wr.alloc (Obj.cells #[Value.int IntKind.i64 op, Value.int IntKind.i64 x] 99)).heap.size .i64 A' m ps := (hr1.below ((Below.refl _ _).alloc (Nat.le_refl _) _)).more (by simp)
            cases hkn : knB 6 ps op x with
            | false =>
              have HA := put (needsAns_no (ps := ps) (op := op) (n := x) (.inr hkn))
              have HF := put (highAns_none (by rw [hpile.out, hstep.out, if_neg (fun h => by rw [((knB_six h6).1 h.1).1] at hkn; cases hkn)]))
              go_wp2_with fail
              refine (needsOf_any _ _ _ _ _ ps _ hr2 hm).mono ?_
              rintro e w1 ⟨rfl, hb1⟩
              rw [HA.out]
              have hcell := fun j => hb1.cell (p := ⟨wr.heap.size, j, none⟩) (by simp)
              have hbw : Below w.heap.size w w1 := (hbel.alloc hbel.size _).trans (hb1.mono (by have := hbel.size; simp; omega))
              clear hb1 hr2 hc1 hc2
              go_wp2
              go_ret2
              exact ⟨ret2 (by rw [HF.out]), hbw⟩
            | true =>
              have HA := put (needsAns_yes (ps := ps) (op := op) (n := x) HP.out hkn)
              generalize hd : needs ps (op, x) = d at *
              clear hd
              by_cases hdp : d ≤ p
              · by_cases hop : op = 2 ∧ vars ≤ x
                · have HF := put (highAns_none (by rw [hpile.out, hstep.out, if_neg (fun h => by have := ((knB_six h6).1 h.1).2 hop.1; omega)]))
                  obtain ⟨rfl, hvx⟩ := hop
                  go_wp2_with fail
                  refine (needsOf_any _ _ _ _ _ ps _ hr2 hm).mono ?_
                  rintro e w1 ⟨rfl, hb1⟩
                  rw [HA.out]
                  have hcell := fun j => hb1.cell (p := ⟨wr.heap.size, j, none⟩) (by simp)
                  have hbw : Below w.heap.size w w1 := (hbel.alloc hbel.size _).trans (hb1.mono (by have := hbel.size; simp; omega))
                  clear hb1 hr2 hc1 hc2
                  go_wp2
                  go_ret2
                  exact ⟨ret2 (by rw [HF.out]), hbw⟩
                · have HN := put (show pile vars ps ts 0 0 = pile vars ps (ts.drop (k + 1)) (p + (1 - d)) (max q (p + (1 - d))) by
                    rw [hpile.out, hstep.out, if_pos ⟨(knB_six h6).2 ⟨hkn, fun h => by omega⟩, hdp⟩, show p + 1 - d = p + (1 - d) by omega])
                  by_cases ho2 : op = 2
                  · have hvx : x < vars := by omega
                    subst ho2
                    clear hop
                    go_wp2_with fail
                    refine (needsOf_any _ _ _ _ _ ps _ hr2 hm).mono ?_
                    rintro e w1 ⟨rfl, hb1⟩
                    rw [HA.out]
                    have hcell := fun j => hb1.cell (p := ⟨wr.heap.size, j, none⟩) (by simp)
                    have hbw : Below w.heap.size w w1 := (hbel.alloc hbel.size _).trans (hb1.mono (by have := hbel.size; simp; omega))
                    clear hb1 hr2 hc1 hc2
                    go_wp2
                    go_roundw
                    case rel => exact ⟨k + 1, p + (1 - d), max q (p + (1 - d)), by omega, by go_num, rfl, by rw [max_if], by omega, by omega, by omega, by omega, HN, hbw⟩
                    case measure => simp [intOf]; omega
                  · have ho2' := beq_of ho2
                    clear hop
                    go_wp2_with fail
                    refine (needsOf_any _ _ _ _ _ ps _ hr2 hm).mono ?_
                    rintro e w1 ⟨rfl, hb1⟩
                    rw [HA.out]
                    have hcell := fun j => hb1.cell (p := ⟨wr.heap.size, j, none⟩) (by simp)
                    have hbw : Below w.heap.size w w1 := (hbel.alloc hbel.size _).trans (hb1.mono (by have := hbel.size; simp; omega))
                    clear hb1 hr2 hc1 hc2
                    go_wp2
                    go_roundw
                    case rel => exact ⟨k + 1, p + (1 - d), max q (p + (1 - d)), by omega, by go_num, rfl, by rw [max_if], by omega, by omega, by omega, by omega, HN, hbw⟩
                    case measure => simp [intOf]; omega
              · have HF := put (highAns_none (by rw [hpile.out, hstep.out, if_neg (fun h => hdp h.2)]))
                have hdp' : p < d := by omega
                go_wp2_with fail
                refine (needsOf_any _ _ _ _ _ ps _ hr2 hm).mono ?_
                rintro e w1 ⟨rfl, hb1⟩
                rw [HA.out]
                have hcell := fun j => hb1.cell (p := ⟨wr.heap.size, j, none⟩) (by simp)
                have hbw : Below w.heap.size w w1 := (hbel.alloc hbel.size _).trans (hb1.mono (by have := hbel.size; simp; omega))
                clear hb1 hr2 hc1 hc2
                go_wp2
                go_ret2
                exact ⟨ret2 (by rw [HF.out]), hbw⟩
          · have hend := put (hpile.out.trans (pile_done (by rw [hr.1]; omega)))
            clear hpile
            by_cases hp1 : p = 1
            · subst hp1
              have HF := put (highAns_some hend.out hpq (by rw [hr.1]; exact hl) h0 h6 HP.out)
              go_wp2
              go_ret2
              exact ⟨ret2 (by rw [HF.out]), hbel⟩
            · have HF := put (highAns_off hend.out hp1)
              have hp1' := bne_of hp1
              go_wp2
              go_ret2
              exact ⟨ret2 (by rw [HF.out]), hbel⟩
      · have HF := put (highAns_vars (ts := ts) (ps := ps) (vars := vars) (by omega))
        have h6' : 6 < vars := by omega
        go_enter Try.func60, Try.ntmps60
        go_wp2
        go_ret2
        exact ⟨ret2 (by rw [HF.out]), Below.refl _ _⟩
    · have HF := put (highAns_vars (ts := ts) (ps := ps) (vars := vars) (by omega))
      have h0' : vars < 0 := by omega
      go_enter Try.func60, Try.ntmps60
      go_wp2
      go_ret2
      exact ⟨ret2 (by rw [HF.out]), Below.refl _ _⟩
  · have HF := put (highAns_long (ts := ts) (ps := ps) (vars := vars) (by rw [hr.1]; omega))
    have hl' : 12 < n := by omega
    go_enter Try.func60, Try.ntmps60
    go_wp2
    go_ret2
    exact ⟨ret2 (by rw [HF.out]), Below.refl _ _⟩

set_option maxHeartbeats 1000000 in
set_option maxRecDepth 100000 in
/-- With params that are not so the first token, or that there is none, tells it. -/
theorem exprHigh_bad (A : Option Addr) (n c : Nat) (ts : List Token) (vars : Int) (A' : Option Addr) (m c' : Nat) (ps : List Int) (w : World) (hr : ReadsT w w.heap.size A n ts) (hr' : Reads w w.heap.size .i64 A' m ps)
    (hn : n ≤ 1048576) (hm : m ≤ 1048576) (hp : parB ps = false) :
    Calls Try.prog 60 #[.slice A n c, .int .i64 vars, .slice A' m c'] w fun e w' => e = .returned (.tuple #[.int .i64 (highAns ts vars ps).1, .bool (highAns ts vars ps).2]) ∧ Below w.heap.size w w' := by
  have HF := put (highAns_par (ts := ts) (vars := vars) hp)
  by_cases hl : n ≤ 12
  · by_cases h0 : 0 ≤ vars
    · by_cases h6 : vars ≤ 6
      · have HP := put hp; clear hp
        go_enter Try.func60, Try.ntmps60
        go_wp2
        go_loopw [8, 9, 27] (fun hgt hig i wr => i = .int .i64 0 ∧ hgt = .int .i64 0 ∧ hig = .int .i64 0 ∧ wr = w) (fun _ _ i _ => n - (intOf i).toNat)
        case atStart => exact ⟨rfl, rfl, rfl, rfl⟩
        case round =>
          obtain ⟨rfl, rfl, rfl, rfl⟩ := hrel
          by_cases hlt : 0 < n
          · obtain ⟨b, off, op, x, rfl, hb, hc1, hc2, hx⟩ := hr.at_ hlt
            simp only [Nat.zero_mul, Nat.add_zero] at hc1 hc2
            have HA := put (needsAns_no (ps := ps) (op := op) (n := x) (.inl HP.out))
            have hr2 : Reads (wr.alloc (Obj.cells #[Value.int IntKind.i64 op, Value.int IntKind.i64 x] 99)) (wr.alloc (Obj.cells #[Value.int IntKind.i64 op, Value.int IntKind.i64 x] 99)).heap.size .i64 A' m ps := (hr'.below ((Below.refl _ _).alloc (Nat.le_refl _) _)).more (by simp)
            go_wp2_with fail
            refine (needsOf_any _ _ _ _ _ ps _ hr2 hm).mono ?_
            rintro e w1 ⟨rfl, hb1⟩
            rw [HA.out]
            have hbw : Below wr.heap.size wr w1 := ((Below.refl _ _).alloc (Nat.le_refl _) _).trans (hb1.mono (by simp))
            clear hb1 hr2 hc1 hc2
            go_wp2
            go_ret2
            exact ⟨ret2 (by rw [HF.out]), hbw⟩
          · obtain rfl : n = 0 := by omega
            go_wp2
            go_ret2
            exact ⟨ret2 (by rw [HF.out]), Below.refl _ _⟩
      · have h6' : 6 < vars := by omega
        go_enter Try.func60, Try.ntmps60
        go_wp2
        go_ret2
        exact ⟨ret2 (by rw [HF.out]), Below.refl _ _⟩
    · have h0' : vars < 0 := by omega
      go_enter Try.func60, Try.ntmps60
      go_wp2
      go_ret2
      exact ⟨ret2 (by rw [HF.out]), Below.refl _ _⟩
  · have hl' : 12 < n := by omega
    go_enter Try.func60, Try.ntmps60
    go_wp2
    go_ret2
    exact ⟨ret2 (by rw [HF.out]), Below.refl _ _⟩

/-- exprHigh of any expression. -/
theorem exprHigh_is (A : Option Addr) (n c : Nat) (ts : List Token) (vars : Int) (A' : Option Addr) (m c' : Nat) (ps : List Int) (w : World) (hr : ReadsT w w.heap.size A n ts) (hr' : Reads w w.heap.size .i64 A' m ps)
    (hn : n ≤ 1048576) (hm : m ≤ 1048576) :
    Calls Try.prog 60 #[.slice A n c, .int .i64 vars, .slice A' m c'] w fun e w' => e = .returned (.tuple #[.int .i64 (highAns ts vars ps).1, .bool (highAns ts vars ps).2]) ∧ Below w.heap.size w w' := by
  cases hp : parB ps with
  | false => exact exprHigh_bad A n c ts vars A' m c' ps w hr hr' hn hm hp
  | true => exact exprHigh_any A n c ts vars A' m c' ps w hr hr' hn hm hp

set_option maxHeartbeats 400000 in
theorem goodExpr_any (A : Option Addr) (n c : Nat) (ts : List Token) (vars : Int) (A' : Option Addr) (m c' : Nat) (ps : List Int) (w : World) (hr : ReadsT w w.heap.size A n ts) (hr' : Reads w w.heap.size .i64 A' m ps)
    (hn : n ≤ 1048576) (hm : m ≤ 1048576) :
    Calls Try.prog 50 #[.slice A n c, .int .i64 vars, .slice A' m c'] w fun e w' => e = .returned (.bool (highAns ts vars ps).2) ∧ Below w.heap.size w w' := by
  go_enter Try.func50, Try.ntmps50
  go_wp2_with fail
  refine (exprHigh_is _ _ _ ts _ _ _ _ ps _ hr hr' hn hm).mono ?_
  rintro e w1 ⟨rfl, hb1⟩
  go_wp2
  go_ret
  exact ⟨rfl, hb1⟩

set_option maxHeartbeats 400000 in
theorem l1Most_any (a b : Int) (w : World) : Calls Try.prog 21 #[.int .i64 a, .int .i64 b] w fun e w' => e = .returned (.int .i64 (max a b)) ∧ w = w' := by
  by_cases h : b < a
  · have h' : a = max a b := by omega
    have H := put h'; clear h'
    go_enter Try.func21, Try.ntmps21
    go_wp2
    go_ret
    exact ⟨ret_int H.out, rfl⟩
  · have h' : b = max a b := by omega
    have H := put h'; clear h'
    go_enter Try.func21, Try.ntmps21
    go_wp2
    go_ret
    exact ⟨ret_int H.out, rfl⟩

theorem high_none {ts : List Token} {vars : Int} {ps : List Int} (h : pile vars ps ts 0 0 = none) : high vars ps ts = -1 := by
  unfold high; rw [h]
theorem high_some {ts : List Token} {vars : Int} {ps : List Int} {p m : Int} (h : pile vars ps ts 0 0 = some (p, m)) : high vars ps ts = if p = 1 ∧ ts.length ≤ 12 then m else -1 := by
  unfold high; rw [h]

set_option maxHeartbeats 1000000 in
set_option maxRecDepth 100000 in
theorem l2High_any (A : Option Addr) (n c : Nat) (ts : List Token) (vars : Int) (A' : Option Addr) (m c' : Nat) (ps : List Int) (w : World) (hr : ReadsT w w.heap.size A n ts) (hr' : Reads w w.heap.size .i64 A' m ps)
    (hn : n ≤ 1048576) (hm : m ≤ 1048576) (hp : parB ps = true) :
    Calls Try.prog 63 #[.slice A n c, .int .i64 vars, .slice A' m c'] w fun e w' => e = .returned (.int .i64 (high vars ps ts)) ∧ Below w.heap.size w w' := by
  have HP := put hp; clear hp
  go_enter Try.func63, Try.ntmps63
  go_wp2
  go_loopw [7, 8, 13] (fun hgt hig i wr => ∃ (k : Nat) (p q : Int), k ≤ n ∧ i = .int .i64 k ∧ hgt = .int .i64 p ∧ hig = .int .i64 q ∧ 0 ≤ p ∧ p ≤ q ∧ q ≤ k ∧ Hid (pile vars ps ts 0 0 = pile vars ps (ts.drop k) p q) ∧ Below w.heap.size w wr) (fun _ _ i _ => n - (intOf i).toNat)
  case atStart => exact ⟨0, 0, 0, Nat.zero_le _, rfl, rfl, rfl, by omega, by omega, by omega, rfl, Below.refl _ _⟩
  case round =>
    obtain ⟨k, p, q, hk, rfl, rfl, rfl, hp0, hpq, hqk, hpile, hbel⟩ := hrel
    by_cases hlt : k < n
    · obtain ⟨b, off, op, x, rfl, hb, hc1, hc2, hx⟩ := (hr.below hbel).at_ hlt
      have hstep := put (pile_step (vars := vars) (ps := ps) (p := p) (m := q) hx.out)
      have hrg := parB_range HP.out (op, x)
      have hr1 := ((hr'.below hbel).more (B' := wr.heap.size) hbel.size)
      have hr2 : Reads (wr.alloc (Obj.cells #[Value.int IntKind.i64 op, Value.int IntKind.i64 x] 99)) (wr.alloc (Obj.cells #[Value.int IntKind.i64 op, Value.int IntKind.i64 x] 99)).heap.size .i64 A' m ps := (hr1.below ((Below.refl _ _).alloc (Nat.le_refl _) _)).more (by simp)
      cases hkn : knB vars ps op x with
      | false =>
        have HF := put (high_none (by rw [hpile.out, hstep.out, if_neg (fun h => by rw [h.1] at hkn; cases hkn)]))
        go_wp2_with fail
        refine (l2Known_any _ _ _ _ _ _ ps _ hr'.1 hm).mono ?_
        rintro e w1 ⟨rfl, hb1⟩
        have hbw : Below w.heap.size w w1 := (hbel.alloc hbel.size _).trans (hb1.mono (by have := hbel.size; simp; omega))
        clear hb1 hr2 hc1 hc2
        go_wp2
        go_ret
        exact ⟨ret_int HF.out.symm, hbw⟩
      | true =>
        have hin := put (fun (he : op = 11) => by have := kn_call hkn he; rw [hr'.1] at this; exact this)
        generalize hd : needs ps (op, x) = d at *
        have HD := put hd
        clear hd
        by_cases hdp : d ≤ p
        · have HN := put (show pile vars ps ts 0 0 = pile vars ps (ts.drop (k + 1)) (p + (1 - d)) (max q (p + (1 - d))) by
            rw [hpile.out, hstep.out, if_pos ⟨hkn, hdp⟩, show p + 1 - d = p + (1 - d) by omega])
          go_wp2_with fail
          refine (l2Known_any _ _ _ _ _ _ ps _ hr'.1 hm).mono ?_
          rintro e w1 ⟨rfl, hb1⟩
          have hcell := fun j => hb1.cell (p := ⟨wr.heap.size, j, none⟩) (by simp)
          have hbw : Below w.heap.size w w1 := (hbel.alloc hbel.size _).trans (hb1.mono (by have := hbel.size; simp; omega))
          have hr3 := (hr2.below hb1).more (B' := w1.heap.size) hb1.size
          have hs1 : wr.heap.size < w1.heap.size := by have := hb1.size; simp at this; omega
          clear hb1 hr2 hc1 hc2
          go_wp2_with fail
          refine (l2Needs_any _ _ _ _ _ ps _ hr3 hm hin.out).mono ?_
          rintro e w2 ⟨rfl, hb2⟩
          rw [HD.out]
          have hcell2 := fun j => hb2.cell (p := ⟨wr.heap.size, j, none⟩) hs1
          have hbw2 := hbw.trans (hb2.mono hbw.size)
          have hr4 := (hr3.below hb2).more (B' := w2.heap.size) hb2.size
          clear hb2
          go_wp2_with fail
          refine (l2Needs_any _ _ _ _ _ ps _ hr4 hm hin.out).mono ?_
          rintro e w3 ⟨rfl, hb3⟩
          rw [HD.out]
          have hbw3 := hbw2.trans (hb3.mono hbw2.size)
          clear hb3
          go_wp2_with (go_at_call 21; refine (l1Most_any _ _ _).mono ?_; rintro e w4 ⟨rfl, rfl⟩)
          go_roundw
          case rel => exact ⟨k + 1, p + (1 - d), max q (p + (1 - d)), by omega, by go_num, rfl, rfl, by omega, by omega, by omega, HN, hbw3⟩
          case measure => simp [intOf]; omega
        · have HF := put (high_none (by rw [hpile.out, hstep.out, if_neg (fun h => hdp h.2)]))
          have hdp' : p < d := by omega
          go_wp2_with fail
          refine (l2Known_any _ _ _ _ _ _ ps _ hr'.1 hm).mono ?_
          rintro e w1 ⟨rfl, hb1⟩
          have hcell := fun j => hb1.cell (p := ⟨wr.heap.size, j, none⟩) (by simp)
          have hbw : Below w.heap.size w w1 := (hbel.alloc hbel.size _).trans (hb1.mono (by have := hbel.size; simp; omega))
          have hr3 := (hr2.below hb1).more (B' := w1.heap.size) hb1.size
          clear hb1 hr2 hc1 hc2
          go_wp2_with fail
          refine (l2Needs_any _ _ _ _ _ ps _ hr3 hm hin.out).mono ?_
          rintro e w2 ⟨rfl, hb2⟩
          rw [HD.out]
          have hbw2 := hbw.trans (hb2.mono hbw.size)
          clear hb2
          go_wp2
          go_ret
          exact ⟨ret_int HF.out.symm, hbw2⟩
    · have hend := put (high_some (hpile.out.trans (pile_done (by rw [hr.1]; omega))))
      rw [hr.1] at hend
      clear hpile
      by_cases hp1 : p = 1
      · subst hp1
        by_cases hl : n ≤ 12
        · go_wp2
          go_ret
          exact ⟨ret_int (by rw [hend.out]; simp [hl]), hbel⟩
        · have hl' : 12 < n := by omega
          go_wp2
          go_ret
          exact ⟨ret_int (by rw [hend.out]; simp [hl]), hbel⟩
      · have hp1' := bne_of hp1
        go_wp2
        go_ret
        exact ⟨ret_int (by rw [hend.out]; simp [hp1]), hbel⟩

theorem highAns_is {ts : List Token} {vars : Int} {ps : List Int} (h0 : 0 ≤ vars) (h6 : vars ≤ 6) (hp : parB ps = true) : (highAns ts vars ps).2 = decide (0 < high vars ps ts) := by
  unfold highAns
  by_cases h : 0 < high vars ps ts
  · rw [if_pos ⟨h0, h6, (parB_iff _).1 hp, h⟩]; simp [h]
  · rw [if_neg (fun hg => h hg.2.2.2)]; simp [h]
theorem highAns_yes {ts : List Token} {vars : Int} {ps : List Int} (h : (highAns ts vars ps).2 = true) : highAns ts vars ps = (high vars ps ts, true) ∧ parB ps = true := by
  unfold highAns at h ⊢
  split at h
  · rename_i hg; rw [if_pos hg]; exact ⟨rfl, (parB_iff _).2 hg.2.2.1⟩
  · cases h
theorem highAns_not {ts : List Token} {vars : Int} {ps : List Int} (h : (highAns ts vars ps).2 = false) : highAns ts vars ps = (0, false) := by
  unfold highAns at h ⊢
  split at h
  · cases h
  · rename_i hg; rw [if_neg hg]

set_option maxHeartbeats 400000 in
theorem specGoodExpr_any (A : Option Addr) (n c : Nat) (ts : List Token) (vars : Int) (A' : Option Addr) (m c' : Nat) (ps : List Int) (w : World) (hr : ReadsT w w.heap.size A n ts) (hr' : Reads w w.heap.size .i64 A' m ps)
    (hn : n ≤ 1048576) (hm : m ≤ 1048576) :
    Calls Try.prog 57 #[.slice A n c, .int .i64 vars, .slice A' m c'] w fun e w' => e = .returned (.bool (highAns ts vars ps).2) ∧ Below w.heap.size w w' := by
  cases hv : within vars 0 6 with
  | false =>
    have HF := put (highAns_vars (ts := ts) (ps := ps) (vars := vars) (fun h => by rw [(within_iff _ _ _).2 h] at hv; cases hv))
    go_enter Try.func57, Try.ntmps57
    go_wp2_with fail
    refine (l1In_any _ _ _ _).mono ?_
    rintro e w1 ⟨rfl, rfl⟩
    go_wp2
    go_ret
    exact ⟨ret_bool (by rw [HF.out]), Below.refl _ _⟩
  | true =>
    obtain ⟨h0, h6⟩ := (within_iff _ _ _).1 hv
    cases hp : parB ps with
    | false =>
      have HF := put (highAns_par (ts := ts) (vars := vars) hp)
      go_enter Try.func57, Try.ntmps57
      go_wp2_with fail
      refine (l1In_any _ _ _ _).mono ?_
      rintro e w1 ⟨rfl, rfl⟩
      go_wp2_with fail
      refine (l2Params_any _ _ _ ps _ hr' hm).mono ?_
      rintro e w2 ⟨rfl, rfl⟩
      go_wp2
      go_ret
      exact ⟨ret_bool (by rw [HF.out]), Below.refl _ _⟩
    | true =>
      have HF := put (highAns_is (ts := ts) h0 h6 hp)
      go_enter Try.func57, Try.ntmps57
      go_wp2_with fail
      refine (l1In_any _ _ _ _).mono ?_
      rintro e w1 ⟨rfl, rfl⟩
      go_wp2_with fail
      refine (l2Params_any _ _ _ ps _ hr' hm).mono ?_
      rintro e w2 ⟨rfl, rfl⟩
      go_wp2_with fail
      refine (l2High_any _ _ _ ts _ _ _ _ ps _ hr hr' hn hm hp).mono ?_
      rintro e w3 ⟨rfl, hb3⟩
      go_wp2
      go_ret
      exact ⟨ret_bool HF.out.symm, hb3⟩

end Go.Proofs.Ytaogdaoiijmmhaa

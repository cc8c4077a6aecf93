/-
  Texts joined: Sit6 LowM.
-/
import Derived.Test.YtpmpjiigmjnniaaJOrdI
import Derived.Test.YtpmpjiigmjnniaaJPEq4
import Derived.Test.YtpmpjiigmjnniaaJSpP
import Derived.Test.YtpmpjiigmjnniaaJLow1
import Derived.Test.YtpmpjiigmjnniaaJSpO
import Derived.Laws.AppendOwnNone
/-
  The number of a statement's site: both sides.
-/
namespace Go.Proofs.Ytpmpjiigmjnniaa
open Go.RowKit Exs

/-- The first place of a number in a list, -1 where it is not in it. -/
def ixOf : List Int → Int → Int
  | [], _ => -1
  | y :: r, x => if y = x then 0 else if ixOf r x < 0 then -1 else ixOf r x + 1
theorem ixOf_at : ∀ {l : List Int} {k : Nat} {x : Int}, (∀ y ∈ l.take k, y ≠ x) → l[k]? = some x → ixOf l x = (k : Int)
  | [], _, _, _, h => by simp at h
  | y :: r, 0, x, _, h => by simp at h; simp [ixOf, h]
  | y :: r, k + 1, x, hn, h => by
    have h1 := ixOf_at (l := r) (k := k) (x := x) (fun z hz => hn z (by simp [hz])) (by simpa using h)
    have h2 : y ≠ x := hn y (by simp)
    unfold ixOf
    rw [if_neg h2, h1, if_neg (by omega)]
    omega
theorem ixOf_no : ∀ {l : List Int} {x : Int}, (∀ y ∈ l, y ≠ x) → ixOf l x = -1
  | [], _, _ => rfl
  | y :: r, x, hn => by
    have h1 := ixOf_no (l := r) (x := x) (fun z hz => hn z (by simp [hz]))
    unfold ixOf
    rw [if_neg (hn y (by simp)), h1]
    rfl
theorem ixOf_bounds : ∀ (l : List Int) (x : Int), -1 ≤ ixOf l x ∧ ixOf l x < l.length ∨ ixOf l x = -1
  | [], _ => .inr rfl
  | y :: r, x => by
    have h1 := ixOf_bounds r x
    unfold ixOf
    split
    · left; constructor <;> simp <;> omega
    · split
      · exact .inr rfl
      · left; simp only [List.length_cons]; omega
theorem no_more {l : List Int} {k : Nat} {x y : Int} (h : ∀ z ∈ l.take k, z ≠ x) (hk : l[k]? = some y) (hy : y ≠ x) : ∀ z ∈ l.take (k + 1), z ≠ x := fun z hz => by
  rw [takeA_more hk] at hz
  rcases List.mem_append.1 hz with hz | hz
  · exact h z hz
  · simp at hz; subst hz; exact hy

set_option maxHeartbeats 1000000 in
set_option maxRecDepth 100000 in
theorem index_any (A : Option Addr) (n c : Nat) (l : List Int) (x : Int) (w : World) (hr : Reads w w.heap.size .i64 A n l) (hn : n ≤ 1048576) :
    Calls Try.prog 68 #[.slice A n c, .int .i64 x] w fun e w' => e = .returned (.int .i64 (ixOf l x)) ∧ w = w' := by
  have HL := put hr.1
  go_enter Try.func68, Try.ntmps68
  go_wp2
  go_loopw [8] (fun i wr => ∃ k : Nat, k ≤ n ∧ i = .int .i64 k ∧ Hid (∀ y ∈ l.take k, y ≠ x) ∧ wr = w) (fun i _ => n - (intOf i).toNat)
  case atStart => exact ⟨0, Nat.zero_le _, rfl, put (fun t h => by simp at h), rfl⟩
  case round =>
    obtain ⟨k, hk, rfl, hall, rfl⟩ := hrel
    by_cases hlt : k < n
    · obtain ⟨b, off, y, rfl, hb', hc1, hyt⟩ := hr.at_ hlt
      by_cases hy : y = x
      · subst hy
        have HA := put (ixOf_at hall.out hyt.out)
        go_wp2
        go_ret
        exact ⟨ret_int HA.out.symm, rfl⟩
      · have H2 := put (no_more hall.out hyt.out hy)
        have hy1 := beq_of hy
        have hy2 := beq_of (Ne.symm hy)
        clear hy
        go_wp2
        go_roundw
        case rel => exact ⟨k + 1, by omega, by go_num, H2, trivial⟩
        case measure => simp [intOf]; omega
    · have hfin := put (show l.take k = l from List.take_of_length_le (by have := HL.out; omega))
      have HA := put (ixOf_no (l := l) (x := x) (by have := hall.out; rwa [hfin.out] at this))
      go_wp2
      go_ret
      exact ⟨ret_int HA.out.symm, rfl⟩

set_option maxHeartbeats 1000000 in
set_option maxRecDepth 100000 in
theorem l6Site_any (f : Fc) (A1 : Option Addr) (n1 c1 : Nat) (A2 : Option Addr) (n2 c2 : Nat) (x : Int) (w : World) (hf : IsFc w w.heap.size f A1 n1 A2 n2) (hn : n2 ≤ 1000000) :
    Calls Try.prog 58 #[fcV f A1 n1 c1 A2 n2 c2, .int .i64 x] w fun e w' => e = .returned (.int .i64 (ixOf (sitesL f) x)) ∧ Below w.heap.size w w' := by
  have hb0 : Below w.heap.size w (w.alloc (.cells #[.int .i64 f.params, .int .i64 f.vars, .slice A1 n1 c1, .slice A2 n2 c2] 53)) := (Below.refl _ _).alloc (Nat.le_refl _) _
  have HL := put (show (sitesL f).length ≤ 1000000 by have := sitesFrom_length f.stmts 0; have := hf.stmts.1; unfold sitesL; omega)
  have H1 := put (l3Sites_any f A1 n1 c1 A2 n2 c2 _ (hf.now hb0) hn)
  unfold fcV at H1 ⊢
  clear hf
  generalize sitesL f = l at H1 HL ⊢
  go_enter Try.func58, Try.ntmps58
  go_wp2_with fail
  refine H1.out.mono ?_
  rintro e w1 ⟨v, rfl, nu, hb1⟩
  have b1 : Below w.heap.size w w1 := hb0.trans (hb1.mono hb0.size)
  obtain ⟨A, c, rfl, hr⟩ := nu.reads
  obtain ⟨n, hn0⟩ : ∃ n, l.length = n := ⟨_, rfl⟩
  rw [hn0] at hr ⊢
  have HN := put hn0
  have hn1 : n ≤ 1000000 := by have := HL.out; omega
  clear nu H1 hb0 hb1 hn0
  go_wp2
  go_loopw [10] (fun i wr => ∃ k : Nat, k ≤ n ∧ i = .int .i64 k ∧ Hid (∀ y ∈ l.take k, y ≠ x) ∧ wr = w1) (fun i _ => n - (intOf i).toNat)
  case atStart => exact ⟨0, Nat.zero_le _, rfl, put (fun t h => by simp at h), rfl⟩
  case round =>
    obtain ⟨k, hk, rfl, hall, rfl⟩ := hrel
    by_cases hlt : k < n
    · obtain ⟨b, off, y, rfl, hb', hc1, hyt⟩ := hr.at_ hlt
      by_cases hy : y = x
      · subst hy
        have HA := put (ixOf_at hall.out hyt.out)
        go_wp2
        go_ret
        exact ⟨ret_int HA.out.symm, b1⟩
      · have H2 := put (no_more hall.out hyt.out hy)
        have hy1 := beq_of hy
        clear hy
        go_wp2
        go_roundw
        case rel => exact ⟨k + 1, by omega, by go_num, H2, trivial⟩
        case measure => simp [intOf]; omega
    · have hfin := put (show l.take k = l from List.take_of_length_le (by have := HN.out; omega))
      have HA := put (ixOf_no (l := l) (x := x) (by have := hall.out; rwa [hfin.out] at this))
      go_wp2
      go_ret
      exact ⟨ret_int HA.out.symm, b1⟩

theorem prog_go {fs : List Fc} (h : progB fs = true) {f : Fc} (hf : f ∈ fs) : go f f.stmts.length f.body false 0 = some f.stmts.length := by
  simp only [progB, Bool.and_eq_true, decide_eq_true_eq, List.all_eq_true] at h
  have hb := h.2 f hf
  simp only [funcB, shapeB, Bool.and_eq_true] at hb
  have h2 := hb.1.2
  unfold placesB at h2
  simpa using h2
theorem prog_stmts {fs : List Fc} (h : progB fs = true) {f : Fc} (hf : f ∈ fs) : f.stmts.length ≤ 16 := by
  simp only [progB, Bool.and_eq_true, decide_eq_true_eq, List.all_eq_true] at h
  have hb := h.2 f hf
  simp only [funcB, shapeB, headB, Bool.and_eq_true, decide_eq_true_eq] at hb
  omega

def soAns (fs : List Fc) (k st : Int) : Int × Bool := if hasF fs k then (match fs[k.toNat]? with | some f => if ixOf (sitesL f) st < 0 then (0, false) else (ixOf (sitesL f) st, true) | none => (0, false)) else (0, false)
theorem soAns_no {fs : List Fc} {k st : Int} (h : hasF fs k = false) : soAns fs k st = (0, false) := by simp [soAns, h]
theorem soAns_at {fs : List Fc} {q : Nat} {st : Int} {f : Fc} (h : hasF fs (q : Int) = true) (hf : fs[q]? = some f) : soAns fs (q : Int) st = if ixOf (sitesL f) st < 0 then (0, false) else (ixOf (sitesL f) st, true) := by
  unfold soAns
  rw [if_pos h, Int.toNat_natCast, hf]

end Go.Proofs.Ytpmpjiigmjnniaa

/-
  The code of a block, as plain mathematics; a row of instructions appended to another.
-/
namespace Go.Proofs.Ytpmpjiigmjnniaa
open Go.RowKit Exs

/-- The code of one statement, given that of blocks. -/
def stmtL (f : Fc) (rec : List Int → Int → List Token) (s : St) (n at_ : Int) : List Token :=
  if s.kind = 1 then lowE s.ex ++ [(3, s.n)] else if s.kind = 2 then lowE s.ex ++ [(8, 0)] else if s.kind = 9 then lowE s.ex ++ [(9, 0)] else if s.kind = 4 then lowE s.ex ++ [(13, 0)] else
  if s.kind = 5 then lowE s.ex ++ [(15, 0), (16, 0)] else if s.kind = 6 then [(14, 0)] else if s.kind = 3 then [(12, ixOf (sitesL f) n)] else
  if s.kind = 8 then
    lowE s.ex ++ [(11, at_ + s.ex.length + 1 + (rec s.th (at_ + s.ex.length + 1)).length + 1)] ++ rec s.th (at_ + s.ex.length + 1) ++ [(10, at_)]
  else
    lowE s.ex ++ [(11, at_ + s.ex.length + 1 + (rec s.th (at_ + s.ex.length + 1)).length + 1)] ++ rec s.th (at_ + s.ex.length + 1) ++
      [(10, at_ + s.ex.length + 1 + (rec s.th (at_ + s.ex.length + 1)).length + 1 + (rec s.el (at_ + s.ex.length + 1 + (rec s.th (at_ + s.ex.length + 1)).length + 1)).length)] ++ rec s.el (at_ + s.ex.length + 1 + (rec s.th (at_ + s.ex.length + 1)).length + 1)
def lowB (st : Int → Int → List Token) : List Int → Int → List Token
  | [], _ => []
  | n :: r, a => st n a ++ lowB st r (a + (st n a).length)
/-- The code of a statement that begins at a place, with fuel for its blocks. -/
def lowSt (f : Fc) : Nat → Int → Int → List Token
  | 0, _, _ => []
  | g + 1, n, a => match f.stmts[n.toNat]? with | some s => stmtL f (lowB (lowSt f g)) s n a | none => []
theorem lowSt_at {f : Fc} {g : Nat} {q : Nat} {a : Int} {s : St} (hs : f.stmts[q]? = some s) : lowSt f (g + 1) (q : Int) a = stmtL f (lowB (lowSt f g)) s q a := by simp [lowSt, hs]
theorem lowB_snoc (st : Int → Int → List Token) (n : Int) : ∀ (l : List Int) (a : Int), lowB st (l ++ [n]) a = lowB st l a ++ st n (a + (lowB st l a).length)
  | [], a => by simp [lowB]
  | m :: r, a => by
    simp only [List.cons_append, lowB, lowB_snoc st n r]
    rw [List.append_assoc, List.length_append]
    congr 3
    omega
theorem lowB_append (st : Int → Int → List Token) : ∀ (l m : List Int) (a : Int), ∃ b, lowB st (l ++ m) a = lowB st l a ++ lowB st m b
  | [], m, a => ⟨a, rfl⟩
  | n :: r, m, a => by
    obtain ⟨b, hb⟩ := lowB_append st r m (a + (st n a).length)
    exact ⟨b, by simp only [List.cons_append, lowB, hb, List.append_assoc]⟩
/-- No statement's expression is longer than twelve. -/
def Ex12 (f : Fc) : Prop := ∀ (j : Nat) (s : St), f.stmts[j]? = some s → s.ex.length ≤ 12
theorem stmtL_len {f : Fc} {rec : List Int → Int → List Token} {s : St} {n a : Int} {p q : Nat} (he : s.ex.length ≤ 12) (h1 : ∀ b, (rec s.th b).length ≤ p) (h2 : ∀ b, (rec s.el b).length ≤ q) : (stmtL f rec s n a).length ≤ 14 + p + q := by
  have hl := lowE_length s.ex
  unfold stmtL
  split
  · simp; omega
  split
  · simp; omega
  split
  · simp; omega
  split
  · simp; omega
  split
  · simp; omega
  split
  · simp; omega
  split
  · simp; omega
  split
  · have := h1 (a + s.ex.length + 1)
    simp; omega
  · have := h1 (a + s.ex.length + 1)
    have := h2 (a + s.ex.length + 1 + (rec s.th (a + s.ex.length + 1)).length + 1)
    simp; omega
theorem lowB_len {f : Fc} (he : Ex12 f) : ∀ (g : Nat) (l : List Int) (a : Int), (∀ n ∈ l, 0 ≤ n ∧ n < f.stmts.length) → Nest f → (lowB (lowSt f g) l a).length ≤ 14 * (ord f g l).length
  | 0, [], _, _, _ => by simp [lowB]
  | 0, n :: r, a, h, hn => by
    have := lowB_len he 0 r (a + (lowSt f 0 n a).length) (fun m hm => h m (by simp [hm])) hn
    have h0 : ord f 0 r = [] := by cases r <;> (unfold ord; rfl)
    have h1 : ord f 0 (n :: r) = [] := by unfold ord; rfl
    rw [h0] at this
    simp [lowB, lowSt, h1] at this ⊢
    exact this
  | g + 1, [], _, _, _ => by simp [lowB]
  | g + 1, n :: r, a, h, hn => by
    have hin := h n (by simp)
    obtain ⟨q, rfl⟩ : ∃ q : Nat, n = q := ⟨n.toNat, by omega⟩
    obtain ⟨s, hs⟩ := at_of_range (f := f) (n := (q : Int)) (by omega) hin.2
    have hs' : f.stmts[q]? = some s := by simpa using hs
    rw [ord_cons hs]
    have hnest := hn q s hs'
    have h1 : ∀ b, (lowB (lowSt f g) s.th b).length ≤ 14 * (ord f g s.th).length := fun b => lowB_len he g s.th b (fun m hm => by have := hnest m (.inl hm); omega) hn
    have h2 : ∀ b, (lowB (lowSt f g) s.el b).length ≤ 14 * (ord f g s.el).length := fun b => lowB_len he g s.el b (fun m hm => by have := hnest m (.inr hm); omega) hn
    have h3 := stmtL_len (f := f) (n := (q : Int)) (a := a) (he q s hs') h1 h2
    have h4 := lowB_len he (g + 1) r (a + (lowSt f (g + 1) q a).length) (fun m hm => h m (by simp [hm])) hn
    simp only [lowB, lowSt_at hs', List.length_append, List.length_cons] at h4 ⊢
    omega
  termination_by g l => (g, l.length)
theorem stmtL_one {f : Fc} {rec : List Int → Int → List Token} {s : St} {n a : Int} {x : Token} (h : (s.kind = 1 ∧ x = (3, s.n)) ∨ (s.kind = 2 ∧ x = (8, 0)) ∨ (s.kind = 9 ∧ x = (9, 0)) ∨ (s.kind = 4 ∧ x = (13, 0))) : stmtL f rec s n a = lowE s.ex ++ [x] := by
  unfold stmtL
  rcases h with ⟨h, rfl⟩ | ⟨h, rfl⟩ | ⟨h, rfl⟩ | ⟨h, rfl⟩ <;> simp [h]

/-- 'append(out, ys...)', ys a row of instructions of the call's own. -/
theorem wpList_append_inss {w : World} {ops : Array Oper} {rest : List Oper} {o : Oper} {a : Act} {Q : Exit → Act → World → Prop} (hgd : o.guard = none) (s x : Operand)
    (ho : o.op = .call { callee := .builtin .append, args := #[s, x], argTypes := #[36, 36] }) (B : Nat) (v : Value) (ts : List Token) (hs : a.eval s = v) (w0 : World) (hbel : Below B w0 w) (hB : B ≤ w.heap.size) (hown : Inss w B v ts)
    (B' : Nat) (u : Value) (us : List Token) (hx : a.eval x = u) (hu : Inss w B' u us) (hlen : ts.length ≤ 1000000) (hlen' : us.length ≤ 1000000)
    (h : ∀ v' w', Inss w' B v' (ts ++ us) → Below B w0 w' → wpList Try.prog ops Q rest (a.put o.dst v') w') : wpList Try.prog ops Q (o :: rest) a w := by
  obtain ⟨i0, hi, hz0, hz1, hz2⟩ := info_parts Try.info69
  rcases hu.2 with ⟨rfl, h0⟩ | ⟨g, cap, cur, rfl, _⟩
  · obtain rfl : us = [] := List.eq_nil_of_length_eq_zero h0
    exact wpList_append_own_none hgd s x 36 ho B 69 i0 2 Try.underlying36 hi v ts.length _ hs hown hx (h _ _ (by simpa using hown) hbel)
  · refine wpList_append_own w hgd s x 36 ho B 69 i0 (.agg #[.int .i64 0, .int .i64 0]) 2 16 Try.underlying36 hi hz0 hz1 hz2 rfl (by decide) v ts.length _ hs hown ⟨g, 0, none⟩ us.length cap ((flat us).map (Value.int .i64)) hx (by rw [List.length_map, flat_length]; omega) ?_ ?_ ?_ ?_ hB ?_
    · intro j y hj
      have hadd : (⟨g, 0, none⟩ : Addr).add j = ⟨g, j, none⟩ := by unfold Addr.add; split <;> simp_all
      have hjl : j < us.length * 2 := by have := (List.getElem?_eq_some_iff.1 hj).1; rw [List.length_map, flat_length] at this; omega
      rw [hadd, World.ownsRow.cellAt hu j hjl, hj]
    · intro y hy
      obtain ⟨z, _, rfl⟩ := List.mem_map.1 hy
      rfl
    · unfold maxLen; omega
    · omega
    · intro v' w' h1 h2 _
      refine h v' w' ?_ (hbel.grown h2 hB fun j hj => (World.ownsRow.lt hown j hj).1)
      unfold Inss
      have e : flat (ts ++ us) = flat ts ++ flat us := by simp [flat]
      rw [e, List.map_append, List.length_append]
      exact h1

end Go.Proofs.Ytpmpjiigmjnniaa

/-
  Texts joined: Alone Put CalM Cal CalI PrMath.
-/
import Derived.Test.YtpmpjiigmjnniaaGreatJSitI
import Derived.Test.YtpmpjiigmjnniaaGreatJSpA
import Derived.Test.YtpmpjiigmjnniaaGreatJSpO
import Derived.Test.YtpmpjiigmjnniaaGreatJPEq4
/-
  The reference's SitesOf and OrderOf: contracts.
-/
namespace Go.Proofs.YtpmpjiigmjnniaaGreat
open Go.RowKit Exs

theorem alone_order {f : Fc} (h : aloneB f = true) : Nest f ∧ (∀ n ∈ f.body, ((0 : Nat) : Int) ≤ n ∧ n < f.stmts.length) ∧ ord f f.stmts.length f.body = run 0 f.stmts.length := by
  obtain ⟨n, _, hp⟩ := (alone_iff f).1 h
  exact ⟨nest_of_blocks hp.2.1, body_of_blocks hp.2.1, hp.2.2.2.1⟩

end Go.Proofs.YtpmpjiigmjnniaaGreat

/-
  The reference's l1Put: its contract, and plain maths of it.
-/
namespace Go.Proofs.YtpmpjiigmjnniaaGreat
open Go.RowKit Exs

/-- 'append(xs, ys...)' of a row of numbers that is not nil and a slice that is read. -/
theorem wpList_append_reads {P : Program} {w : World} {ops : Array Oper} {rest : List Oper} {o : Oper} {a : Act} {Q : Exit → Act → World → Prop} (hgd : o.guard = none) (s x : Operand) (t : TypeId)
    (ho : o.op = .call { callee := .builtin .append, args := #[s, x], argTypes := #[t, t] })
    (B : Nat) (e : TypeId) (k : IntKind) (bytes : Nat) (hinfo : (P.info? e).map (fun i => (i.zero, i.size, i.bytes)) = some (some (.int k 0), 1, bytes)) (ht : P.underlying t = some (.slice e)) (hby : bytes ≤ 8)
    (v : Value) (xs : List Int) (hs : a.eval s = v) (hB : B ≤ w.heap.size) (hown : Nums w B e k v xs) (hv : v ≠ .slice none 0 0)
    (A : Option Addr) (m c : Nat) (us : List Int) (hx : a.eval x = .slice A m c) (hc : A = none → c = 0) (hu : Reads w w.heap.size k A m us) (hlen : xs.length ≤ 100000) (hlen' : m ≤ 100000)
    (h : ∀ v' w', Nums w' B e k v' (xs ++ us) → Below B w w' → v' ≠ .slice none 0 0 → wpList P ops Q rest (a.put o.dst v') w') : wpList P ops Q (o :: rest) a w := by
  obtain ⟨i0, hi, hz0, hz1, hz2⟩ := info_parts hinfo
  refine wpList_plain hgd fun K hK => ?_
  cases A with
  | none =>
    obtain rfl := hc rfl
    obtain rfl : m = 0 := by
      rcases Nat.eq_zero_or_pos m with h0 | h0
      · exact h0
      · obtain ⟨_, _, hA, _⟩ := hu.2 h0; cases hA
    obtain rfl : us = [] := List.eq_nil_of_length_eq_zero hu.1
    rcases hown.2 with ⟨h1, _⟩ | ⟨g', cap', cur', rfl, _, _, hc', _⟩
    · exact absurd h1 hv
    · unfold Oper.wp execOp
      have hr := run_append_none (P := P) w t o.type e i0 ht hi ⟨g', 0, none⟩ xs.length cap' hc'
      simp only [ho, resolve, invoke, builtin, Sem.run_bind, Sem.run_pure, Result.andThen_ok, List.map_toArray, List.map_cons, List.map_nil, hs, hx, hr]
      exact hK _ _ (h _ _ (by simpa using hown) (Below.refl _ _) hv)
  | some ad =>
    refine wp_append_own w s x t ho B e i0 (.int k 0) 1 bytes ht hi hz0 hz1 hz2 rfl (by decide) v xs.length _ hs hown ad m c (us.map (Value.int k)) hx (by simp [hu.1]) ?_ (nums_oneCell k us) ?_ ?_ hB ?_
    · intro j y hj
      have hjl : j < us.length := by have := (List.getElem?_eq_some_iff.1 hj).1; simpa using this
      obtain ⟨b, off, hA, _, hcell⟩ := hu.2 (by rw [← hu.1]; omega)
      injection hA with hA
      subst hA
      have hadd : (⟨b, off, none⟩ : Addr).add j = ⟨b, off + j, none⟩ := by unfold Addr.add; split <;> simp_all
      have hx' := hcell j _ (List.getElem?_eq_getElem hjl)
      rw [hadd, hx']
      simp [List.getElem?_eq_getElem hjl] at hj
      rw [hj]
    · unfold maxLen; omega
    · have : (xs.length + m) * bytes ≤ (xs.length + m) * 8 := Nat.mul_le_mul_left _ hby
      omega
    · intro v' w' h1 h2 h3
      refine hK _ _ (h v' w' (by unfold Nums; simpa [hu.1] using h1) ((Below.refl B w).grown h2 hB fun j hj => (World.ownsRow.lt hown j hj).1) (fun e => hv (h3.1 e).1))

def putL (l : List Int) (n : Int) : List Int :=
  match l with
  | [] => [n]
  | x :: r => if x < n then x :: putL r n else if x = n then x :: r else n :: x :: r
theorem putL_at {n : Int} : ∀ {l : List Int} {k : Nat}, (∀ (i : Nat) (x : Int), i < k → l[i]? = some x → x < n) → k ≤ l.length → (∀ x, l[k]? = some x → ¬ x < n) →
    putL l n = if l[k]? = some n then l else l.take k ++ [n] ++ l.drop k
  | [], k, _, hk, _ => by obtain rfl : k = 0 := by simpa using hk
                          simp [putL]
  | x :: r, 0, _, _, h => by
    have h0 := h x rfl
    simp only [putL, if_neg h0, List.getElem?_cons_zero, Option.some.injEq]
    split <;> simp
  | x :: r, k + 1, ha, hk, h => by
    have h0 := ha 0 x (by omega) rfl
    have ih := putL_at (n := n) (l := r) (k := k) (fun i y hi hy => ha (i + 1) y (by omega) (by simpa using hy)) (by simpa using hk) (fun y hy => h y (by simpa using hy))
    simp only [putL, if_pos h0, ih, List.getElem?_cons_succ]
    split <;> simp
theorem putL_length (n : Int) : ∀ l : List Int, (putL l n).length ≤ l.length + 1
  | [] => by simp [putL]
  | x :: r => by
    have := putL_length n r
    simp only [putL]
    split
    · simp; omega
    · split <;> simp

theorem Reads.take_ {w : World} {B : Nat} {k : IntKind} {A : Option Addr} {n : Nat} {xs : List Int} (h : Reads w B k A n xs) {j : Nat} (hj : j ≤ n) : Reads w B k A j (xs.take j) :=
  ⟨by rw [List.length_take, h.1]; omega, fun h0 => by
    obtain ⟨b, off, rfl, hb, hc⟩ := h.2 (by omega)
    refine ⟨b, off, rfl, hb, fun i x hx => hc i x ?_⟩
    rw [List.getElem?_take] at hx
    split at hx
    · exact hx
    · cases hx⟩
theorem Reads.drop_ {w : World} {B : Nat} {k : IntKind} {b off : Nat} {n : Nat} {xs : List Int} (h : Reads w B k (some ⟨b, off, none⟩) n xs) {j : Nat} (hj : j ≤ n) : Reads w B k (some ⟨b, off + j, none⟩) (n - j) (xs.drop j) :=
  ⟨by rw [List.length_drop, h.1], fun h0 => by
    obtain ⟨b', off', hA, hb, hc⟩ := h.2 (by omega)
    injection hA with hA
    injection hA with h1 h2 _
    subst h1 h2
    refine ⟨b, off + j, rfl, hb, fun i x hx => ?_⟩
    rw [List.getElem?_drop] at hx
    rw [Nat.add_assoc]
    exact hc _ x hx⟩
theorem Nums.empty (w : World) (e : TypeId) (k : IntKind) : Nums (w.alloc (.cells #[] e)) w.heap.size e k (.slice (some ⟨w.heap.size, 0, none⟩) 0 0) [] :=
  Nums.of_room (xs := []) ⟨#[], heap_alloc_new _ _, rfl, rfl⟩ (Nat.le_refl _) (Nat.le_refl _) (by unfold maxLen; omega)

end Go.Proofs.YtpmpjiigmjnniaaGreat

/-
  The functions that a function names: plain maths.
-/
namespace Go.Proofs.YtpmpjiigmjnniaaGreat
open Go.RowKit Exs

def callN (t : Token) : List Int := if t.1 = 11 then [t.2] else []
def putN (s : St) : List Int := if s.kind = 3 then [s.n] else []
def stN (s : St) : List Int := putN s ++ s.ex.flatMap callN
def fnN (f : Fc) : List Int := f.stmts.flatMap stN
/-- Those of 0 to 4 that are in a list. -/
def namedL (S : List Int) : List Int := [(0 : Int), 1, 2, 3, 4].filter fun x => decide (x ∈ S)
def namedTo (k : Nat) (S : List Int) : List Int := ([(0 : Int), 1, 2, 3, 4].take k).filter fun x => decide (x ∈ S)
theorem namedL_length (S : List Int) : (namedL S).length ≤ 5 := List.length_filter_le _ _
theorem namedTo_length (k : Nat) (S : List Int) : (namedTo k S).length ≤ 5 := by
  have h1 := List.length_filter_le (fun x => decide (x ∈ S)) ([(0 : Int), 1, 2, 3, 4].take k)
  have h2 := List.length_take_le k [(0 : Int), 1, 2, 3, 4]
  unfold namedTo
  simp only [List.length_take, List.length_cons, List.length_nil] at h1
  omega
theorem five_more : ∀ k : Nat, k < 5 → [(0 : Int), 1, 2, 3, 4].take (k + 1) = [(0 : Int), 1, 2, 3, 4].take k ++ [(k : Int)]
  | 0, _ => rfl
  | 1, _ => rfl
  | 2, _ => rfl
  | 3, _ => rfl
  | 4, _ => rfl
  | k + 5, h => absurd h (by omega)
theorem namedTo_more (S : List Int) (k : Nat) (hk : k < 5) : namedTo (k + 1) S = namedTo k S ++ (if (k : Int) ∈ S then [(k : Int)] else []) := by
  unfold namedTo
  rw [five_more k hk, List.filter_append]
  by_cases h : (k : Int) ∈ S <;> simp [h]
theorem filter_put (p : Int → Bool) (n : Int) (h0 : 0 ≤ n) (h5 : n < 5) : putL ([(0 : Int), 1, 2, 3, 4].filter p) n = [(0 : Int), 1, 2, 3, 4].filter fun x => p x || decide (x = n) := by
  simp only [List.filter]
  rcases (show n = 0 ∨ n = 1 ∨ n = 2 ∨ n = 3 ∨ n = 4 by omega) with rfl | rfl | rfl | rfl | rfl <;>
    (cases p 0 <;> cases p 1 <;> cases p 2 <;> cases p 3 <;> cases p 4 <;> simp [putL])
theorem namedL_put {S : List Int} {n : Int} (h0 : 0 ≤ n) (h5 : n < 5) : putL (namedL S) n = namedL (S ++ [n]) := by
  unfold namedL
  rw [filter_put _ n h0 h5]
  congr 1
  funext x
  by_cases h : x ∈ S <;> simp [h]

/-- Whether each of 0 to 4 is in a list, as cells. -/
def flags (S : List Int) : Array Value := #[.bool (decide ((0 : Int) ∈ S)), .bool (decide ((1 : Int) ∈ S)), .bool (decide ((2 : Int) ∈ S)), .bool (decide ((3 : Int) ∈ S)), .bool (decide ((4 : Int) ∈ S))]
theorem flags_set (S : List Int) : ∀ q : Nat, q < 5 → (flags S).setIfInBounds q (.bool true) = flags (S ++ [(q : Int)])
  | 0, _ => by simp [flags]
  | 1, _ => by simp [flags]
  | 2, _ => by simp [flags]
  | 3, _ => by simp [flags]
  | 4, _ => by simp [flags]
  | q + 5, h => absurd h (by omega)
theorem flags_at (S : List Int) : ∀ q : Nat, q < 5 → (flags S)[q]? = some (.bool (decide ((q : Int) ∈ S)))
  | 0, _ => by simp [flags]
  | 1, _ => by simp [flags]
  | 2, _ => by simp [flags]
  | 3, _ => by simp [flags]
  | 4, _ => by simp [flags]
  | q + 5, h => absurd h (by omega)

theorem pile_known {vars : Int} {ps : List Int} : ∀ {e : List Token} {p m : Int} {q : Int × Int}, pile vars ps e p m = some q → ∀ t ∈ e, known vars ps t
  | [], _, _, _, _, t, ht => by cases ht
  | x :: r, p, m, q, h, t, ht => by
    obtain ⟨h1, _, h3⟩ := pile_cons h
    rcases List.mem_cons.1 ht with rfl | ht
    · exact h1
    · exact pile_known h3 t ht
theorem ge_known {e : List Token} {vars : Int} {ps : List Int} (h : ge e vars ps = true) : ∀ t ∈ e, known vars ps t := by
  unfold ge highAns at h
  split at h
  · rename_i hg
    exact pile_known (high_pos hg.2.2.1.2 hg.2.2.2).1
  · cases h
theorem names_in {f : Fc} {ps : List Int} (h5 : ps.length ≤ 5) (h : shapeB f = true) (he : exprsB f ps = true) : ∀ s ∈ f.stmts, ∀ n ∈ stN s, 0 ≤ n ∧ n < 5 := by
  intro s hs n hn
  simp only [shapeB, Bool.and_eq_true, List.all_eq_true] at h
  have hf := (fieldsB_iff s f.vars).1 (h.1.1.2 s hs)
  simp only [exprsB, List.all_eq_true] at he
  have hx := (exB_iff f.vars ps s).1 (he s hs)
  rcases List.mem_append.1 hn with hn | hn
  · unfold putN at hn
    split at hn
    · rename_i h3
      simp at hn
      have := hf.2.2.2.2.2
      simp only [manyN, h3] at this
      simp at this
      omega
    · cases hn
  · obtain ⟨t, ht, hnt⟩ := List.mem_flatMap.1 hn
    unfold callN at hnt
    split at hnt
    · rename_i h11
      simp at hnt
      subst hnt
      rcases hx with hx | hx
      · have := hf.2.2.2.2.1 hx
        have := List.eq_nil_of_length_eq_zero this
        rw [this] at ht
        cases ht
      · have hk := ge_known hx t ht
        have := kn_call (vars := f.vars) (ps := ps) (op := t.1) (n := t.2) (by unfold knB; exact decide_eq_true hk) h11
        omega
    · cases hnt
theorem names_prog {fs : List Fc} (h : progB fs = true) {f : Fc} (hf : f ∈ fs) : ∀ s ∈ f.stmts, ∀ n ∈ stN s, 0 ≤ n ∧ n < 5 := by
  have h5 := h
  simp only [progB, Bool.and_eq_true, decide_eq_true_eq, List.all_eq_true] at h5
  have hb := h5.2 f hf
  simp only [funcB, Bool.and_eq_true] at hb
  exact names_in (by simp [paramsL]; omega) hb.1 hb.2.1

def callAns (fs : List Fc) (fn : Int) : List Int × Bool := if hasF fs fn then (match fs[fn.toNat]? with | some f => namedL (fnN f) | none => [], true) else ([], false)
theorem callAns_len (fs : List Fc) (fn : Int) : (callAns fs fn).1.length ≤ 1048576 := by
  unfold callAns
  split
  · split
    · have := namedL_length (fnN ‹Fc›); simp only; omega
    · simp
  · simp
theorem flat_more {α β : Type} {g : α → List β} {xs : List α} {k : Nat} {x : α} (h : xs[k]? = some x) : (xs.take (k + 1)).flatMap g = (xs.take k).flatMap g ++ g x := by
  rw [takeA_more h]; simp
theorem mem_callN {s : St} {t : Token} (h : t ∈ s.ex) (h11 : t.1 = 11) : t.2 ∈ stN s := by
  unfold stN
  rw [List.mem_append]
  exact .inr (List.mem_flatMap.2 ⟨t, h, by simp [callN, h11]⟩)
theorem mem_putN {s : St} (h : s.kind = 3) : s.n ∈ stN s := by
  unfold stN
  rw [List.mem_append]
  exact .inl (by simp [putN, h])

end Go.Proofs.YtpmpjiigmjnniaaGreat

/-
  CallsOf on both sides: contracts.
-/
namespace Go.Proofs.YtpmpjiigmjnniaaGreat
open Go.RowKit Exs

end Go.Proofs.YtpmpjiigmjnniaaGreat

/-
  The program's CallsOf: its contract.
-/
namespace Go.Proofs.YtpmpjiigmjnniaaGreat
open Go.RowKit Exs

theorem flags_nil : flags [] = #[.bool false, .bool false, .bool false, .bool false, .bool false] := by simp [flags]
theorem namedTo_all (S : List Int) : namedTo 5 S = namedL S := rfl

end Go.Proofs.YtpmpjiigmjnniaaGreat

/-
  Plain mathematics: a function of a good program is good by itself.
-/
namespace Go.Proofs.YtpmpjiigmjnniaaGreat
open Go.RowKit Exs

theorem needs_more {vars : Int} {ps : List Int} (qs : List Int) {t : Token} (h : Exs.known vars ps t) : needs (ps ++ qs) t = needs ps t := by
  unfold needs
  split
  · rfl
  · split
    · rename_i h11
      have h2 := h.2.2 h11
      by_cases hl : t.2.toNat < ps.length
      · rw [List.getD_eq_getElem?_getD, List.getD_eq_getElem?_getD, List.getElem?_append_left hl]
      · have h3 := h.1
        unfold goodTok at h3
        omega
    · rfl
theorem known_more {vars : Int} {ps : List Int} (qs : List Int) {t : Token} (h : Exs.known vars ps t) : Exs.known vars (ps ++ qs) t :=
  ⟨h.1, h.2.1, fun h11 => by have := h.2.2 h11; rw [List.length_append]; omega⟩
theorem pile_more {vars : Int} {ps : List Int} (qs : List Int) : ∀ (e : List Token) (p m : Int) (q : Int × Int), pile vars ps e p m = some q → pile vars (ps ++ qs) e p m = some q
  | [], _, _, _, h => h
  | t :: r, p, m, q, h => by
    obtain ⟨hk, hn, hr⟩ := pile_cons h
    rw [pile, needs_more qs hk, if_pos ⟨known_more qs hk, hn⟩]
    exact pile_more qs r _ _ q hr
theorem ge_more {ts : List Token} {vars : Int} {ps : List Int} (qs : List Int) (h : ge ts vars ps = true) (hp : okParams (ps ++ qs)) : ge ts vars (ps ++ qs) = true := by
  unfold ge highAns at h ⊢
  split at h
  · rename_i hg
    obtain ⟨h0, h6, hok, hh⟩ := hg
    have hq := (high_pos hok.2 hh)
    have : high vars (ps ++ qs) ts = high vars ps ts := by
      have e := pile_more qs _ _ _ _ hq.1
      conv => lhs; unfold high
      rw [e]
      simp [hq.2.1]
    rw [if_pos ⟨h0, h6, hp, by rw [this]; exact hh⟩]
  · cases h
theorem exprs_more {f : Fc} {ps : List Int} (qs : List Int) (h : exprsB f ps = true) (hp : okParams (ps ++ qs)) : exprsB f (ps ++ qs) = true := by
  unfold exprsB at h ⊢
  rw [List.all_eq_true] at h ⊢
  intro s hs
  have := h s hs
  unfold exB at this ⊢
  rw [Bool.or_eq_true] at this ⊢
  exact this.imp id (fun h => ge_more qs h hp)
theorem prog_alone {fs : List Fc} (h : progB fs = true) {f : Fc} (hf : f ∈ fs) : aloneB f = true := by
  have hS : progS fs = true := by rw [progS_eq]; exact h
  have hP := (progS_iff fs).1 hS
  have hpar := (parB_iff _).1 hP.2.1
  simp only [progB, Bool.and_eq_true, decide_eq_true_eq, List.all_eq_true] at h
  have hfb := h.2 f hf
  simp only [funcB, Bool.and_eq_true] at hfb
  have hlen : (paramsL fs).length ≤ 5 := hpar.1
  unfold aloneB
  rw [Bool.and_eq_true]
  refine ⟨hfb.1, (fit_iff f 5 []).2 ⟨paramsL fs ++ List.replicate (5 - (paramsL fs).length) 0, by simp; omega, ?_, ?_⟩⟩
  · intro q hq
    rcases List.mem_append.1 hq with hq | hq
    · exact hpar.2 q hq
    · have := (List.mem_replicate.1 hq).2; omega
  · rw [List.nil_append]
    refine exprs_more _ hfb.2.1 ⟨by simp; omega, fun q hq => ?_⟩
    rcases List.mem_append.1 hq with hq | hq
    · exact hpar.2 q hq
    · have := (List.mem_replicate.1 hq).2; omega
/-- What is told of a function that is there in a good program. -/
theorem call_told {fs : List Fc} {fn : Int} (h : (callAns fs fn).2 = true) : ∃ (k : Nat) (f : Fc), fn = k ∧ fs[k]? = some f ∧ ordAns f = (run 0 f.stmts.length, true) ∧ siteAns f = (sitesL f, true) ∧ (sitesL f).length ≤ 4 := by
  unfold callAns at h
  split at h
  · rename_i hh
    unfold hasF at hh
    rw [Bool.and_eq_true, decide_eq_true_eq] at hh
    obtain ⟨k, rfl⟩ := Int.eq_ofNat_of_zero_le hh.1.1
    have hk : k < fs.length := by have := hh.1.2; omega
    have hal := prog_alone hh.2 (List.getElem_mem hk)
    have hsh := (alone_head hal).2
    simp only [shapeB, Bool.and_eq_true, decide_eq_true_eq] at hsh
    refine ⟨k, fs[k], rfl, List.getElem?_eq_getElem hk, by unfold ordAns; rw [if_pos hal], by unfold siteAns; rw [if_pos hal], ?_⟩
    rw [show (sitesL fs[k]).length = manyD fs[k].stmts from sites_many _ _]
    exact hsh.1.2
  · cases h
theorem par_told (fs : List Fc) : (parAns fs).2 = progB fs := by
  unfold parAns
  split
  · rename_i h; exact h.symm
  · rename_i h; simp only; exact (Bool.not_eq_true _).mp h |>.symm

end Go.Proofs.YtpmpjiigmjnniaaGreat

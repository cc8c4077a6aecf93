/-
  Texts joined: PEq PEq2 PEq3.
-/
import Derived.Test.YtpmpjiigmjnniaaGreatJSpO
import Derived.Test.YtpmpjiigmjnniaaGreatJSpB
import Derived.Test.YtpmpjiigmjnniaaGreatJRange
/-
  The two sides' tests of a function's blocks say the same: the walk goes through just where the reference finds each statement in one block and all in order.
-/
namespace Go.Proofs.YtpmpjiigmjnniaaGreat
open Go.RowKit Exs

/-- m numbers from k on. -/
def run (k m : Nat) : List Int := (List.range' k m).map fun (i : Nat) => (i : Int)
theorem run_zero (k : Nat) : run k 0 = [] := rfl
theorem run_succ (k m : Nat) : run k (m + 1) = (k : Int) :: run (k + 1) m := by simp [run, List.range'_succ]
theorem run_add (k a b : Nat) : run k (a + b) = run k a ++ run (k + a) b := by
  unfold run
  rw [← List.map_append, List.range'_append_1]
theorem run_length (k m : Nat) : (run k m).length = m := by simp [run]
theorem run_mem {k m : Nat} {x : Int} : x ∈ run k m ↔ (k : Int) ≤ x ∧ x < k + m := by
  unfold run
  simp only [List.mem_map, List.mem_range'_1]
  constructor
  · rintro ⟨i, hi, rfl⟩; omega
  · rintro ⟨h1, h2⟩; exact ⟨x.toNat, by omega, by omega⟩
/-- A run that falls into two parts. -/
theorem run_split {k m : Nat} {a b : List Int} (h : run k m = a ++ b) : a = run k a.length ∧ b = run (k + a.length) b.length ∧ a.length + b.length = m := by
  have hl : a.length + b.length = m := by have := congrArg List.length h; rw [run_length, List.length_append] at this; omega
  rw [← hl, run_add] at h
  have := List.append_inj h (by rw [run_length])
  exact ⟨this.1.symm, this.2.symm, hl⟩

/-- What the reference asks of loops. -/
def Calm (f : Fc) (fuel : Nat) (k m : Nat) : Prop := ∀ (j : Nat) (s : St), k ≤ j → j < k + m → f.stmts[j]? = some s → s.kind = 8 → s.el = [] ∧ ∀ x ∈ ord f fuel s.th, ∀ s', f.stmts[x.toNat]? = some s' → s'.kind ≠ 3

/-- Enough fuel is enough. -/
theorem ord_fuel {f : Fc} (hn : Nest f) : ∀ (fuel fuel' : Nat) (block : List Int) (lo : Nat), (∀ n ∈ block, (lo : Int) ≤ n ∧ n < f.stmts.length) → f.stmts.length ≤ fuel + lo → f.stmts.length ≤ fuel' + lo → ord f fuel block = ord f fuel' block := by
  intro fuel
  induction fuel with
  | zero =>
    intro fuel' block lo hb h1 _
    cases block with
    | nil => rw [ord_nil, ord_nil]
    | cons n r => have := hb n (by simp); omega
  | succ fuel ih =>
    intro fuel' block lo hb h1 h2
    induction block with
    | nil => rw [ord_nil, ord_nil]
    | cons n r ihr =>
      have hnb := hb n (by simp)
      obtain ⟨s, hs⟩ := at_of_range (f := f) (n := n) (by omega) hnb.2
      cases fuel' with
      | zero => omega
      | succ fuel' =>
        rw [ord_cons hs, ord_cons hs, ihr (fun x hx => hb x (by simp [hx]))]
        have hth := ih fuel' s.th (n.toNat + 1) (fun x hx => by have := hn _ _ hs x (.inl hx); omega) (by omega) (by omega)
        have hel := ih fuel' s.el (n.toNat + 1) (fun x hx => by have := hn _ _ hs x (.inr hx); omega) (by omega) (by omega)
        rw [hth, hel]

/-- From the reference's order to the walk. -/
theorem go_of_ord {f : Fc} (hn : Nest f) (F : Nat) (hF : f.stmts.length ≤ F) : ∀ (fuel : Nat) (block : List Int) (b : Bool) (k m lo : Nat), (∀ n ∈ block, (lo : Int) ≤ n ∧ n < f.stmts.length) → f.stmts.length ≤ fuel + lo → ord f fuel block = run k m →
    (b = true → ∀ (j : Nat) (s : St), k ≤ j → j < k + m → f.stmts[j]? = some s → s.kind ≠ 3) → Calm f F k m → go f fuel block b k = some (k + m) := by
  intro fuel
  induction fuel with
  | zero =>
    intro block b k m lo hb h1 ho _ _
    cases block with
    | nil =>
      rw [ord_nil] at ho
      have : m = 0 := by have := congrArg List.length ho; rw [run_length] at this; simpa using this.symm
      rw [go_nil, this]; rfl
    | cons n r => have := hb n (by simp); omega
  | succ fuel ih =>
    intro block
    induction block with
    | nil =>
      intro b k m lo hb h1 ho _ _
      rw [ord_nil] at ho
      have : m = 0 := by have := congrArg List.length ho; rw [run_length] at this; simpa using this.symm
      rw [go_nil, this]; rfl
    | cons n r ihr =>
      intro b k m lo hb h1 ho hbk hcalm
      have hnb := hb n (by simp)
      obtain ⟨s, hs⟩ := at_of_range (f := f) (n := n) (by omega) hnb.2
      rw [ord_cons hs] at ho
      cases m with
      | zero => rw [run_zero] at ho; simp at ho
      | succ m =>
        rw [run_succ, List.cons_append] at ho
        injection ho with hnk ho
        subst hnk
        simp only [Int.toNat_natCast] at hs
        obtain ⟨e12, e3, hl⟩ := run_split ho.symm
        obtain ⟨e1, e2, hl2⟩ := run_split e12.symm
        have hk : ((b = true) → s.kind ≠ 3) := fun h => hbk h k s (Nat.le_refl _) (by omega) hs
        have hok : okAt f k (k : Int) b = true := by
          unfold okAt
          rw [hs]
          cases b
          · simp
          · simpa using hk rfl
        rw [go_on hok hs]
        have hll : (ord f fuel s.th ++ ord f fuel s.el).length = (ord f fuel s.th).length + (ord f fuel s.el).length := List.length_append
        have hfu : ord f fuel s.th = ord f F s.th := ord_fuel hn fuel F s.th (k + 1) (fun x hx => by have := hn _ _ hs x (.inl hx); omega) (by omega) (by omega)
        have hw8 := hcalm k s (Nat.le_refl _) (by omega) hs
        have g1 := ih s.th (b || decide (s.kind = 8)) (k + 1) (ord f fuel s.th).length (k + 1) (fun x hx => by have := hn _ _ hs x (.inl hx); omega) (by omega) e1
          (fun hbb j s' h1 h2 hj => by
            cases b with
            | true => exact hbk rfl j s' (by omega) (by omega) hj
            | false =>
              have h8 : s.kind = 8 := by simpa using hbb
              have hx : (j : Int) ∈ ord f F s.th := by rw [← hfu, e1, run_mem]; omega
              exact (hw8 h8).2 _ hx s' (by simpa using hj))
          (fun j s' h1 h2 => hcalm j s' (by omega) (by omega))
        rw [g1, Option.bind_some]
        have g2 := ih s.el (b || decide (s.kind = 8)) (k + 1 + (ord f fuel s.th).length) (ord f fuel s.el).length (k + 1) (fun x hx => by have := hn _ _ hs x (.inr hx); omega) (by omega) e2
          (fun hbb j s' h1 h2 hj => by
            cases b with
            | true => exact hbk rfl j s' (by omega) (by omega) hj
            | false =>
              have h8 : s.kind = 8 := by simpa using hbb
              have : ord f fuel s.el = [] := by rw [(hw8 h8).1, ord_nil]
              rw [this] at h2; simp at h2; omega)
          (fun j s' h1 h2 => hcalm j s' (by omega) (by omega))
        rw [g2, Option.bind_some]
        have g3 := ihr b (k + 1 + (ord f fuel s.th).length + (ord f fuel s.el).length) (ord f (fuel + 1) r).length lo (fun x hx => hb x (by simp [hx])) h1 (by rw [e3, run_length, hll]; congr 1; omega)
          (fun h j s' h1 h2 => hbk h j s' (by omega) (by omega)) (fun j s' h1 h2 => hcalm j s' (by omega) (by omega))
        rw [g3]
        congr 1
        omega

end Go.Proofs.YtpmpjiigmjnniaaGreat

/-
  From the walk to the reference's tests.
-/
namespace Go.Proofs.YtpmpjiigmjnniaaGreat
open Go.RowKit Exs

/-- What m statements from k on hold in their blocks. -/
def kids (f : Fc) (k m : Nat) : List Int := ((f.stmts.drop k).take m).flatMap fun s => s.th ++ s.el
theorem kids_add (f : Fc) (k a b : Nat) : kids f k (a + b) = kids f k a ++ kids f (k + a) b := by
  unfold kids
  rw [← List.flatMap_append]
  congr 1
  rw [← List.drop_drop, List.take_add]
theorem kids_zero (f : Fc) (k : Nat) : kids f k 0 = [] := by simp [kids]
theorem kids_one {f : Fc} {k : Nat} {s : St} (h : f.stmts[k]? = some s) : kids f k 1 = s.th ++ s.el := by
  have hl := (List.getElem?_eq_some_iff.1 h).1
  unfold kids
  rw [List.drop_eq_getElem_cons hl]
  have : f.stmts[k] = s := by rw [List.getElem?_eq_getElem hl] at h; injection h
  simp [this]

structure GoF (f : Fc) (fuel : Nat) (block : List Int) (b : Bool) (k k' : Nat) : Prop where
  le : k ≤ k'
  most : k ≤ f.stmts.length → k' ≤ f.stmts.length
  ord : ord f fuel block = run k (k' - k)
  ris : ∀ (i : Nat) (x : Int), block[i]? = some x → ((k : Int) ≤ x ∧ x < k') ∧ ∀ (i' : Nat) (y : Int), i' + 1 = i → block[i']? = some y → y < x
  calm : b = true → ∀ (j : Nat) (s : St), k ≤ j → j < k' → f.stmts[j]? = some s → s.kind ≠ 3
  each : ∀ (j : Nat) (s : St), k ≤ j → j < k' → f.stmts[j]? = some s → ∃ fuel' b' k1 k2, go f fuel' s.th b' (j + 1) = some k1 ∧ go f fuel' s.el b' k1 = some k2 ∧ k2 ≤ k' ∧ (s.kind = 8 → b' = true) ∧ (f.stmts.length ≤ fuel + k → f.stmts.length ≤ fuel' + (j + 1))
  cnt : ∀ x : Int, block.count x + (kids f k (k' - k)).count x = if (k : Int) ≤ x ∧ x < k' then 1 else 0

theorem GoF.nil (f : Fc) (fuel : Nat) (b : Bool) (k : Nat) : GoF f fuel [] b k k where
  le := Nat.le_refl _
  most := fun h => h
  ord := by rw [ord_nil, Nat.sub_self]; rfl
  ris := fun i x h => by simp at h
  calm := fun _ j s h1 h2 => by omega
  each := fun j s h1 h2 => by omega
  cnt := fun x => by rw [Nat.sub_self, kids_zero]; simp

theorem go_facts (f : Fc) : ∀ (fuel : Nat) (block : List Int) (b : Bool) (k k' : Nat), go f fuel block b k = some k' → GoF f fuel block b k k' := by
  intro fuel
  induction fuel with
  | zero =>
    intro block b k k' h
    cases block with
    | nil => rw [go_nil] at h; injection h with h; subst h; exact GoF.nil ..
    | cons n r => rw [go_zero] at h; cases h
  | succ fuel ih =>
    intro block
    induction block with
    | nil => intro b k k' h; rw [go_nil] at h; injection h with h; subst h; exact GoF.nil ..
    | cons n r ihr =>
      intro b k k' h
      cases hok : okAt f k n b with
      | false => rw [go_stop hok] at h; cases h
      | true =>
        obtain ⟨hnk, s, hs, hbk⟩ := okAt_some hok
        subst hnk
        rw [go_on hok hs] at h
        obtain ⟨k1, h1, h⟩ := Option.bind_eq_some_iff.1 h
        obtain ⟨k2, h2, h3⟩ := Option.bind_eq_some_iff.1 h
        have F1 := ih _ _ _ _ h1
        have F2 := ih _ _ _ _ h2
        have F3 := ihr _ _ _ h3
        have l1 := F1.le
        have l2 := F2.le
        have l3 := F3.le
        have hkl := (List.getElem?_eq_some_iff.1 hs).1
        refine ⟨by omega, fun _ => F3.most (F2.most (F1.most (by omega))), ?_, ?_, ?_, ?_, ?_⟩
        · rw [ord_cons (by simpa using hs), F1.ord, F2.ord, F3.ord, show k' - k = ((k1 - (k + 1)) + (k2 - k1) + (k' - k2)) + 1 by omega, run_succ, run_add, run_add]
          rw [show k + 1 + (k1 - (k + 1)) = k1 by omega, show k + 1 + (k1 - (k + 1) + (k2 - k1)) = k2 by omega]
          simp
        · intro i x hx
          cases i with
          | zero =>
            simp at hx; subst hx
            exact ⟨by omega, fun i' y hi => by omega⟩
          | succ i =>
            have hx' : r[i]? = some x := by simpa using hx
            have hr := F3.ris i x hx'
            refine ⟨by omega, fun i' y hi hy => ?_⟩
            cases i' with
            | zero => simp at hy; subst hy; omega
            | succ i' => exact hr.2 i' y (by omega) (by simpa using hy)
        · intro hb j s' hj1 hj2 hs'
          by_cases e0 : j = k
          · subst e0; rw [hs] at hs'; injection hs' with hs'; subst hs'; exact hbk hb
          · by_cases e1 : j < k1
            · exact F1.calm (by simp [hb]) j s' (by omega) e1 hs'
            · by_cases e2 : j < k2
              · exact F2.calm (by simp [hb]) j s' (by omega) e2 hs'
              · exact F3.calm hb j s' (by omega) hj2 hs'
        · intro j s' hj1 hj2 hs'
          by_cases e0 : j = k
          · subst e0; rw [hs] at hs'; injection hs' with hs'; subst hs'
            exact ⟨fuel, _, k1, k2, h1, h2, by omega, fun h => by simp [h], fun h => by omega⟩
          · by_cases e1 : j < k1
            · obtain ⟨a, c, d, e, x1, x2, x3, x4, x5⟩ := F1.each j s' (by omega) e1 hs'
              exact ⟨a, c, d, e, x1, x2, by omega, x4, fun h => x5 (by omega)⟩
            · by_cases e2 : j < k2
              · obtain ⟨a, c, d, e, x1, x2, x3, x4, x5⟩ := F2.each j s' (by omega) e2 hs'
                exact ⟨a, c, d, e, x1, x2, by omega, x4, fun h => x5 (by omega)⟩
              · obtain ⟨a, c, d, e, x1, x2, x3, x4, x5⟩ := F3.each j s' (by omega) hj2 hs'
                exact ⟨a, c, d, e, x1, x2, by omega, x4, fun h => x5 (by omega)⟩
        · intro x
          have c1 := F1.cnt x
          have c2 := F2.cnt x
          have c3 := F3.cnt x
          rw [show k' - k = 1 + ((k1 - (k + 1)) + (k2 - k1) + (k' - k2)) by omega, kids_add, kids_one hs, kids_add, kids_add]
          rw [show k + 1 + (k1 - (k + 1)) = k1 by omega, show k + 1 + (k1 - (k + 1) + (k2 - k1)) = k2 by omega]
          simp only [List.count_cons, List.count_append] at *
          have hkx : (if ((k : Int) == x) = true then 1 else 0) = if x = (k : Int) then 1 else 0 := by
            by_cases hh : x = (k : Int)
            · subst hh; simp
            · have : ¬ ((k : Int) = x) := fun h => hh h.symm
              simp [hh, this]
          rw [hkx]
          split at c1 <;> split at c2 <;> split at c3 <;> split <;> split <;> omega

theorem blkFrom_flat : ∀ (ss : List St) (k : Nat), (blkFrom k ss).flatMap Prod.snd = ss.flatMap fun s => s.th ++ s.el
  | [], _ => rfl
  | s :: r, k => by simp [blkFrom, blkFrom_flat r (k + 1)]
theorem blkL_count (f : Fc) (x : Int) : ((blkL f).flatMap Prod.snd).count x = f.body.count x + (kids f 0 f.stmts.length).count x := by
  unfold blkL kids
  rw [List.flatMap_cons, blkFrom_flat, List.count_append]
  simp
theorem mem_blkFrom {p : Int × List Int} : ∀ {ss : List St} {k : Nat}, p ∈ blkFrom k ss → ∃ (j : Nat) (s : St), ss[j]? = some s ∧ p.1 = ((k + j : Nat) : Int) ∧ (p.2 = s.th ∨ p.2 = s.el)
  | [], _, h => by simp [blkFrom] at h
  | s :: r, k, h => by
    simp only [blkFrom, List.mem_cons] at h
    rcases h with rfl | rfl | h
    · exact ⟨0, s, rfl, rfl, .inl rfl⟩
    · exact ⟨0, s, rfl, rfl, .inr rfl⟩
    · obtain ⟨j, s', h1, h2, h3⟩ := mem_blkFrom h
      exact ⟨j + 1, s', by simpa using h1, by rw [h2]; congr 1; omega, h3⟩

/-- Where the walk goes through, the reference's tests do. -/
theorem blocks_of_go {f : Fc} (h : go f f.stmts.length f.body false 0 = some f.stmts.length) : blocksOk f ∧ ord f f.stmts.length f.body = run 0 f.stmts.length ∧
    ∀ (j : Nat) (s : St), f.stmts[j]? = some s → ∃ fuel' b' k1 k2, go f fuel' s.th b' (j + 1) = some k1 ∧ go f fuel' s.el b' k1 = some k2 ∧ k2 ≤ f.stmts.length ∧ (s.kind = 8 → b' = true) ∧ f.stmts.length ≤ fuel' + (j + 1) := by
  have F := go_facts f _ _ _ _ _ h
  refine ⟨⟨?_, ?_⟩, by simpa using F.ord, fun j s hs => ?_⟩
  · intro p hp
    simp only [blkL, List.mem_cons] at hp
    rcases hp with rfl | hp
    · refine ⟨fun j x _ hx => ⟨by have := (F.ris j x hx).1; omega, (F.ris j x hx).2⟩, fun n hn => ?_⟩
      obtain ⟨i, hi⟩ := List.getElem?_of_mem hn
      have := (F.ris i n hi).1
      show (-1 : Int) < n
      omega
    · obtain ⟨j, s, hs, h1, h2⟩ := mem_blkFrom hp
      obtain ⟨o, b⟩ := p
      simp only at h1 h2
      rw [Nat.zero_add] at h1
      subst h1
      obtain ⟨fuel', b', k1, k2, g1, g2, hk2, _⟩ := F.each j s (Nat.zero_le _) (List.getElem?_eq_some_iff.1 hs).1 hs
      have G1 := go_facts f _ _ _ _ _ g1
      have G2 := go_facts f _ _ _ _ _ g2
      have := G1.le
      have := G2.le
      rcases h2 with rfl | rfl
      · refine ⟨fun i x _ hx => ⟨by have := (G1.ris i x hx).1; omega, (G1.ris i x hx).2⟩, fun n hn => ?_⟩
        obtain ⟨i, hi⟩ := List.getElem?_of_mem hn
        have := (G1.ris i n hi).1
        show ((j : Nat) : Int) < n
        omega
      · refine ⟨fun i x _ hx => ⟨by have := (G2.ris i x hx).1; omega, (G2.ris i x hx).2⟩, fun n hn => ?_⟩
        obtain ⟨i, hi⟩ := List.getElem?_of_mem hn
        have := (G2.ris i n hi).1
        show ((j : Nat) : Int) < n
        omega
  · intro n hn
    rw [blkL_count]
    have := F.cnt (n : Int)
    rw [Nat.sub_zero, if_pos (by omega)] at this
    exact this
  · obtain ⟨a, c, d, e, x1, x2, x3, x4, x5⟩ := F.each j s (Nat.zero_le _) (List.getElem?_eq_some_iff.1 hs).1 hs
    exact ⟨a, c, d, e, x1, x2, x3, x4, x5 (by omega)⟩

end Go.Proofs.YtpmpjiigmjnniaaGreat

/-
  Where each statement stands in one block, the order holds each just once.
-/
namespace Go.Proofs.YtpmpjiigmjnniaaGreat
open Go.RowKit Exs

def sumTo (h : Nat → Nat) : Nat → Nat
  | 0 => 0
  | n + 1 => sumTo h n + h n
theorem sumTo_congr {h h' : Nat → Nat} : ∀ {n : Nat}, (∀ j, j < n → h j = h' j) → sumTo h n = sumTo h' n
  | 0, _ => rfl
  | n + 1, hh => by simp only [sumTo]; rw [sumTo_congr (fun j hj => hh j (by omega)), hh n (by omega)]
theorem sumTo_zero : ∀ (n : Nat), sumTo (fun _ => 0) n = 0
  | 0 => rfl
  | n + 1 => by simp only [sumTo, sumTo_zero n]
theorem sumTo_one : ∀ (n : Nat), sumTo (fun _ => 1) n = n
  | 0 => rfl
  | n + 1 => by simp only [sumTo, sumTo_one n]
theorem sumTo_add (h h' : Nat → Nat) : ∀ (n : Nat), sumTo (fun j => h j + h' j) n = sumTo h n + sumTo h' n
  | 0 => rfl
  | n + 1 => by simp only [sumTo, sumTo_add h h' n]; omega
theorem sumTo_at (g : Nat → Nat) (y : Nat) : ∀ (n : Nat), sumTo (fun j => if j = y then g j else 0) n = if y < n then g y else 0
  | 0 => by simp [sumTo]
  | n + 1 => by
    simp only [sumTo, sumTo_at g y n]
    by_cases h1 : y < n
    · rw [if_pos h1, if_neg (by omega), if_pos (by omega)]; omega
    · rw [if_neg h1]
      by_cases h2 : n = y
      · subst h2; rw [if_pos rfl, if_pos (by omega)]; omega
      · rw [if_neg h2, if_neg (by omega)]
/-- A sum over a list of numbers below len, sorted by the numbers. -/
theorem sum_by (g : Nat → Nat) (len : Nat) : ∀ (O : List Int), (∀ y ∈ O, 0 ≤ y ∧ y < len) → (O.map fun y => g y.toNat).sum = sumTo (fun j => O.count (j : Int) * g j) len
  | [], _ => by simp [sumTo_zero]
  | y :: O, h => by
    have ih := sum_by g len O (fun z hz => h z (by simp [hz]))
    have hy := h y (by simp)
    rw [List.map_cons, List.sum_cons, ih]
    have e : sumTo (fun j => (y :: O).count (j : Int) * g j) len = sumTo (fun j => O.count (j : Int) * g j + (if j = y.toNat then g j else 0)) len := by
      apply sumTo_congr
      intro j _
      rw [List.count_cons]
      by_cases hj : j = y.toNat
      · subst hj
        rw [show ((y.toNat : Nat) : Int) = y by omega]
        simp [Nat.add_mul]
      · have : ¬ (y = (j : Int)) := by omega
        simp [this, hj]
    rw [e, sumTo_add, sumTo_at, if_pos (by omega)]
    omega

def kidsOf (f : Fc) (y : Nat) : List Int := match f.stmts[y]? with | some s => s.th ++ s.el | none => []
theorem kids_sum (f : Fc) (x : Int) : ∀ (n : Nat), n ≤ f.stmts.length → (kids f 0 n).count x = sumTo (fun j => (kidsOf f j).count x) n
  | 0, _ => by simp [kids_zero, sumTo]
  | n + 1, h => by
    obtain ⟨s, hs⟩ : ∃ s, f.stmts[n]? = some s := ⟨_, List.getElem?_eq_getElem (by omega)⟩
    rw [kids_add, Nat.zero_add, kids_one hs, List.count_append, kids_sum f x n (by omega)]
    simp [sumTo, kidsOf, hs]

theorem ord_count {f : Fc} (hn : Nest f) (x : Int) : ∀ (fuel : Nat) (block : List Int) (lo : Nat), (∀ n ∈ block, (lo : Int) ≤ n ∧ n < f.stmts.length) → f.stmts.length ≤ fuel + lo →
    (ord f fuel block).count x = block.count x + ((ord f fuel block).map fun y => (kidsOf f y.toNat).count x).sum ∧ ∀ y ∈ ord f fuel block, 0 ≤ y ∧ y < f.stmts.length := by
  intro fuel
  induction fuel with
  | zero =>
    intro block lo hb h1
    cases block with
    | nil => rw [ord_nil]; simp
    | cons n r => have := hb n (by simp); omega
  | succ fuel ih =>
    intro block lo hb h1
    induction block with
    | nil => rw [ord_nil]; simp
    | cons n r ihr =>
      have hnb := hb n (by simp)
      obtain ⟨s, hs⟩ := at_of_range (f := f) (n := n) (by omega) hnb.2
      have h3 := ihr (fun z hz => hb z (by simp [hz]))
      have a1 := ih s.th (n.toNat + 1) (fun z hz => by have := hn _ _ hs z (.inl hz); omega) (by omega)
      have a2 := ih s.el (n.toNat + 1) (fun z hz => by have := hn _ _ hs z (.inr hz); omega) (by omega)
      rw [ord_cons hs]
      refine ⟨?_, fun y hy => ?_⟩
      · simp only [List.cons_append, List.count_cons, List.count_append, List.map_cons, List.map_append, List.sum_cons, List.sum_append]
        rw [a1.1, a2.1, h3.1]
        have : (kidsOf f n.toNat).count x = s.th.count x + s.el.count x := by simp [kidsOf, hs]
        rw [this]
        omega
      · simp only [List.cons_append, List.mem_cons, List.mem_append] at hy
        rcases hy with rfl | (hy | hy) | hy
        · omega
        · exact a1.2 y hy
        · exact a2.2 y hy
        · exact h3.2 y hy

theorem nest_of_blocks {f : Fc} (h : blocksOk f) : Nest f := by
  intro j s hs n hn
  have key : ∀ b : List Int, ((j : Int), b) ∈ blkL f → n ∈ b → (j : Int) < n ∧ n < f.stmts.length := fun b hb hnb => by
    have h1 := h.1 _ hb
    obtain ⟨i, hi⟩ := List.getElem?_of_mem hnb
    have h2 := (h1.1 i n (List.getElem?_eq_some_iff.1 hi).1 hi).1
    exact ⟨h1.2 n hnb, by omega⟩
  have hmem : ∀ {ss : List St} {k j : Nat} {s : St}, ss[j]? = some s → (((k + j : Nat) : Int), s.th) ∈ blkFrom k ss ∧ (((k + j : Nat) : Int), s.el) ∈ blkFrom k ss := by
    intro ss
    induction ss with
    | nil => intro k j s h; simp at h
    | cons a r ih =>
      intro k j s h
      cases j with
      | zero => simp at h; subst h; simp [blkFrom]
      | succ j =>
        have := ih (k := k + 1) (j := j) (s := s) (by simpa using h)
        rw [show k + 1 + j = k + (j + 1) by omega] at this
        simp only [blkFrom, List.mem_cons]
        exact ⟨.inr (.inr this.1), .inr (.inr this.2)⟩
  have := hmem (k := 0) hs
  rw [Nat.zero_add] at this
  rcases hn with hn | hn
  · exact key _ (by simp only [blkL, List.mem_cons]; exact .inr this.1) hn
  · exact key _ (by simp only [blkL, List.mem_cons]; exact .inr this.2) hn
theorem body_of_blocks {f : Fc} (h : blocksOk f) : ∀ n ∈ f.body, ((0 : Nat) : Int) ≤ n ∧ n < f.stmts.length := by
  intro n hn
  have h1 := h.1 (-1, f.body) (by simp [blkL])
  obtain ⟨i, hi⟩ := List.getElem?_of_mem hn
  have h2 := (h1.1 i n (List.getElem?_eq_some_iff.1 hi).1 hi).1
  omega

theorem ord_once {f : Fc} (h : blocksOk f) : ∀ x : Nat, x < f.stmts.length → (ord f f.stmts.length f.body).count (x : Int) = 1 := by
  have hn := nest_of_blocks h
  intro x
  induction x using Nat.strongRecOn with
  | _ x ih =>
    intro hx
    obtain ⟨hc, hr⟩ := ord_count hn (x : Int) f.stmts.length f.body 0 (body_of_blocks h) (by omega)
    rw [hc, sum_by (fun y => (kidsOf f y).count (x : Int)) f.stmts.length _ hr]
    have e : sumTo (fun j => (ord f f.stmts.length f.body).count (j : Int) * (kidsOf f j).count (x : Int)) f.stmts.length = sumTo (fun j => (kidsOf f j).count (x : Int)) f.stmts.length := by
      apply sumTo_congr
      intro j hj
      by_cases hjx : j < x
      · rw [ih j hjx hj, Nat.one_mul]
      · have : (kidsOf f j).count (x : Int) = 0 := by
          obtain ⟨s, hs⟩ : ∃ s, f.stmts[j]? = some s := ⟨_, List.getElem?_eq_getElem hj⟩
          rw [List.count_eq_zero]
          intro hm
          simp only [kidsOf, hs, List.mem_append] at hm
          have := hn j s hs x hm
          omega
        rw [this, Nat.mul_zero]
    rw [e, ← kids_sum f x f.stmts.length (Nat.le_refl _), ← blkL_count]
    exact h.2 x hx
theorem sum_ones (O : List Int) : (O.map fun _ => 1).sum = O.length := by induction O with | nil => rfl | cons a r ih => simp only [List.map_cons, List.sum_cons, List.length_cons, ih]; omega
theorem ord_length {f : Fc} (h : blocksOk f) : (ord f f.stmts.length f.body).length = f.stmts.length := by
  have hn := nest_of_blocks h
  obtain ⟨_, hr⟩ := ord_count hn 0 f.stmts.length f.body 0 (body_of_blocks h) (by omega)
  have := sum_by (fun _ => 1) f.stmts.length _ hr
  rw [show ((ord f f.stmts.length f.body).map fun y => (fun _ => 1) y.toNat).sum = (ord f f.stmts.length f.body).length from sum_ones _] at this
  rw [this, sumTo_congr (h' := fun _ => 1) (fun j hj => by simp [ord_once h j hj]), sumTo_one]

/-- The order that counts up is the numbers from 0 on. -/
theorem run_of_steps {O : List Int} (h : ∀ (k : Nat) (x : Int), O[k]? = some x → x = k) : O = run 0 O.length := by
  apply List.ext_getElem?
  intro i
  by_cases hi : i < O.length
  · rw [List.getElem?_eq_getElem hi, h i _ (List.getElem?_eq_getElem hi)]
    simp [run, hi]
  · rw [List.getElem?_eq_none (by omega), List.getElem?_eq_none (by rw [run_length]; omega)]

/-- The walk goes through just where the reference's tests do. -/
theorem places_iff (f : Fc) (hfl : ∀ s ∈ f.stmts, s.kind = 8 → s.el = []) :
    go f f.stmts.length f.body false 0 = some f.stmts.length ↔ blocksOk f ∧ ord f f.stmts.length f.body = run 0 f.stmts.length ∧ ∀ (j : Nat) (s : St), f.stmts[j]? = some s → s.kind = 8 → ∀ x ∈ ord f f.stmts.length s.th, ∀ s', f.stmts[x.toNat]? = some s' → s'.kind ≠ 3 := by
  constructor
  · intro h
    obtain ⟨h1, h2, h3⟩ := blocks_of_go h
    refine ⟨h1, h2, fun j s hs h8 x hx s' hs' => ?_⟩
    obtain ⟨fuel', b', k1, k2, g1, _, _, hb, hfu⟩ := h3 j s hs
    have G := go_facts f _ _ _ _ _ g1
    have hn := nest_of_blocks h1
    rw [ord_fuel hn f.stmts.length fuel' s.th (j + 1) (fun z hz => by have := hn j s hs z (.inl hz); omega) (by omega) hfu, G.ord, run_mem] at hx
    have := G.le
    exact G.calm (hb h8) x.toNat s' (by omega) (by omega) hs'
  · rintro ⟨h1, h2, h3⟩
    have hn := nest_of_blocks h1
    have := go_of_ord hn f.stmts.length (Nat.le_refl _) f.stmts.length f.body false 0 f.stmts.length 0 (body_of_blocks h1) (by omega) h2 (fun h => by cases h) (fun j s _ _ hs h8 => ⟨hfl s (mem_of_at hs) h8, h3 j s hs h8⟩)
    rwa [Nat.zero_add] at this

theorem sumTo_le {h h' : Nat → Nat} : ∀ {n : Nat}, (∀ j, j < n → h j ≤ h' j) → sumTo h n ≤ sumTo h' n
  | 0, _ => Nat.le_refl _
  | n + 1, hh => by
    have h1 := sumTo_le (n := n) (fun j hj => hh j (by omega))
    have h2 := hh n (by omega)
    simp only [sumTo]; omega
theorem ord_gt {f : Fc} (hn : Nest f) : ∀ (fuel : Nat) (block : List Int) (lo : Nat), (∀ n ∈ block, (lo : Int) ≤ n ∧ n < f.stmts.length) → f.stmts.length ≤ fuel + lo → ∀ y ∈ ord f fuel block, (lo : Int) ≤ y := by
  intro fuel
  induction fuel with
  | zero =>
    intro block lo hb h1
    cases block with
    | nil => rw [ord_nil]; simp
    | cons n r => have := hb n (by simp); omega
  | succ fuel ih =>
    intro block lo hb h1
    induction block with
    | nil => rw [ord_nil]; simp
    | cons n r ihr =>
      have hnb := hb n (by simp)
      obtain ⟨s, hs⟩ := at_of_range (f := f) (n := n) (by omega) hnb.2
      rw [ord_cons hs]
      intro y hy
      simp only [List.cons_append, List.mem_cons, List.mem_append] at hy
      rcases hy with rfl | (hy | hy) | hy
      · omega
      · have := ih s.th (n.toNat + 1) (fun z hz => by have := hn _ _ hs z (.inl hz); omega) (by omega) y hy; omega
      · have := ih s.el (n.toNat + 1) (fun z hz => by have := hn _ _ hs z (.inr hz); omega) (by omega) y hy; omega
      · exact ihr (fun z hz => hb z (by simp [hz])) y hy
/-- The order of one block is no longer than the function. -/
theorem ord_th_length {f : Fc} (h : blocksOk f) {j : Nat} {s : St} (hs : f.stmts[j]? = some s) : (ord f f.stmts.length s.th).length ≤ f.stmts.length := by
  have hn := nest_of_blocks h
  have hjl := (List.getElem?_eq_some_iff.1 hs).1
  have hb : ∀ n ∈ s.th, ((j + 1 : Nat) : Int) ≤ n ∧ n < f.stmts.length := fun n hnn => by have := hn j s hs n (.inl hnn); omega
  have hgt := ord_gt hn f.stmts.length s.th (j + 1) hb (by omega)
  have hone : ∀ x : Nat, x < f.stmts.length → (ord f f.stmts.length s.th).count (x : Int) ≤ 1 := by
    intro x
    induction x using Nat.strongRecOn with
    | _ x ih =>
      intro hx
      obtain ⟨hc, hr⟩ := ord_count hn (x : Int) f.stmts.length s.th (j + 1) hb (by omega)
      rw [hc, sum_by (fun y => (kidsOf f y).count (x : Int)) f.stmts.length _ hr]
      have e1 : sumTo (fun i => (ord f f.stmts.length s.th).count (i : Int) * (kidsOf f i).count (x : Int)) f.stmts.length ≤ sumTo (fun i => if i = j then 0 else (kidsOf f i).count (x : Int)) f.stmts.length := by
        apply sumTo_le
        intro i hi
        by_cases hij : i = j
        · subst hij
          rw [if_pos rfl, List.count_eq_zero.2 (fun hm => by have := hgt _ hm; omega)]
          simp
        · rw [if_neg hij]
          by_cases hix : i < x
          · have := ih i hix hi
            calc _ ≤ 1 * (kidsOf f i).count (x : Int) := Nat.mul_le_mul_right _ this
              _ = _ := Nat.one_mul _
          · have : (kidsOf f i).count (x : Int) = 0 := by
              obtain ⟨s', hs'⟩ : ∃ s', f.stmts[i]? = some s' := ⟨_, List.getElem?_eq_getElem hi⟩
              rw [List.count_eq_zero]
              intro hm
              simp only [kidsOf, hs', List.mem_append] at hm
              have := hn i s' hs' x hm
              omega
            rw [this]; simp
      have e2 : sumTo (fun i => (kidsOf f i).count (x : Int)) f.stmts.length = (kidsOf f j).count (x : Int) + sumTo (fun i => if i = j then 0 else (kidsOf f i).count (x : Int)) f.stmts.length := by
        have := sumTo_at (fun i => (kidsOf f i).count (x : Int)) j f.stmts.length
        rw [if_pos hjl] at this
        rw [← this, ← sumTo_add]
        apply sumTo_congr
        intro i _
        by_cases hij : i = j <;> simp [hij]
      have e3 : (kidsOf f j).count (x : Int) = s.th.count (x : Int) + s.el.count (x : Int) := by simp [kidsOf, hs]
      have e4 := h.2 x hx
      rw [blkL_count, kids_sum f x f.stmts.length (Nat.le_refl _)] at e4
      omega
  obtain ⟨_, hr⟩ := ord_count hn 0 f.stmts.length s.th (j + 1) hb (by omega)
  have := sum_by (fun _ => 1) f.stmts.length _ hr
  rw [show ((ord f f.stmts.length s.th).map fun y => (fun _ => 1) y.toNat).sum = (ord f f.stmts.length s.th).length from sum_ones _] at this
  rw [this]
  calc _ ≤ sumTo (fun _ => 1) f.stmts.length := sumTo_le (fun j hj => by have := hone j hj; omega)
    _ = _ := sumTo_one _

end Go.Proofs.YtpmpjiigmjnniaaGreat

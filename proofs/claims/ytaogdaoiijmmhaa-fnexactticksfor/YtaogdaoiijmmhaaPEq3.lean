/-
  Where each statement stands in one block, the order holds each just once.
-/
import Derived.Test.YtaogdaoiijmmhaaPEq2
namespace Go.Proofs.Ytaogdaoiijmmhaa
open Go.RowKit Exs

def sumTo (h : Nat → Nat) : Nat → Nat
  | 0 => 0
  | n + 1 => sumTo h n + h n
theorem sumTo_congr {h h' : Nat → Nat} : ∀ {n : Nat}, (∀ j, j < n → h j = h' j) → sumTo h n = sumTo h' n
  | 0, _ => rfl
  | n + 1, hh => by simp only [sumTo]; rw [sumTo_congr (fun j hj => hh j (by omega)), hh n (by omega)]
theorem sumTo_zero : ∀ (n : Nat), sumTo (fun _ => 0) n = 0
  | 0 => rfl
  | n + 1 => by simp only [sumTo, sumTo_zero n]
theorem sumTo_one : ∀ (n : Nat), sumTo (fun _ => 1) n = n
  | 0 => rfl
  | n + 1 => by simp only [sumTo, sumTo_one n]
theorem sumTo_add (h h' : Nat → Nat) : ∀ (n : Nat), sumTo (fun j => h j + h' j) n = sumTo h n + sumTo h' n
  | 0 => rfl
  | n + 1 => by simp only [sumTo, sumTo_add h h' n]; omega
theorem sumTo_at (g : Nat → Nat) (y : Nat) : ∀ (n : Nat), sumTo (fun j => if j = y then g j else 0) n = if y < n then g y else 0
  | 0 => by simp [sumTo]
  | n + 1 => by
    simp only [sumTo, sumTo_at g y n]
    by_cases h1 : y < n
    · rw [if_pos h1, if_neg (by omega), if_pos (by omega)]; omega
    · rw [if_neg h1]
      by_cases h2 : n = y
      · subst h2; rw [if_pos rfl, if_pos (by omega)]; omega
      · rw [if_neg h2, if_neg (by omega)]
/-- A sum over a list of numbers below len, sorted by the numbers. -/
theorem sum_by (g : Nat → Nat) (len : Nat) : ∀ (O : List Int), (∀ y ∈ O, 0 ≤ y ∧ y < len) → (O.map fun y => g y.toNat).sum = sumTo (fun j => O.count (j : Int) * g j) len
  | [], _ => by simp [sumTo_zero]
  | y :: O, h => by
    have ih := sum_by g len O (fun z hz => h z (by simp [hz]))
    have hy := h y (by simp)
    rw [List.map_cons, List.sum_cons, ih]
    have e : sumTo (fun j => (y :: O).count (j : Int) * g j) len = sumTo (fun j => O.count (j : Int) * g j + (if j = y.toNat then g j else 0)) len := by
      apply sumTo_congr
      intro j _
      rw [List.count_cons]
      by_cases hj : j = y.toNat
      · subst hj
        rw [show ((y.toNat : Nat) : Int) = y by omega]
        simp [Nat.add_mul]
      · have : ¬ (y = (j : Int)) := by omega
        simp [this, hj]
    rw [e, sumTo_add, sumTo_at, if_pos (by omega)]
    omega

def kidsOf (f : Fc) (y : Nat) : List Int := match f.stmts[y]? with | some s => s.th ++ s.el | none => []
theorem kids_sum (f : Fc) (x : Int) : ∀ (n : Nat), n ≤ f.stmts.length → (kids f 0 n).count x = sumTo (fun j => (kidsOf f j).count x) n
  | 0, _ => by simp [kids_zero, sumTo]
  | n + 1, h => by
    obtain ⟨s, hs⟩ : ∃ s, f.stmts[n]? = some s := ⟨_, List.getElem?_eq_getElem (by omega)⟩
    rw [kids_add, Nat.zero_add, kids_one hs, List.count_append, kids_sum f x n (by omega)]
    simp [sumTo, kidsOf, hs]

theorem ord_count {f : Fc} (hn : Nest f) (x : Int) : ∀ (fuel : Nat) (block : List Int) (lo : Nat), (∀ n ∈ block, (lo : Int) ≤ n ∧ n < f.stmts.length) → f.stmts.length ≤ fuel + lo →
    (ord f fuel block).count x = block.count x + ((ord f fuel block).map fun y => (kidsOf f y.toNat).count x).sum ∧ ∀ y ∈ ord f fuel block, 0 ≤ y ∧ y < f.stmts.length := by
  intro fuel
  induction fuel with
  | zero =>
    intro block lo hb h1
    cases block with
    | nil => rw [ord_nil]; simp
    | cons n r => have := hb n (by simp); omega
  | succ fuel ih =>
    intro block lo hb h1
    induction block with
    | nil => rw [ord_nil]; simp
    | cons n r ihr =>
      have hnb := hb n (by simp)
      obtain ⟨s, hs⟩ := at_of_range (f := f) (n := n) (by omega) hnb.2
      have h3 := ihr (fun z hz => hb z (by simp [hz]))
      have a1 := ih s.th (n.toNat + 1) (fun z hz => by have := hn _ _ hs z (.inl hz); omega) (by omega)
      have a2 := ih s.el (n.toNat + 1) (fun z hz => by have := hn _ _ hs z (.inr hz); omega) (by omega)
      rw [ord_cons hs]
      refine ⟨?_, fun y hy => ?_⟩
      · simp only [List.cons_append, List.count_cons, List.count_append, List.map_cons, List.map_append, List.sum_cons, List.sum_append]
        rw [a1.1, a2.1, h3.1]
        have : (kidsOf f n.toNat).count x = s.th.count x + s.el.count x := by simp [kidsOf, hs]
        rw [this]
        omega
      · simp only [List.cons_append, List.mem_cons, List.mem_append] at hy
        rcases hy with rfl | (hy | hy) | hy
        · omega
        · exact a1.2 y hy
        · exact a2.2 y hy
        · exact h3.2 y hy

theorem nest_of_blocks {f : Fc} (h : blocksOk f) : Nest f := by
  intro j s hs n hn
  have key : ∀ b : List Int, ((j : Int), b) ∈ blkL f → n ∈ b → (j : Int) < n ∧ n < f.stmts.length := fun b hb hnb => by
    have h1 := h.1 _ hb
    obtain ⟨i, hi⟩ := List.getElem?_of_mem hnb
    have h2 := (h1.1 i n (List.getElem?_eq_some_iff.1 hi).1 hi).1
    exact ⟨h1.2 n hnb, by omega⟩
  have hmem : ∀ {ss : List St} {k j : Nat} {s : St}, ss[j]? = some s → (((k + j : Nat) : Int), s.th) ∈ blkFrom k ss ∧ (((k + j : Nat) : Int), s.el) ∈ blkFrom k ss := by
    intro ss
    induction ss with
    | nil => intro k j s h; simp at h
    | cons a r ih =>
      intro k j s h
      cases j with
      | zero => simp at h; subst h; simp [blkFrom]
      | succ j =>
        have := ih (k := k + 1) (j := j) (s := s) (by simpa using h)
        rw [show k + 1 + j = k + (j + 1) by omega] at this
        simp only [blkFrom, List.mem_cons]
        exact ⟨.inr (.inr this.1), .inr (.inr this.2)⟩
  have := hmem (k := 0) hs
  rw [Nat.zero_add] at this
  rcases hn with hn | hn
  · exact key _ (by simp only [blkL, List.mem_cons]; exact .inr this.1) hn
  · exact key _ (by simp only [blkL, List.mem_cons]; exact .inr this.2) hn
theorem body_of_blocks {f : Fc} (h : blocksOk f) : ∀ n ∈ f.body, ((0 : Nat) : Int) ≤ n ∧ n < f.stmts.length := by
  intro n hn
  have h1 := h.1 (-1, f.body) (by simp [blkL])
  obtain ⟨i, hi⟩ := List.getElem?_of_mem hn
  have h2 := (h1.1 i n (List.getElem?_eq_some_iff.1 hi).1 hi).1
  omega

theorem ord_once {f : Fc} (h : blocksOk f) : ∀ x : Nat, x < f.stmts.length → (ord f f.stmts.length f.body).count (x : Int) = 1 := by
  have hn := nest_of_blocks h
  intro x
  induction x using Nat.strongRecOn with
  | _ x ih =>
    intro hx
    obtain ⟨hc, hr⟩ := ord_count hn (x : Int) f.stmts.length f.body 0 (body_of_blocks h) (by omega)
    rw [hc, sum_by (fun y => (kidsOf f y).count (x : Int)) f.stmts.length _ hr]
    have e : sumTo (fun j => (ord f f.stmts.length f.body).count (j : Int) * (kidsOf f j).count (x : Int)) f.stmts.length = sumTo (fun j => (kidsOf f j).count (x : Int)) f.stmts.length := by
      apply sumTo_congr
      intro j hj
      by_cases hjx : j < x
      · rw [ih j hjx hj, Nat.one_mul]
      · have : (kidsOf f j).count (x : Int) = 0 := by
          obtain ⟨s, hs⟩ : ∃ s, f.stmts[j]? = some s := ⟨_, List.getElem?_eq_getElem hj⟩
          rw [List.count_eq_zero]
          intro hm
          simp only [kidsOf, hs, List.mem_append] at hm
          have := hn j s hs x hm
          omega
        rw [this, Nat.mul_zero]
    rw [e, ← kids_sum f x f.stmts.length (Nat.le_refl _), ← blkL_count]
    exact h.2 x hx
theorem sum_ones (O : List Int) : (O.map fun _ => 1).sum = O.length := by induction O with | nil => rfl | cons a r ih => simp only [List.map_cons, List.sum_cons, List.length_cons, ih]; omega
theorem ord_length {f : Fc} (h : blocksOk f) : (ord f f.stmts.length f.body).length = f.stmts.length := by
  have hn := nest_of_blocks h
  obtain ⟨_, hr⟩ := ord_count hn 0 f.stmts.length f.body 0 (body_of_blocks h) (by omega)
  have := sum_by (fun _ => 1) f.stmts.length _ hr
  rw [show ((ord f f.stmts.length f.body).map fun y => (fun _ => 1) y.toNat).sum = (ord f f.stmts.length f.body).length from sum_ones _] at this
  rw [this, sumTo_congr (h' := fun _ => 1) (fun j hj => by simp [ord_once h j hj]), sumTo_one]

/-- The order that counts up is the numbers from 0 on. -/
theorem run_of_steps {O : List Int} (h : ∀ (k : Nat) (x : Int), O[k]? = some x → x = k) : O = run 0 O.length := by
  apply List.ext_getElem?
  intro i
  by_cases hi : i < O.length
  · rw [List.getElem?_eq_getElem hi, h i _ (List.getElem?_eq_getElem hi)]
    simp [run, hi]
  · rw [List.getElem?_eq_none (by omega), List.getElem?_eq_none (by rw [run_length]; omega)]

/-- The walk goes through just where the reference's tests do. -/
theorem places_iff (f : Fc) (hfl : ∀ s ∈ f.stmts, s.kind = 8 → s.el = []) :
    go f f.stmts.length f.body false 0 = some f.stmts.length ↔ blocksOk f ∧ ord f f.stmts.length f.body = run 0 f.stmts.length ∧ ∀ (j : Nat) (s : St), f.stmts[j]? = some s → s.kind = 8 → ∀ x ∈ ord f f.stmts.length s.th, ∀ s', f.stmts[x.toNat]? = some s' → s'.kind ≠ 3 := by
  constructor
  · intro h
    obtain ⟨h1, h2, h3⟩ := blocks_of_go h
    refine ⟨h1, h2, fun j s hs h8 x hx s' hs' => ?_⟩
    obtain ⟨fuel', b', k1, k2, g1, _, _, hb, hfu⟩ := h3 j s hs
    have G := go_facts f _ _ _ _ _ g1
    have hn := nest_of_blocks h1
    rw [ord_fuel hn f.stmts.length fuel' s.th (j + 1) (fun z hz => by have := hn j s hs z (.inl hz); omega) (by omega) hfu, G.ord, run_mem] at hx
    have := G.le
    exact G.calm (hb h8) x.toNat s' (by omega) (by omega) hs'
  · rintro ⟨h1, h2, h3⟩
    have hn := nest_of_blocks h1
    have := go_of_ord hn f.stmts.length (Nat.le_refl _) f.stmts.length f.body false 0 f.stmts.length 0 (body_of_blocks h1) (by omega) h2 (fun h => by cases h) (fun j s _ _ hs h8 => ⟨hfl s (mem_of_at hs) h8, h3 j s hs h8⟩)
    rwa [Nat.zero_add] at this

theorem sumTo_le {h h' : Nat → Nat} : ∀ {n : Nat}, (∀ j, j < n → h j ≤ h' j) → sumTo h n ≤ sumTo h' n
  | 0, _ => Nat.le_refl _
  | n + 1, hh => by
    have h1 := sumTo_le (n := n) (fun j hj => hh j (by omega))
    have h2 := hh n (by omega)
    simp only [sumTo]; omega
theorem ord_gt {f : Fc} (hn : Nest f) : ∀ (fuel : Nat) (block : List Int) (lo : Nat), (∀ n ∈ block, (lo : Int) ≤ n ∧ n < f.stmts.length) → f.stmts.length ≤ fuel + lo → ∀ y ∈ ord f fuel block, (lo : Int) ≤ y := by
  intro fuel
  induction fuel with
  | zero =>
    intro block lo hb h1
    cases block with
    | nil => rw [ord_nil]; simp
    | cons n r => have := hb n (by simp); omega
  | succ fuel ih =>
    intro block lo hb h1
    induction block with
    | nil => rw [ord_nil]; simp
    | cons n r ihr =>
      have hnb := hb n (by simp)
      obtain ⟨s, hs⟩ := at_of_range (f := f) (n := n) (by omega) hnb.2
      rw [ord_cons hs]
      intro y hy
      simp only [List.cons_append, List.mem_cons, List.mem_append] at hy
      rcases hy with rfl | (hy | hy) | hy
      · omega
      · have := ih s.th (n.toNat + 1) (fun z hz => by have := hn _ _ hs z (.inl hz); omega) (by omega) y hy; omega
      · have := ih s.el (n.toNat + 1) (fun z hz => by have := hn _ _ hs z (.inr hz); omega) (by omega) y hy; omega
      · exact ihr (fun z hz => hb z (by simp [hz])) y hy
/-- The order of one block is no longer than the function. -/
theorem ord_th_length {f : Fc} (h : blocksOk f) {j : Nat} {s : St} (hs : f.stmts[j]? = some s) : (ord f f.stmts.length s.th).length ≤ f.stmts.length := by
  have hn := nest_of_blocks h
  have hjl := (List.getElem?_eq_some_iff.1 hs).1
  have hb : ∀ n ∈ s.th, ((j + 1 : Nat) : Int) ≤ n ∧ n < f.stmts.length := fun n hnn => by have := hn j s hs n (.inl hnn); omega
  have hgt := ord_gt hn f.stmts.length s.th (j + 1) hb (by omega)
  have hone : ∀ x : Nat, x < f.stmts.length → (ord f f.stmts.length s.th).count (x : Int) ≤ 1 := by
    intro x
    induction x using Nat.strongRecOn with
    | _ x ih =>
      intro hx
      obtain ⟨hc, hr⟩ := ord_count hn (x : Int) f.stmts.length s.th (j + 1) hb (by omega)
      rw [hc, sum_by (fun y => (kidsOf f y).count (x : Int)) f.stmts.length _ hr]
      have e1 : sumTo (fun i => (ord f f.stmts.length s.th).count (i : Int) * (kidsOf f i).count (x : Int)) f.stmts.length ≤ sumTo (fun i => if i = j then 0 else (kidsOf f i).count (x : Int)) f.stmts.length := by
        apply sumTo_le
        intro i hi
        by_cases hij : i = j
        · subst hij
          rw [if_pos rfl, List.count_eq_zero.2 (fun hm => by have := hgt _ hm; omega)]
          simp
        · rw [if_neg hij]
          by_cases hix : i < x
          · have := ih i hix hi
            calc _ ≤ 1 * (kidsOf f i).count (x : Int) := Nat.mul_le_mul_right _ this
              _ = _ := Nat.one_mul _
          · have : (kidsOf f i).count (x : Int) = 0 := by
              obtain ⟨s', hs'⟩ : ∃ s', f.stmts[i]? = some s' := ⟨_, List.getElem?_eq_getElem hi⟩
              rw [List.count_eq_zero]
              intro hm
              simp only [kidsOf, hs', List.mem_append] at hm
              have := hn i s' hs' x hm
              omega
            rw [this]; simp
      have e2 : sumTo (fun i => (kidsOf f i).count (x : Int)) f.stmts.length = (kidsOf f j).count (x : Int) + sumTo (fun i => if i = j then 0 else (kidsOf f i).count (x : Int)) f.stmts.length := by
        have := sumTo_at (fun i => (kidsOf f i).count (x : Int)) j f.stmts.length
        rw [if_pos hjl] at this
        rw [← this, ← sumTo_add]
        apply sumTo_congr
        intro i _
        by_cases hij : i = j <;> simp [hij]
      have e3 : (kidsOf f j).count (x : Int) = s.th.count (x : Int) + s.el.count (x : Int) := by simp [kidsOf, hs]
      have e4 := h.2 x hx
      rw [blkL_count, kids_sum f x f.stmts.length (Nat.le_refl _)] at e4
      omega
  obtain ⟨_, hr⟩ := ord_count hn 0 f.stmts.length s.th (j + 1) hb (by omega)
  have := sum_by (fun _ => 1) f.stmts.length _ hr
  rw [show ((ord f f.stmts.length s.th).map fun y => (fun _ => 1) y.toNat).sum = (ord f f.stmts.length s.th).length from sum_ones _] at this
  rw [this]
  calc _ ≤ sumTo (fun _ => 1) f.stmts.length := sumTo_le (fun j hj => by have := hone j hj; omega)
    _ = _ := sumTo_one _

end Go.Proofs.Ytaogdaoiijmmhaa

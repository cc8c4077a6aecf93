/-
  From the walk to the reference's tests.
-/
import Derived.Test.YtaogdaoiijmmhaaPEq
namespace Go.Proofs.Ytaogdaoiijmmhaa
open Go.RowKit Exs

/-- What m statements from k on hold in their blocks. -/
def kids (f : Fc) (k m : Nat) : List Int := ((f.stmts.drop k).take m).flatMap fun s => s.th ++ s.el
theorem kids_add (f : Fc) (k a b : Nat) : kids f k (a + b) = kids f k a ++ kids f (k + a) b := by
  unfold kids
  rw [← List.flatMap_append]
  congr 1
  rw [← List.drop_drop, List.take_add]
theorem kids_zero (f : Fc) (k : Nat) : kids f k 0 = [] := by simp [kids]
theorem kids_one {f : Fc} {k : Nat} {s : St} (h : f.stmts[k]? = some s) : kids f k 1 = s.th ++ s.el := by
  have hl := (List.getElem?_eq_some_iff.1 h).1
  unfold kids
  rw [List.drop_eq_getElem_cons hl]
  have : f.stmts[k] = s := by rw [List.getElem?_eq_getElem hl] at h; injection h
  simp [this]

structure GoF (f : Fc) (fuel : Nat) (block : List Int) (b : Bool) (k k' : Nat) : Prop where
  le : k ≤ k'
  most : k ≤ f.stmts.length → k' ≤ f.stmts.length
  ord : ord f fuel block = run k (k' - k)
  ris : ∀ (i : Nat) (x : Int), block[i]? = some x → ((k : Int) ≤ x ∧ x < k') ∧ ∀ (i' : Nat) (y : Int), i' + 1 = i → block[i']? = some y → y < x
  calm : b = true → ∀ (j : Nat) (s : St), k ≤ j → j < k' → f.stmts[j]? = some s → s.kind ≠ 3
  each : ∀ (j : Nat) (s : St), k ≤ j → j < k' → f.stmts[j]? = some s → ∃ fuel' b' k1 k2, go f fuel' s.th b' (j + 1) = some k1 ∧ go f fuel' s.el b' k1 = some k2 ∧ k2 ≤ k' ∧ (s.kind = 8 → b' = true) ∧ (f.stmts.length ≤ fuel + k → f.stmts.length ≤ fuel' + (j + 1))
  cnt : ∀ x : Int, block.count x + (kids f k (k' - k)).count x = if (k : Int) ≤ x ∧ x < k' then 1 else 0

theorem GoF.nil (f : Fc) (fuel : Nat) (b : Bool) (k : Nat) : GoF f fuel [] b k k where
  le := Nat.le_refl _
  most := fun h => h
  ord := by rw [ord_nil, Nat.sub_self]; rfl
  ris := fun i x h => by simp at h
  calm := fun _ j s h1 h2 => by omega
  each := fun j s h1 h2 => by omega
  cnt := fun x => by rw [Nat.sub_self, kids_zero]; simp

theorem go_facts (f : Fc) : ∀ (fuel : Nat) (block : List Int) (b : Bool) (k k' : Nat), go f fuel block b k = some k' → GoF f fuel block b k k' := by
  intro fuel
  induction fuel with
  | zero =>
    intro block b k k' h
    cases block with
    | nil => rw [go_nil] at h; injection h with h; subst h; exact GoF.nil ..
    | cons n r => rw [go_zero] at h; cases h
  | succ fuel ih =>
    intro block
    induction block with
    | nil => intro b k k' h; rw [go_nil] at h; injection h with h; subst h; exact GoF.nil ..
    | cons n r ihr =>
      intro b k k' h
      cases hok : okAt f k n b with
      | false => rw [go_stop hok] at h; cases h
      | true =>
        obtain ⟨hnk, s, hs, hbk⟩ := okAt_some hok
        subst hnk
        rw [go_on hok hs] at h
        obtain ⟨k1, h1, h⟩ := Option.bind_eq_some_iff.1 h
        obtain ⟨k2, h2, h3⟩ := Option.bind_eq_some_iff.1 h
        have F1 := ih _ _ _ _ h1
        have F2 := ih _ _ _ _ h2
        have F3 := ihr _ _ _ h3
        have l1 := F1.le
        have l2 := F2.le
        have l3 := F3.le
        have hkl := (List.getElem?_eq_some_iff.1 hs).1
        refine ⟨by omega, fun _ => F3.most (F2.most (F1.most (by omega))), ?_, ?_, ?_, ?_, ?_⟩
        · rw [ord_cons (by simpa using hs), F1.ord, F2.ord, F3.ord, show k' - k = ((k1 - (k + 1)) + (k2 - k1) + (k' - k2)) + 1 by omega, run_succ, run_add, run_add]
          rw [show k + 1 + (k1 - (k + 1)) = k1 by omega, show k + 1 + (k1 - (k + 1) + (k2 - k1)) = k2 by omega]
          simp
        · intro i x hx
          cases i with
          | zero =>
            simp at hx; subst hx
            exact ⟨by omega, fun i' y hi => by omega⟩
          | succ i =>
            have hx' : r[i]? = some x := by simpa using hx
            have hr := F3.ris i x hx'
            refine ⟨by omega, fun i' y hi hy => ?_⟩
            cases i' with
            | zero => simp at hy; subst hy; omega
            | succ i' => exact hr.2 i' y (by omega) (by simpa using hy)
        · intro hb j s' hj1 hj2 hs'
          by_cases e0 : j = k
          · subst e0; rw [hs] at hs'; injection hs' with hs'; subst hs'; exact hbk hb
          · by_cases e1 : j < k1
            · exact F1.calm (by simp [hb]) j s' (by omega) e1 hs'
            · by_cases e2 : j < k2
              · exact F2.calm (by simp [hb]) j s' (by omega) e2 hs'
              · exact F3.calm hb j s' (by omega) hj2 hs'
        · intro j s' hj1 hj2 hs'
          by_cases e0 : j = k
          · subst e0; rw [hs] at hs'; injection hs' with hs'; subst hs'
            exact ⟨fuel, _, k1, k2, h1, h2, by omega, fun h => by simp [h], fun h => by omega⟩
          · by_cases e1 : j < k1
            · obtain ⟨a, c, d, e, x1, x2, x3, x4, x5⟩ := F1.each j s' (by omega) e1 hs'
              exact ⟨a, c, d, e, x1, x2, by omega, x4, fun h => x5 (by omega)⟩
            · by_cases e2 : j < k2
              · obtain ⟨a, c, d, e, x1, x2, x3, x4, x5⟩ := F2.each j s' (by omega) e2 hs'
                exact ⟨a, c, d, e, x1, x2, by omega, x4, fun h => x5 (by omega)⟩
              · obtain ⟨a, c, d, e, x1, x2, x3, x4, x5⟩ := F3.each j s' (by omega) hj2 hs'
                exact ⟨a, c, d, e, x1, x2, by omega, x4, fun h => x5 (by omega)⟩
        · intro x
          have c1 := F1.cnt x
          have c2 := F2.cnt x
          have c3 := F3.cnt x
          rw [show k' - k = 1 + ((k1 - (k + 1)) + (k2 - k1) + (k' - k2)) by omega, kids_add, kids_one hs, kids_add, kids_add]
          rw [show k + 1 + (k1 - (k + 1)) = k1 by omega, show k + 1 + (k1 - (k + 1) + (k2 - k1)) = k2 by omega]
          simp only [List.count_cons, List.count_append] at *
          have hkx : (if ((k : Int) == x) = true then 1 else 0) = if x = (k : Int) then 1 else 0 := by
            by_cases hh : x = (k : Int)
            · subst hh; simp
            · have : ¬ ((k : Int) = x) := fun h => hh h.symm
              simp [hh, this]
          rw [hkx]
          split at c1 <;> split at c2 <;> split at c3 <;> split <;> split <;> omega

theorem blkFrom_flat : ∀ (ss : List St) (k : Nat), (blkFrom k ss).flatMap Prod.snd = ss.flatMap fun s => s.th ++ s.el
  | [], _ => rfl
  | s :: r, k => by simp [blkFrom, blkFrom_flat r (k + 1)]
theorem blkL_count (f : Fc) (x : Int) : ((blkL f).flatMap Prod.snd).count x = f.body.count x + (kids f 0 f.stmts.length).count x := by
  unfold blkL kids
  rw [List.flatMap_cons, blkFrom_flat, List.count_append]
  simp
theorem mem_blkFrom {p : Int × List Int} : ∀ {ss : List St} {k : Nat}, p ∈ blkFrom k ss → ∃ (j : Nat) (s : St), ss[j]? = some s ∧ p.1 = ((k + j : Nat) : Int) ∧ (p.2 = s.th ∨ p.2 = s.el)
  | [], _, h => by simp [blkFrom] at h
  | s :: r, k, h => by
    simp only [blkFrom, List.mem_cons] at h
    rcases h with rfl | rfl | h
    · exact ⟨0, s, rfl, rfl, .inl rfl⟩
    · exact ⟨0, s, rfl, rfl, .inr rfl⟩
    · obtain ⟨j, s', h1, h2, h3⟩ := mem_blkFrom h
      exact ⟨j + 1, s', by simpa using h1, by rw [h2]; congr 1; omega, h3⟩

/-- Where the walk goes through, the reference's tests do. -/
theorem blocks_of_go {f : Fc} (h : go f f.stmts.length f.body false 0 = some f.stmts.length) : blocksOk f ∧ ord f f.stmts.length f.body = run 0 f.stmts.length ∧
    ∀ (j : Nat) (s : St), f.stmts[j]? = some s → ∃ fuel' b' k1 k2, go f fuel' s.th b' (j + 1) = some k1 ∧ go f fuel' s.el b' k1 = some k2 ∧ k2 ≤ f.stmts.length ∧ (s.kind = 8 → b' = true) ∧ f.stmts.length ≤ fuel' + (j + 1) := by
  have F := go_facts f _ _ _ _ _ h
  refine ⟨⟨?_, ?_⟩, by simpa using F.ord, fun j s hs => ?_⟩
  · intro p hp
    simp only [blkL, List.mem_cons] at hp
    rcases hp with rfl | hp
    · refine ⟨fun j x _ hx => ⟨by have := (F.ris j x hx).1; omega, (F.ris j x hx).2⟩, fun n hn => ?_⟩
      obtain ⟨i, hi⟩ := List.getElem?_of_mem hn
      have := (F.ris i n hi).1
      show (-1 : Int) < n
      omega
    · obtain ⟨j, s, hs, h1, h2⟩ := mem_blkFrom hp
      obtain ⟨o, b⟩ := p
      simp only at h1 h2
      rw [Nat.zero_add] at h1
      subst h1
      obtain ⟨fuel', b', k1, k2, g1, g2, hk2, _⟩ := F.each j s (Nat.zero_le _) (List.getElem?_eq_some_iff.1 hs).1 hs
      have G1 := go_facts f _ _ _ _ _ g1
      have G2 := go_facts f _ _ _ _ _ g2
      have := G1.le
      have := G2.le
      rcases h2 with rfl | rfl
      · refine ⟨fun i x _ hx => ⟨by have := (G1.ris i x hx).1; omega, (G1.ris i x hx).2⟩, fun n hn => ?_⟩
        obtain ⟨i, hi⟩ := List.getElem?_of_mem hn
        have := (G1.ris i n hi).1
        show ((j : Nat) : Int) < n
        omega
      · refine ⟨fun i x _ hx => ⟨by have := (G2.ris i x hx).1; omega, (G2.ris i x hx).2⟩, fun n hn => ?_⟩
        obtain ⟨i, hi⟩ := List.getElem?_of_mem hn
        have := (G2.ris i n hi).1
        show ((j : Nat) : Int) < n
        omega
  · intro n hn
    rw [blkL_count]
    have := F.cnt (n : Int)
    rw [Nat.sub_zero, if_pos (by omega)] at this
    exact this
  · obtain ⟨a, c, d, e, x1, x2, x3, x4, x5⟩ := F.each j s (Nat.zero_le _) (List.getElem?_eq_some_iff.1 hs).1 hs
    exact ⟨a, c, d, e, x1, x2, x3, x4, x5 (by omega)⟩

end Go.Proofs.Ytaogdaoiijmmhaa

/-
  The two sides' tests of a function's blocks say the same: the walk goes through just where the reference finds each statement in one block and all in order.
-/
import Derived.Test.YtaogdaoiijmmhaaSpO
import Derived.Test.YtaogdaoiijmmhaaSpB
import Derived.Test.YtaogdaoiijmmhaaPMath
namespace Go.Proofs.Ytaogdaoiijmmhaa
open Go.RowKit Exs

/-- m numbers from k on. -/
def run (k m : Nat) : List Int := (List.range' k m).map fun (i : Nat) => (i : Int)
theorem run_zero (k : Nat) : run k 0 = [] := rfl
theorem run_succ (k m : Nat) : run k (m + 1) = (k : Int) :: run (k + 1) m := by simp [run, List.range'_succ]
theorem run_add (k a b : Nat) : run k (a + b) = run k a ++ run (k + a) b := by
  unfold run
  rw [← List.map_append, List.range'_append_1]
theorem run_length (k m : Nat) : (run k m).length = m := by simp [run]
theorem run_mem {k m : Nat} {x : Int} : x ∈ run k m ↔ (k : Int) ≤ x ∧ x < k + m := by
  unfold run
  simp only [List.mem_map, List.mem_range'_1]
  constructor
  · rintro ⟨i, hi, rfl⟩; omega
  · rintro ⟨h1, h2⟩; exact ⟨x.toNat, by omega, by omega⟩
/-- A run that falls into two parts. -/
theorem run_split {k m : Nat} {a b : List Int} (h : run k m = a ++ b) : a = run k a.length ∧ b = run (k + a.length) b.length ∧ a.length + b.length = m := by
  have hl : a.length + b.length = m := by have := congrArg List.length h; rw [run_length, List.length_append] at this; omega
  rw [← hl, run_add] at h
  have := List.append_inj h (by rw [run_length])
  exact ⟨this.1.symm, this.2.symm, hl⟩

/-- What the reference asks of loops. -/
def Calm (f : Fc) (fuel : Nat) (k m : Nat) : Prop := ∀ (j : Nat) (s : St), k ≤ j → j < k + m → f.stmts[j]? = some s → s.kind = 8 → s.el = [] ∧ ∀ x ∈ ord f fuel s.th, ∀ s', f.stmts[x.toNat]? = some s' → s'.kind ≠ 3

/-- Enough fuel is enough. -/
theorem ord_fuel {f : Fc} (hn : Nest f) : ∀ (fuel fuel' : Nat) (block : List Int) (lo : Nat), (∀ n ∈ block, (lo : Int) ≤ n ∧ n < f.stmts.length) → f.stmts.length ≤ fuel + lo → f.stmts.length ≤ fuel' + lo → ord f fuel block = ord f fuel' block := by
  intro fuel
  induction fuel with
  | zero =>
    intro fuel' block lo hb h1 _
    cases block with
    | nil => rw [ord_nil, ord_nil]
    | cons n r => have := hb n (by simp); omega
  | succ fuel ih =>
    intro fuel' block lo hb h1 h2
    induction block with
    | nil => rw [ord_nil, ord_nil]
    | cons n r ihr =>
      have hnb := hb n (by simp)
      obtain ⟨s, hs⟩ := at_of_range (f := f) (n := n) (by omega) hnb.2
      cases fuel' with
      | zero => omega
      | succ fuel' =>
        rw [ord_cons hs, ord_cons hs, ihr (fun x hx => hb x (by simp [hx]))]
        have hth := ih fuel' s.th (n.toNat + 1) (fun x hx => by have := hn _ _ hs x (.inl hx); omega) (by omega) (by omega)
        have hel := ih fuel' s.el (n.toNat + 1) (fun x hx => by have := hn _ _ hs x (.inr hx); omega) (by omega) (by omega)
        rw [hth, hel]

/-- From the reference's order to the walk. -/
theorem go_of_ord {f : Fc} (hn : Nest f) (F : Nat) (hF : f.stmts.length ≤ F) : ∀ (fuel : Nat) (block : List Int) (b : Bool) (k m lo : Nat), (∀ n ∈ block, (lo : Int) ≤ n ∧ n < f.stmts.length) → f.stmts.length ≤ fuel + lo → ord f fuel block = run k m →
    (b = true → ∀ (j : Nat) (s : St), k ≤ j → j < k + m → f.stmts[j]? = some s → s.kind ≠ 3) → Calm f F k m → go f fuel block b k = some (k + m) := by
  intro fuel
  induction fuel with
  | zero =>
    intro block b k m lo hb h1 ho _ _
    cases block with
    | nil =>
      rw [ord_nil] at ho
      have : m = 0 := by have := congrArg List.length ho; rw [run_length] at this; simpa using this.symm
      rw [go_nil, this]; rfl
    | cons n r => have := hb n (by simp); omega
  | succ fuel ih =>
    intro block
    induction block with
    | nil =>
      intro b k m lo hb h1 ho _ _
      rw [ord_nil] at ho
      have : m = 0 := by have := congrArg List.length ho; rw [run_length] at this; simpa using this.symm
      rw [go_nil, this]; rfl
    | cons n r ihr =>
      intro b k m lo hb h1 ho hbk hcalm
      have hnb := hb n (by simp)
      obtain ⟨s, hs⟩ := at_of_range (f := f) (n := n) (by omega) hnb.2
      rw [ord_cons hs] at ho
      cases m with
      | zero => rw [run_zero] at ho; simp at ho
      | succ m =>
        rw [run_succ, List.cons_append] at ho
        injection ho with hnk ho
        subst hnk
        simp only [Int.toNat_natCast] at hs
        obtain ⟨e12, e3, hl⟩ := run_split ho.symm
        obtain ⟨e1, e2, hl2⟩ := run_split e12.symm
        have hk : ((b = true) → s.kind ≠ 3) := fun h => hbk h k s (Nat.le_refl _) (by omega) hs
        have hok : okAt f k (k : Int) b = true := by
          unfold okAt
          rw [hs]
          cases b
          · simp
          · simpa using hk rfl
        rw [go_on hok hs]
        have hll : (ord f fuel s.th ++ ord f fuel s.el).length = (ord f fuel s.th).length + (ord f fuel s.el).length := List.length_append
        have hfu : ord f fuel s.th = ord f F s.th := ord_fuel hn fuel F s.th (k + 1) (fun x hx => by have := hn _ _ hs x (.inl hx); omega) (by omega) (by omega)
        have hw8 := hcalm k s (Nat.le_refl _) (by omega) hs
        have g1 := ih s.th (b || decide (s.kind = 8)) (k + 1) (ord f fuel s.th).length (k + 1) (fun x hx => by have := hn _ _ hs x (.inl hx); omega) (by omega) e1
          (fun hbb j s' h1 h2 hj => by
            cases b with
            | true => exact hbk rfl j s' (by omega) (by omega) hj
            | false =>
              have h8 : s.kind = 8 := by simpa using hbb
              have hx : (j : Int) ∈ ord f F s.th := by rw [← hfu, e1, run_mem]; omega
              exact (hw8 h8).2 _ hx s' (by simpa using hj))
          (fun j s' h1 h2 => hcalm j s' (by omega) (by omega))
        rw [g1, Option.bind_some]
        have g2 := ih s.el (b || decide (s.kind = 8)) (k + 1 + (ord f fuel s.th).length) (ord f fuel s.el).length (k + 1) (fun x hx => by have := hn _ _ hs x (.inr hx); omega) (by omega) e2
          (fun hbb j s' h1 h2 hj => by
            cases b with
            | true => exact hbk rfl j s' (by omega) (by omega) hj
            | false =>
              have h8 : s.kind = 8 := by simpa using hbb
              have : ord f fuel s.el = [] := by rw [(hw8 h8).1, ord_nil]
              rw [this] at h2; simp at h2; omega)
          (fun j s' h1 h2 => hcalm j s' (by omega) (by omega))
        rw [g2, Option.bind_some]
        have g3 := ihr b (k + 1 + (ord f fuel s.th).length + (ord f fuel s.el).length) (ord f (fuel + 1) r).length lo (fun x hx => hb x (by simp [hx])) h1 (by rw [e3, run_length, hll]; congr 1; omega)
          (fun h j s' h1 h2 => hbk h j s' (by omega) (by omega)) (fun j s' h1 h2 => hcalm j s' (by omega) (by omega))
        rw [g3]
        congr 1
        omega

end Go.Proofs.Ytaogdaoiijmmhaa

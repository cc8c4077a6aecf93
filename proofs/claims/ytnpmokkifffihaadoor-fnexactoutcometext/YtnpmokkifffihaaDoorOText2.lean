/-
  The contracts of the reference's and of the program's OutcomeText.
-/
import Derived.Test.YtnpmokkifffihaaDoorOText
import Derived.Test.YtnpmokkifffihaaDoorRowI
import Derived.Test.YtnpmokkifffihaaDoorNeeds
namespace Go.Proofs.YtnpmokkifffihaaDoor
open Go.RowKit Exs
set_option linter.unusedVariables false

theorem allIn_bound (xs : List Int) : allIn (-2147483648) 2147483647 xs = xs.all bound := rfl

set_option maxHeartbeats 1000000 in
set_option maxRecDepth 100000 in
theorem specOutcomeText_any (o : Oc) (A : Option Addr) (n c : Nat) (w : World) (hr : Reads w w.heap.size .i64 A n o.trace) (hn : n ≤ 1048576) :
    Calls Tryd.prog 5 #[ocV o A n c] w fun e w' => e = .returned (.tuple #[.string (strB (ocAns o).1), .bool (ocAns o).2]) ∧ Below w.heap.size w w' := by
  have hb0 : Below w.heap.size w (w.alloc (.cells #[.int .i64 o.code, .int .i64 o.value, .slice A n c, .int .i64 o.used] 28)) := (Below.refl _ _).alloc (Nat.le_refl _) _
  have hl := put hr.1
  unfold ocV
  cases h1 : within o.code 1 5 with
  | false =>
    have HF := put (ocAns_no (.inl h1))
    go_enter Tryd.func5, Tryd.ntmps5
    go_wp2_with fail
    refine (l1In_any _ _ _ _).mono ?_
    rintro e w1 ⟨rfl, rfl⟩
    go_wp2
    go_ret2
    exact ⟨ret_text (by rw [HF.out]), hb0⟩
  | true =>
    by_cases h2 : n ≤ 600
    · have h2' : ¬ (600 : Int) < n := by omega
      cases h3 : o.trace.all bound with
      | false =>
        have HF := put (ocAns_no (o := o) (.inr (.inr (.inl h3))))
        rw [← allIn_bound] at h3
        go_enter Tryd.func5, Tryd.ntmps5
        go_wp2_with fail
        refine (l1In_any _ _ _ _).mono ?_
        rintro e w1 ⟨rfl, rfl⟩
        go_wp2_with fail
        refine (l1All_any A n c o.trace _ _ _ (hr.now hb0) hn).mono ?_
        rintro e w1 ⟨rfl, rfl⟩
        go_wp2
        go_ret2
        exact ⟨ret_text (by rw [HF.out]), hb0⟩
      | true =>
        have H3 := put h3
        rw [← allIn_bound] at h3
        cases h4 : bound o.value with
        | false =>
          have HF := put (ocAns_no (o := o) (.inr (.inr (.inr (.inl h4)))))
          go_enter Tryd.func5, Tryd.ntmps5
          go_wp2_with fail
          refine (l1In_any _ _ _ _).mono ?_
          rintro e w1 ⟨rfl, rfl⟩
          go_wp2_with fail
          refine (l1All_any A n c o.trace _ _ _ (hr.now hb0) hn).mono ?_
          rintro e w1 ⟨rfl, rfl⟩
          go_wp2_with fail
          refine (l2Bound_any _ _).mono ?_
          rintro e w1 ⟨rfl, rfl⟩
          go_wp2
          go_ret2
          exact ⟨ret_text (by rw [HF.out]), hb0⟩
        | true =>
          cases h5 : bound o.used with
          | false =>
            have HF := put (ocAns_no (o := o) (.inr (.inr (.inr (.inr h5)))))
            go_enter Tryd.func5, Tryd.ntmps5
            go_wp2_with fail
            refine (l1In_any _ _ _ _).mono ?_
            rintro e w1 ⟨rfl, rfl⟩
            go_wp2_with fail
            refine (l1All_any A n c o.trace _ _ _ (hr.now hb0) hn).mono ?_
            rintro e w1 ⟨rfl, rfl⟩
            go_wp2_with fail
            refine (l2Bound_any _ _).mono ?_
            rintro e w1 ⟨rfl, rfl⟩
            go_wp2_with fail
            refine (l2Bound_any _ _).mono ?_
            rintro e w1 ⟨rfl, rfl⟩
            go_wp2
            go_ret2
            exact ⟨ret_text (by rw [HF.out]), hb0⟩
          | true =>
            have HF := put (ocAns_yes h1 (by rw [hl.out]; exact h2) H3.out h4 h5)
            go_enter Tryd.func5, Tryd.ntmps5
            go_wp2_with fail
            refine (l1In_any _ _ _ _).mono ?_
            rintro e w1 ⟨rfl, rfl⟩
            go_wp2_with fail
            refine (l1All_any A n c o.trace _ _ _ (hr.now hb0) hn).mono ?_
            rintro e w1 ⟨rfl, rfl⟩
            go_wp2_with fail
            refine (l2Bound_any _ _).mono ?_
            rintro e w1 ⟨rfl, rfl⟩
            go_wp2_with fail
            refine (l2Bound_any _ _).mono ?_
            rintro e w1 ⟨rfl, rfl⟩
            go_wp2_with fail
            refine (l4Text_any o A n c _ (hr.now hb0) h1 h2 H3 h4).mono ?_
            rintro e w2 ⟨rfl, hb2⟩
            go_wp2
            go_ret2
            exact ⟨ret_text (by rw [HF.out]), hb0.trans (hb2.mono hb0.size)⟩
    · have h2' : (600 : Int) < n := by omega
      have HF := put (ocAns_no (o := o) (.inr (.inl (by rw [hl.out]; exact h2))))
      go_enter Tryd.func5, Tryd.ntmps5
      go_wp2_with fail
      refine (l1In_any _ _ _ _).mono ?_
      rintro e w1 ⟨rfl, rfl⟩
      go_wp2
      go_ret2
      exact ⟨ret_text (by rw [HF.out]), hb0⟩

end Go.Proofs.YtnpmokkifffihaaDoor

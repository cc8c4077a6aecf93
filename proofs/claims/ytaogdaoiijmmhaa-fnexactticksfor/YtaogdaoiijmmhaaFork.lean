/-
  One number appended to a row of numbers that others still read: what is kept. Over any program.
-/
import Derived.Test.YtaogdaoiijmmhaaOwn
namespace Go.Proofs.Ytaogdaoiijmmhaa
open Go.RowKit Exs

/-- From block B on rows of ints may have been written behind their first m numbers; all else is as it was. -/
structure Fork (m B : Nat) (w w' : World) : Prop where
  below : Below B w w'
  keep : ∀ g cs t, t ≠ 3 → Keep w g cs t → Keep w' g cs t
  nums : ∀ u zs, zs.length ≤ m → Nums w B 3 .i64 u zs → Nums w' B 3 .i64 u zs
theorem Fork.of_below {m B : Nat} {w w' : World} (hB : B ≤ w.heap.size) (h : Below w.heap.size w w') : Fork m B w w' :=
  ⟨h.mono hB, fun _ _ _ _ k => k.below h, fun _ _ _ k => k.belowNew h⟩
theorem Fork.refl (m B : Nat) (w : World) : Fork m B w w := ⟨Below.refl _ _, fun _ _ _ _ k => k, fun _ _ _ k => k⟩
theorem Fork.trans {m B : Nat} {a b c : World} (h : Fork m B a b) (k : Fork m B b c) : Fork m B a c :=
  ⟨h.below.trans k.below, fun g cs t ht x => k.keep g cs t ht (h.keep g cs t ht x), fun u zs hz x => k.nums u zs hz (h.nums u zs hz x)⟩
theorem Fork.mono {m m' B : Nat} {w w' : World} (h : Fork m B w w') (hm : m' ≤ m) : Fork m' B w w' := ⟨h.below, h.keep, fun u zs hz x => h.nums u zs (Nat.le_trans hz hm) x⟩
theorem Fork.drew {m B : Nat} {a w : World} (h : Fork m B a w) : Fork m B a w.drew := ⟨h.below.drew, fun g cs t ht x => h.keep g cs t ht x, fun u zs hz x => h.nums u zs hz x⟩

theorem run_append_fork {P : Program} (w : World) (B : Nat) (t ty : TypeId) (bytes : Nat) (hinfo : (P.info? 3).map (fun i => (i.zero, i.size, i.bytes)) = some (some (.int .i64 0), 1, bytes)) (ht : P.underlying t = some (.slice 3)) (hby : bytes ≤ 8)
    (v : Value) (xs : List Int) (hown : Nums w B 3 .i64 v xs) (hB : B ≤ w.heap.size) (g0 : Nat) (b : Int) (hcell : w.cell? ⟨g0, 0, none⟩ = some (.int .i64 b)) (hlen : xs.length ≤ 1000000) :
    ∃ v' w', (Builtin.append_ #[t, t] ty #[v, .slice (some ⟨g0, 0, none⟩) 1 1]).run P w = .ok v' w' ∧ Nums w' B 3 .i64 v' (xs ++ [b]) ∧ Fork xs.length B w w' := by
  obtain ⟨i0, hi, hz0, hz1, hz2⟩ := info_parts hinfo
  have hnews : ∀ j u, [Value.int .i64 b][j]? = some u → w.cell? ((⟨g0, 0, none⟩ : Addr).add j) = some u := by
    intro j u hj
    match j, hj with
    | 0, hj => simp at hj; subst hj; simpa [Addr.add] using hcell
  have hone : ∀ u ∈ [Value.int .i64 b], u.oneCell' = true := by intro u hu; simp at hu; subst hu; rfl
  have hbytes : (xs.length + 1) * bytes ≤ 140737488355328 := by
    have : (xs.length + 1) * bytes ≤ (xs.length + 1) * 8 := Nat.mul_le_mul_left _ hby
    omega
  obtain ⟨v', w', hr, h2, h3, _⟩ := run_append_own (P := P) w B t ty 3 i0 (.int .i64 0) 1 bytes ht hi hz0 hz1 hz2 rfl (by decide) v xs.length _ hown ⟨g0, 0, none⟩ 1 1 [.int .i64 b] rfl hnews hone (by unfold maxLen; omega) hbytes hB
  refine ⟨v', w', hr, by unfold Nums; simpa using h2, ?_⟩
  have hfresh : ∀ o : Obj, w' = w.drew.alloc o → Fork xs.length B w w' := by
    rintro o rfl
    have : Below w.heap.size w (w.drew.alloc o) := (Below.refl _ w).drew.alloc (Nat.le_refl _) o
    exact Fork.of_below hB this
  rcases hown.2 with ⟨rfl, h0⟩ | ⟨g, cap, cur, rfl, hbg, hg, hnc, hcm, hcs, htake⟩
  · have hr2 := run_append_nil (P := P) w t ty 3 i0 (.int .i64 0) ht hi hz0 ⟨g0, 0, none⟩ 1 1 [.int .i64 b] (by simp [hz1]) hnews (by omega) (by omega) (by omega)
    rw [hr] at hr2
    injection hr2 with _ hw
    exact hfresh _ hw
  · by_cases hroom : xs.length + 1 ≤ cap
    · have hfit : xs.length * i0.size + [Value.int .i64 b].length ≤ cur.size := by rw [hz1, hcs]; simp; omega
      have hr2 := run_append_room (P := P) w t ty 3 i0 ht hi g xs.length cap cur hg ⟨g0, 0, none⟩ 1 1 [.int .i64 b] (by simp [hz1]) hnews hone hroom hfit
      rw [hr] at hr2
      injection hr2 with _ hw
      subst hw
      have hoth : ∀ k, k ≠ g → (w.setRow g (cur.toList.take (xs.length * i0.size) ++ [Value.int .i64 b] ++ cur.toList.drop (xs.length * i0.size + [Value.int .i64 b].length)).toArray).heap[k]? = w.heap[k]? := fun k hk => setRow_other w g k _ hk
      refine ⟨⟨rfl, rfl, rfl, by simp, fun k hk => hoth k (by omega)⟩, fun k cs t ht hk => ?_, fun u zs hz hu => ?_⟩
      · refine (hoth k ?_).trans hk
        rintro rfl
        unfold Keep at hk
        rw [hg] at hk
        injection hk with hk
        injection hk with _ hk _
        exact ht hk.symm
      · refine ⟨hu.1, ?_⟩
        rcases hu.2 with hu2 | ⟨g', cap', cur', hv, hb', hg', hn', hm', hs', ht'⟩
        · exact .inl hu2
        · by_cases hgg : g' = g
          · subst hgg
            rw [hg] at hg'
            injection hg' with hg'
            injection hg' with hcc _ _
            subst hcc
            refine .inr ⟨g', cap', _, hv, hb', setRow_heap w g' cur _ 3 _ hg, hn', hm', ?_, ?_⟩
            · rw [← hs', hz1]
              simp only [List.size_toArray, List.length_append, List.length_take, List.length_drop, Array.length_toList, List.length_cons, List.length_nil]
              omega
            · rw [← ht', hz1]
              simp only [Nat.mul_one]
              rw [List.append_assoc, List.take_append_of_le_length (by simp; omega), List.take_take]
              congr 1
              omega
          · exact .inr ⟨g', cap', cur', hv, hb', (hoth g' hgg).trans hg', hn', hm', hs', ht'⟩
    · have holds : ∀ j u, (xs.map (Value.int .i64))[j]? = some u → w.cell? ((⟨g, 0, none⟩ : Addr).add j) = some u := World.ownsRow.cells (g := g) hown rfl
      have hr2 := run_append_grow (P := P) w t ty 3 i0 (.int .i64 0) ht hi hz0 ⟨g, 0, none⟩ xs.length cap (xs.map (Value.int .i64)) (by simp [hz1]) holds ⟨g0, 0, none⟩ 1 1 [.int .i64 b] (by simp [hz1]) hnews (by omega) (by omega) (by rw [hz2]; exact growslice_fits (by omega) hbytes)
      rw [hr] at hr2
      injection hr2 with _ hw
      exact hfresh _ hw

theorem step_append_fork {P : Program} {w : World} {ops : Array Oper} {o : Oper} {a : Act} {K : Act → World → Prop} {Q : Exit → Act → World → Prop} {E : Prop} (hgd : o.guard = none) (s x : Operand) (t : TypeId)
    (ho : o.op = .call { callee := .builtin .append, args := #[s, x], argTypes := #[t, t] })
    (B bytes : Nat) (hinfo : (P.info? 3).map (fun i => (i.zero, i.size, i.bytes)) = some (some (.int .i64 0), 1, bytes)) (ht : P.underlying t = some (.slice 3)) (hby : bytes ≤ 8)
    (v : Value) (xs : List Int) (hs : a.eval s = v) (hown : Nums w B 3 .i64 v xs) (hB : B ≤ w.heap.size) (g0 : Nat) (b : Int) (hx : a.eval x = .slice (some ⟨g0, 0, none⟩) 1 1) (hcell : w.cell? ⟨g0, 0, none⟩ = some (.int .i64 b)) (hlen : xs.length ≤ 1000000)
    (h : ∀ v' w', Nums w' B 3 .i64 v' (xs ++ [b]) → Fork xs.length B w w' → K (a.put o.dst v') w') : if Region.wanted o (yielded ops a.tmps) = true then Oper.wp P o a w K Q else E := by
  have hw : Region.wanted o (yielded ops a.tmps) = true := by simp [Region.wanted, hgd]
  rw [if_pos hw]
  obtain ⟨v', w', hr, h2, h3⟩ := run_append_fork (P := P) w B t o.type bytes hinfo ht hby v xs hown hB g0 b hcell hlen
  unfold Oper.wp execOp
  simp only [ho, resolve, invoke, builtin, Sem.run_bind, Sem.run_pure, Result.andThen_ok, List.map_toArray, List.map_cons, List.map_nil, hs, hx, hr]
  exact h v' w' h2 h3

end Go.Proofs.Ytaogdaoiijmmhaa

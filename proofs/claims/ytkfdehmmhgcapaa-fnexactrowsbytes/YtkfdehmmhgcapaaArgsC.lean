/-
  A code that came in, opened to what the walks ask.
-/
import Derived.Test.YtkfdehmmhgcapaaArgsP
import Derived.Test.YtkfdehmmhgcapaaCoSz
namespace Go.Proofs.Ytkfdehmmhgcapaa
open Go.ChangeShapes Go.WideShapes Go.ChangeAt Go.RowKit Go.Deep Exs

section
variable {H : Type} {enc : TypeId × Value → H} {w : World} {held : Bool}
/-- A slice of rows that came in. -/
theorem cell_rows {v : Value} {n : Nat} {y : DataW H × List MemPlace} (h : DataW.trod enc Try.prog w 0 (fun _ => true) held n 22 [v] = some y) : ∃ A m c rs, v = .slice A m c ∧ ReadsR w w.heap.size A m rs ∧ m ≤ maxLen := by
  obtain ⟨A, m, c, h0, hm, hrow⟩ := open_rows (N := 3) Try.underlying22 Try.underlying56 (by kernel_rfl) (by kernel_rfl) (by decide) rfl h
  injection h0 with h0
  subst h0
  by_cases hpos : 0 < m
  · obtain ⟨b, off, rfl, hb, hi⟩ := hrow hpos
    obtain ⟨rs, hl, hq⟩ := list_of (Q := fun i (r : Row3) => w.cell? ⟨b, off + i * 3, none⟩ = some (.int .i64 r.1) ∧ w.cell? ⟨b, off + i * 3 + 1, none⟩ = some (.int .i64 r.2.1) ∧ w.cell? ⟨b, off + i * 3 + 2, none⟩ = some (.int .i64 r.2.2)) m (fun i hlt => by
        obtain ⟨cs', hlc, hcell, hf⟩ := hi i hlt
        obtain ⟨v0, y0, k0, e0, t0⟩ := hf 0 _ rfl
        obtain ⟨v1, y1, k1, e1, t1⟩ := hf 1 _ rfl
        obtain ⟨v2, y2, k2, e2, t2⟩ := hf 2 _ rfl
        obtain ⟨x, rfl⟩ := cell_int t0
        obtain ⟨yy, rfl⟩ := cell_int t1
        obtain ⟨z, rfl⟩ := cell_int t2
        have g := fun j hj => hcell j hj
        refine ⟨(x, yy, z), ?_, ?_, ?_⟩
        · have := g 0 (by omega); rw [e0] at this; simpa using this
        · have := g 1 (by omega); rw [e1] at this; rw [← this]; rfl
        · have := g 2 (by omega); rw [e2] at this; rw [← this]; rfl)
    refine ⟨_, _, _, rs, rfl, ⟨hl, by rw [flat3_length, hl], fun _ => ⟨b, off, rfl, hb, fun j x hx => ?_⟩⟩, hm⟩
    have hj : j < 3 * m := by
      have := (List.getElem?_eq_some_iff.1 hx).1
      rw [flat3_length, hl] at this
      exact this
    have hk : j / 3 < rs.length := by omega
    have hg := List.getElem?_eq_getElem hk
    have hfa := flat3_at hg
    obtain ⟨q0, q1, q2⟩ := hq _ _ hg
    rcases (show j = 3 * (j / 3) ∨ j = 3 * (j / 3) + 1 ∨ j = 3 * (j / 3) + 2 by omega) with hjj | hjj | hjj
    · rw [hjj, hfa.1] at hx
      injection hx with hx
      rw [show off + j = off + j / 3 * 3 by omega, q0, hx]
    · rw [hjj, hfa.2.1] at hx
      injection hx with hx
      rw [show off + j = off + j / 3 * 3 + 1 by omega, q1, hx]
    · rw [hjj, hfa.2.2] at hx
      injection hx with hx
      rw [show off + j = off + j / 3 * 3 + 2 by omega, q2, hx]
  · exact ⟨A, m, c, [], rfl, ⟨by simp; omega, by simp [flat3]; omega, fun h => absurd h (by omega)⟩, hm⟩

/-- A struct of five one-cell fields that came in. -/
theorem open_agg5 {P : Program} {r : Reach} {b0 : Nat} {t : TypeId} {f0 f1 f2 f3 f4 : Field} {v : Value} {d : DataW H} {p : List MemPlace} (hs : P.underlying t = some (.struct #[f0, f1, f2, f3, f4])) (hone : oneCellFields P #[f0, f1, f2, f3, f4] = true) (hC : P.cellsOf t = 5)
    (hv : Value.okWide P w r b0 t v) (h : DataW.Trod enc P w 0 (fun _ => true) held t v d p) : ∃ (v0 v1 v2 v3 v4 : Value) (y0 y1 y2 y3 y4 : DataW H × List MemPlace) (n : Nat), v = .agg #[v0, v1, v2, v3, v4] ∧ DataW.trod enc P w 0 (fun _ => true) held n f0.type [v0] = some y0 ∧ DataW.trod enc P w 0 (fun _ => true) held n f1.type [v1] = some y1 ∧ DataW.trod enc P w 0 (fun _ => true) held n f2.type [v2] = some y2 ∧ DataW.trod enc P w 0 (fun _ => true) held n f3.type [v3] = some y3 ∧ DataW.trod enc P w 0 (fun _ => true) held n f4.type [v4] = some y4 := by
  obtain ⟨cs, rfl, hsz⟩ := okWide_struct hs hv
  obtain ⟨c0, c1, c2, c3, c4, rfl⟩ : ∃ c0 c1 c2 c3 c4, cs = #[c0, c1, c2, c3, c4] := by
    have h1 := hsz.trans hC
    match cs, h1 with
    | ⟨[c0, c1, c2, c3, c4]⟩, _ => exact ⟨c0, c1, c2, c3, c4, rfl⟩
  obtain ⟨fuel, hf⟩ := h
  obtain ⟨xs, k, _, _, _, hxl, hfl⟩ := DataW.trod_struct hs hf
  obtain ⟨o0, k0⟩ := hone_of hone 0 f0 rfl
  have h0 := hfl 0 f0 rfl
  obtain ⟨y0, hy0⟩ : ∃ y, xs[0]? = some y := ⟨_, List.getElem?_eq_getElem (by rw [hxl]; simp)⟩
  rw [hy0] at h0
  obtain ⟨o1, k1⟩ := hone_of hone 1 f1 rfl
  have h1 := hfl 1 f1 rfl
  obtain ⟨y1, hy1⟩ : ∃ y, xs[1]? = some y := ⟨_, List.getElem?_eq_getElem (by rw [hxl]; simp)⟩
  rw [hy1] at h1
  obtain ⟨o2, k2⟩ := hone_of hone 2 f2 rfl
  have h2 := hfl 2 f2 rfl
  obtain ⟨y2, hy2⟩ : ∃ y, xs[2]? = some y := ⟨_, List.getElem?_eq_getElem (by rw [hxl]; simp)⟩
  rw [hy2] at h2
  obtain ⟨o3, k3⟩ := hone_of hone 3 f3 rfl
  have h3 := hfl 3 f3 rfl
  obtain ⟨y3, hy3⟩ : ∃ y, xs[3]? = some y := ⟨_, List.getElem?_eq_getElem (by rw [hxl]; simp)⟩
  rw [hy3] at h3
  obtain ⟨o4, k4⟩ := hone_of hone 4 f4 rfl
  have h4 := hfl 4 f4 rfl
  obtain ⟨y4, hy4⟩ : ∃ y, xs[4]? = some y := ⟨_, List.getElem?_eq_getElem (by rw [hxl]; simp)⟩
  rw [hy4] at h4
  exact ⟨c0, c1, c2, c3, c4, y0, y1, y2, y3, y4, k, rfl, by simpa [Value.cells, o0, k0] using h0, by simpa [Value.cells, o1, k1] using h1, by simpa [Value.cells, o2, k2] using h2, by simpa [Value.cells, o3, k3] using h3, by simpa [Value.cells, o4, k4] using h4⟩

end

end Go.Proofs.Ytkfdehmmhgcapaa

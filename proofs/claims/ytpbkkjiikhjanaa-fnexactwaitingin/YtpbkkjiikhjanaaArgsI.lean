/-
  An image that came in, opened to what the walks ask.
-/
import Derived.Test.YtpbkkjiikhjanaaArgs
import Derived.Test.YtpbkkjiikhjanaaCoSz
namespace Go.Proofs.Ytpbkkjiikhjanaa
open Go.ChangeShapes Go.WideShapes Go.ChangeAt Go.RowKit Go.Deep Exs

section
variable {H : Type} {enc : TypeId × Value → H} {P : Program} {w : World} {held : Bool}

/-- A slice of structs of one-cell fields, opened at every index. -/
theorem open_rows {t e : TypeId} {fs : Array Field} {N fuel : Nat} {cs : List Value} {x : DataW H × List MemPlace} (ht : P.underlying t = some (.slice e)) (he : P.underlying e = some (.struct fs)) (ce : P.cellsOf e = N) (hone : oneCellFields P fs = true) (hN : 0 < N) (hfs : fs.size = N)
    (h : DataW.trod enc P w 0 (fun _ => true) held fuel t cs = some x) :
    ∃ (A : Option Addr) (len cap : Nat), cs = [.slice A len cap] ∧ len ≤ maxLen ∧ (0 < len → ∃ b off, A = some ⟨b, off, none⟩ ∧ b < w.heap.size ∧ ∀ i, i < len → ∃ cs' : List Value, cs'.length = N ∧ (∀ j, j < N → w.cell? ⟨b, off + (i * N + j), none⟩ = cs'[j]?) ∧
      ∀ (j : Nat) (f : Field), fs[j]? = some f → ∃ v y n, cs'[j]? = some v ∧ DataW.trod enc P w 0 (fun _ => true) held n f.type [v] = some y) := by
  rcases open_slice ht h with ⟨h0, _⟩ | ⟨a, len, cap, m, n, D, Pl, rfl, hb, hl, hm, hmm, rfl, hx⟩
  · exact ⟨none, 0, 0, h0, by unfold maxLen; omega, fun h => absurd h (by omega)⟩
  simp only [if_true] at hmm
  subst hmm
  refine ⟨some a, len, _, rfl, by omega, fun hlen => ?_⟩
  obtain ⟨b, off, spot⟩ := a
  obtain ⟨cs0, h0, _⟩ := hx 0 (by omega)
  obtain ⟨_, hl0, hc0⟩ := World.cells?_some h0
  have hz := hc0 0 (by omega)
  rw [List.getElem?_eq_getElem (by omega)] at hz
  have hspot : spot = none := by
    have := World.cell?_spot hz
    simpa [Addr.add] using this
  subst hspot
  refine ⟨b, off, rfl, ?_, fun i hi => ?_⟩
  · have := World.block_lt_of_cell? w _ hz
    simpa [addr_add_none] using this
  · obtain ⟨cs', h1, h2⟩ := hx i (by omega)
    rw [ce] at h1
    obtain ⟨_, hlc, hcell⟩ := World.cells?_some h1
    obtain ⟨xs, k, hk, _, _, hxl, hf⟩ := DataW.trod_struct he h2
    refine ⟨cs', hlc, fun j hj => ?_, fun j f hfj => ?_⟩
    · have := hcell j hj
      rw [addr_add_none, addr_add_none] at this
      rw [← this]
      congr 2
      omega
    · obtain ⟨o, c⟩ := hone_of hone j f hfj
      have hjN : j < N := by rw [← hfs]; exact (Array.getElem?_eq_some_iff.1 hfj).1
      have hjj := hf j f hfj
      rw [o, c, List.drop_eq_getElem_cons (by omega), List.take_succ_cons, List.take_zero] at hjj
      rw [List.getElem?_eq_getElem (by rw [hxl]; omega)] at hjj
      exact ⟨_, _, _, List.getElem?_eq_getElem (by omega), hjj⟩
end

section
variable {H : Type} {enc : TypeId × Value → H} {w : World} {held : Bool}

theorem cell_reads {t : TypeId} {v : Value} {n : Nat} {y : DataW H × List MemPlace} (ht : Try.prog.underlying t = some (.slice 3)) (h : DataW.trod enc Try.prog w 0 (fun _ => true) held n t [v] = some y) : ∃ A m c xs, v = .slice A m c ∧ Reads w w.heap.size .i64 A m xs ∧ m ≤ maxLen := by
  rcases open_slice ht h with ⟨h0, _⟩ | ⟨a, len, cap, m', n', D, Pl, h0, _⟩
  · injection h0 with h0; subst h0
    obtain ⟨xs, h1, h2, _⟩ := open_reads (d := y.1) (p := y.2) ht Try.underlying3 (by kernel_rfl) ⟨n, by simpa [Value.cells] using h⟩
    exact ⟨_, _, _, xs, rfl, h1, h2⟩
  · injection h0 with h0; subst h0
    obtain ⟨xs, h1, h2, _⟩ := open_reads (d := y.1) (p := y.2) ht Try.underlying3 (by kernel_rfl) ⟨n, by simpa [Value.cells] using h⟩
    exact ⟨_, _, _, xs, rfl, h1, h2⟩
theorem cell_int {v : Value} {n : Nat} {y : DataW H × List MemPlace} (h : DataW.trod enc Try.prog w 0 (fun _ => true) held n 3 [v] = some y) : ∃ x : Int, v = .int .i64 x := by
  obtain ⟨x, h1, _⟩ := DataW.trod_int Try.underlying3 h
  injection h1 with h1
  exact ⟨x, h1⟩
theorem list_of {α : Type} {Q : Nat → α → Prop} : ∀ (n : Nat), (∀ i, i < n → ∃ s, Q i s) → ∃ ss : List α, ss.length = n ∧ ∀ (i : Nat) (s : α), ss[i]? = some s → Q i s
  | 0, _ => ⟨[], rfl, fun i s h => by simp at h⟩
  | n + 1, h => by
    obtain ⟨ss, h1, h2⟩ := list_of n (fun i hi => h i (by omega))
    obtain ⟨s, hs⟩ := h n (by omega)
    refine ⟨ss ++ [s], by simp [h1], fun i s' hi => ?_⟩
    by_cases hl : i < ss.length
    · rw [List.getElem?_append_left hl] at hi; exact h2 i s' hi
    · have hi2 : i = n := by have := (List.getElem?_eq_some_iff.1 hi).1; simp at this; omega
      subst hi2
      rw [List.getElem?_append_right (by omega), h1, Nat.sub_self] at hi
      simp at hi
      subst hi
      exact hs


/-- A slice of rows that came in. -/
theorem cell_rows {v : Value} {n : Nat} {y : DataW H × List MemPlace} (h : DataW.trod enc Try.prog w 0 (fun _ => true) held n 24 [v] = some y) : ∃ A m c rs, v = .slice A m c ∧ ReadsR w w.heap.size A m rs ∧ m ≤ maxLen := by
  obtain ⟨A, m, c, h0, hm, hrow⟩ := open_rows (N := 3) Try.underlying24 Try.underlying63 (by kernel_rfl) (by kernel_rfl) (by decide) rfl h
  injection h0 with h0
  subst h0
  by_cases hpos : 0 < m
  · obtain ⟨b, off, rfl, hb, hi⟩ := hrow hpos
    obtain ⟨rs, hl, hq⟩ := list_of (Q := fun i (r : Row3) => w.cell? ⟨b, off + i * 3, none⟩ = some (.int .i64 r.1) ∧ w.cell? ⟨b, off + i * 3 + 1, none⟩ = some (.int .i64 r.2.1) ∧ w.cell? ⟨b, off + i * 3 + 2, none⟩ = some (.int .i64 r.2.2)) m (fun i hlt => by
        obtain ⟨cs', hlc, hcell, hf⟩ := hi i hlt
        obtain ⟨v0, y0, k0, e0, t0⟩ := hf 0 _ rfl
        obtain ⟨v1, y1, k1, e1, t1⟩ := hf 1 _ rfl
        obtain ⟨v2, y2, k2, e2, t2⟩ := hf 2 _ rfl
        obtain ⟨x, rfl⟩ := cell_int t0
        obtain ⟨yy, rfl⟩ := cell_int t1
        obtain ⟨z, rfl⟩ := cell_int t2
        have g := fun j hj => hcell j hj
        refine ⟨(x, yy, z), ?_, ?_, ?_⟩
        · have := g 0 (by omega); rw [e0] at this; simpa using this
        · have := g 1 (by omega); rw [e1] at this; rw [← this]; rfl
        · have := g 2 (by omega); rw [e2] at this; rw [← this]; rfl)
    refine ⟨_, _, _, rs, rfl, ⟨hl, by rw [flat3_length, hl], fun _ => ⟨b, off, rfl, hb, fun j x hx => ?_⟩⟩, hm⟩
    have hj : j < 3 * m := by
      have := (List.getElem?_eq_some_iff.1 hx).1
      rw [flat3_length, hl] at this
      exact this
    have hk : j / 3 < rs.length := by omega
    have hg := List.getElem?_eq_getElem hk
    have hfa := flat3_at hg
    obtain ⟨q0, q1, q2⟩ := hq _ _ hg
    rcases (show j = 3 * (j / 3) ∨ j = 3 * (j / 3) + 1 ∨ j = 3 * (j / 3) + 2 by omega) with hjj | hjj | hjj
    · rw [hjj, hfa.1] at hx
      injection hx with hx
      rw [show off + j = off + j / 3 * 3 by omega, q0, hx]
    · rw [hjj, hfa.2.1] at hx
      injection hx with hx
      rw [show off + j = off + j / 3 * 3 + 1 by omega, q1, hx]
    · rw [hjj, hfa.2.2] at hx
      injection hx with hx
      rw [show off + j = off + j / 3 * 3 + 2 by omega, q2, hx]
  · exact ⟨A, m, c, [], rfl, ⟨by simp; omega, by simp [flat3]; omega, fun h => absurd h (by omega)⟩, hm⟩
/-- A struct of one one-cell field that came in. -/
theorem open_agg1 {P : Program} {r : Reach} {b0 : Nat} {t : TypeId} {f0 : Field} {v : Value} {d : DataW H} {p : List MemPlace} (hs : P.underlying t = some (.struct #[f0])) (hone : oneCellFields P #[f0] = true) (hC : P.cellsOf t = 1)
    (hv : Value.okWide P w r b0 t v) (h : DataW.Trod enc P w 0 (fun _ => true) held t v d p) : ∃ (v0 : Value) (y0 : DataW H × List MemPlace) (n : Nat), v = .agg #[v0] ∧ DataW.trod enc P w 0 (fun _ => true) held n f0.type [v0] = some y0 := by
  obtain ⟨cs, rfl, hsz⟩ := okWide_struct hs hv
  obtain ⟨c0, rfl⟩ : ∃ c0, cs = #[c0] := by
    have h1 := hsz.trans hC
    match cs, h1 with
    | ⟨[c0]⟩, _ => exact ⟨c0, rfl⟩
  obtain ⟨fuel, hf⟩ := h
  obtain ⟨xs, k, _, _, _, hxl, hfl⟩ := DataW.trod_struct hs hf
  obtain ⟨o0, k0⟩ := hone_of hone 0 f0 rfl
  have h0 := hfl 0 f0 rfl
  have hx : ∃ y, xs[0]? = some y := ⟨_, List.getElem?_eq_getElem (by rw [hxl]; exact Nat.zero_lt_one)⟩
  obtain ⟨y, hy⟩ := hx
  rw [hy] at h0
  exact ⟨c0, y, k, rfl, by simpa [Value.cells, o0, k0] using h0⟩

end

end Go.Proofs.Ytpbkkjiikhjanaa

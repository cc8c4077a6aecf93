/-
  A program and a function that came in, opened to what the walks ask.
-/
import Derived.Test.YtaogdaoiijmmhaaArgs
import Derived.Test.YtaogdaoiijmmhaaPrgSz
namespace Go.Proofs.Ytaogdaoiijmmhaa
open Go.ChangeShapes Go.WideShapes Go.ChangeAt Go.RowKit Go.Deep Exs

section
variable {H : Type} {enc : TypeId × Value → H} {P : Program} {w : World} {held : Bool}

/-- A slice of structs of one-cell fields, opened at every index. -/
theorem open_rows {t e : TypeId} {fs : Array Field} {N fuel : Nat} {cs : List Value} {x : DataW H × List MemPlace} (ht : P.underlying t = some (.slice e)) (he : P.underlying e = some (.struct fs)) (ce : P.cellsOf e = N) (hone : oneCellFields P fs = true) (hN : 0 < N) (hfs : fs.size = N)
    (h : DataW.trod enc P w 0 (fun _ => true) held fuel t cs = some x) :
    ∃ (A : Option Addr) (len cap : Nat), cs = [.slice A len cap] ∧ len ≤ maxLen ∧ (0 < len → ∃ b off, A = some ⟨b, off, none⟩ ∧ b < w.heap.size ∧ ∀ i, i < len → ∃ cs' : List Value, cs'.length = N ∧ (∀ j, j < N → w.cell? ⟨b, off + (i * N + j), none⟩ = cs'[j]?) ∧
      ∀ (j : Nat) (f : Field), fs[j]? = some f → ∃ v y n, cs'[j]? = some v ∧ DataW.trod enc P w 0 (fun _ => true) held n f.type [v] = some y) := by
  rcases open_slice ht h with ⟨h0, _⟩ | ⟨a, len, cap, m, n, D, Pl, rfl, hb, hl, hm, hmm, rfl, hx⟩
  · exact ⟨none, 0, 0, h0, by unfold maxLen; omega, fun h => absurd h (by omega)⟩
  simp only [if_true] at hmm
  subst hmm
  refine ⟨some a, len, _, rfl, by omega, fun hlen => ?_⟩
  obtain ⟨b, off, spot⟩ := a
  obtain ⟨cs0, h0, _⟩ := hx 0 (by omega)
  obtain ⟨_, hl0, hc0⟩ := World.cells?_some h0
  have hz := hc0 0 (by omega)
  rw [List.getElem?_eq_getElem (by omega)] at hz
  have hspot : spot = none := by
    have := World.cell?_spot hz
    simpa [Addr.add] using this
  subst hspot
  refine ⟨b, off, rfl, ?_, fun i hi => ?_⟩
  · have := World.block_lt_of_cell? w _ hz
    simpa [addr_add_none] using this
  · obtain ⟨cs', h1, h2⟩ := hx i (by omega)
    rw [ce] at h1
    obtain ⟨_, hlc, hcell⟩ := World.cells?_some h1
    obtain ⟨xs, k, hk, _, _, hxl, hf⟩ := DataW.trod_struct he h2
    refine ⟨cs', hlc, fun j hj => ?_, fun j f hfj => ?_⟩
    · have := hcell j hj
      rw [addr_add_none, addr_add_none] at this
      rw [← this]
      congr 2
      omega
    · obtain ⟨o, c⟩ := hone_of hone j f hfj
      have hjN : j < N := by rw [← hfs]; exact (Array.getElem?_eq_some_iff.1 hfj).1
      have hjj := hf j f hfj
      rw [o, c, List.drop_eq_getElem_cons (by omega), List.take_succ_cons, List.take_zero] at hjj
      rw [List.getElem?_eq_getElem (by rw [hxl]; omega)] at hjj
      exact ⟨_, _, _, List.getElem?_eq_getElem (by omega), hjj⟩
end

section
variable {H : Type} {enc : TypeId × Value → H} {w : World} {held : Bool}

theorem cell_reads {t : TypeId} {v : Value} {n : Nat} {y : DataW H × List MemPlace} (ht : Try.prog.underlying t = some (.slice 3)) (h : DataW.trod enc Try.prog w 0 (fun _ => true) held n t [v] = some y) : ∃ A m c xs, v = .slice A m c ∧ Reads w w.heap.size .i64 A m xs ∧ m ≤ maxLen := by
  rcases open_slice ht h with ⟨h0, _⟩ | ⟨a, len, cap, m', n', D, Pl, h0, _⟩
  · injection h0 with h0; subst h0
    obtain ⟨xs, h1, h2, _⟩ := open_reads (d := y.1) (p := y.2) ht Try.underlying3 (by kernel_rfl) ⟨n, by simpa [Value.cells] using h⟩
    exact ⟨_, _, _, xs, rfl, h1, h2⟩
  · injection h0 with h0; subst h0
    obtain ⟨xs, h1, h2, _⟩ := open_reads (d := y.1) (p := y.2) ht Try.underlying3 (by kernel_rfl) ⟨n, by simpa [Value.cells] using h⟩
    exact ⟨_, _, _, xs, rfl, h1, h2⟩
theorem cell_int {v : Value} {n : Nat} {y : DataW H × List MemPlace} (h : DataW.trod enc Try.prog w 0 (fun _ => true) held n 3 [v] = some y) : ∃ x : Int, v = .int .i64 x := by
  obtain ⟨x, h1, _⟩ := DataW.trod_int Try.underlying3 h
  injection h1 with h1
  exact ⟨x, h1⟩
theorem cell_toks {v : Value} {n : Nat} {y : DataW H × List MemPlace} (h : DataW.trod enc Try.prog w 0 (fun _ => true) held n 88 [v] = some y) : ∃ A m c ts, v = .slice A m c ∧ ReadsT w w.heap.size A m ts ∧ m ≤ maxLen := by
  have key : ∀ {A : Option Addr} {m c : Nat}, DataW.trod enc Try.prog w 0 (fun _ => true) held n 88 [.slice A m c] = some y → ∃ ts, ReadsT w w.heap.size A m ts ∧ m ≤ maxLen := fun h => open_readsT (d := y.1) (p := y.2) Try.underlying88 Try.underlying105 (by kernel_rfl) rfl rfl (by kernel_rfl) (by kernel_rfl) Try.underlying3 Try.underlying3 ⟨n, by simpa [Value.cells] using h⟩
  rcases open_slice Try.underlying88 h with ⟨h0, _⟩ | ⟨a, len, cap, m', n', D, Pl, h0, _⟩
  · injection h0 with h0; subst h0
    obtain ⟨ts, h1, h2⟩ := key h
    exact ⟨_, _, _, ts, rfl, h1, h2⟩
  · injection h0 with h0; subst h0
    obtain ⟨ts, h1, h2⟩ := key h
    exact ⟨_, _, _, ts, rfl, h1, h2⟩

theorem list_of {α : Type} {Q : Nat → α → Prop} : ∀ (n : Nat), (∀ i, i < n → ∃ s, Q i s) → ∃ ss : List α, ss.length = n ∧ ∀ (i : Nat) (s : α), ss[i]? = some s → Q i s
  | 0, _ => ⟨[], rfl, fun i s h => by simp at h⟩
  | n + 1, h => by
    obtain ⟨ss, h1, h2⟩ := list_of n (fun i hi => h i (by omega))
    obtain ⟨s, hs⟩ := h n (by omega)
    refine ⟨ss ++ [s], by simp [h1], fun i s' hi => ?_⟩
    by_cases hl : i < ss.length
    · rw [List.getElem?_append_left hl] at hi; exact h2 i s' hi
    · have hi2 : i = n := by have := (List.getElem?_eq_some_iff.1 hi).1; simp at this; omega
      subst hi2
      rw [List.getElem?_append_right (by omega), h1, Nat.sub_self] at hi
      simp at hi
      subst hi
      exact hs

/-- A slice of statements that came in. -/
theorem cell_stmts {v : Value} {n : Nat} {y : DataW H × List MemPlace} (h : DataW.trod enc Try.prog w 0 (fun _ => true) held n 60 [v] = some y) : ∃ A m c ss, v = .slice A m c ∧ ReadsS w w.heap.size A m ss ∧ m ≤ maxLen ∧ ∀ s ∈ ss, LongS s := by
  obtain ⟨A, m, c, h0, hm, hrow⟩ := open_rows (N := 5) Try.underlying60 Try.underlying90 (by kernel_rfl) (by kernel_rfl) (by decide) rfl h
  injection h0 with h0
  subst h0
  by_cases hpos : 0 < m
  · obtain ⟨b, off, rfl, hb, hi⟩ := hrow hpos
    obtain ⟨ss, hl, hq⟩ := list_of (Q := fun i s => (∃ A1 n1 c1 A2 n2 c2 A3 n3 c3, w.cell? ⟨b, off + i * 5, none⟩ = some (.int .i64 s.kind) ∧ w.cell? ⟨b, off + i * 5 + 1, none⟩ = some (.int .i64 s.n) ∧ w.cell? ⟨b, off + i * 5 + 2, none⟩ = some (.slice A1 n1 c1) ∧
      w.cell? ⟨b, off + i * 5 + 3, none⟩ = some (.slice A2 n2 c2) ∧ w.cell? ⟨b, off + i * 5 + 4, none⟩ = some (.slice A3 n3 c3) ∧ ReadsT w w.heap.size A1 n1 s.ex ∧ Reads w w.heap.size .i64 A2 n2 s.th ∧ Reads w w.heap.size .i64 A3 n3 s.el) ∧ LongS s) m (fun i hlt => by
        obtain ⟨cs', hlc, hcell, hf⟩ := hi i hlt
        obtain ⟨v0, y0, k0, e0, t0⟩ := hf 0 _ rfl
        obtain ⟨v1, y1, k1, e1, t1⟩ := hf 1 _ rfl
        obtain ⟨v2, y2, k2, e2, t2⟩ := hf 2 _ rfl
        obtain ⟨v3, y3, k3, e3, t3⟩ := hf 3 _ rfl
        obtain ⟨v4, y4, k4, e4, t4⟩ := hf 4 _ rfl
        obtain ⟨kind, rfl⟩ := cell_int t0
        obtain ⟨nn, rfl⟩ := cell_int t1
        obtain ⟨A1, n1, c1, ts, rfl, r1, l1⟩ := cell_toks t2
        obtain ⟨A2, n2, c2, th, rfl, r2, l2⟩ := cell_reads Try.underlying22 t3
        obtain ⟨A3, n3, c3, el, rfl, r3, l3⟩ := cell_reads Try.underlying22 t4
        have g := fun j hj => hcell j hj
        refine ⟨⟨kind, nn, ts, th, el⟩, ⟨A1, n1, c1, A2, n2, c2, A3, n3, c3, ?_, ?_, ?_, ?_, ?_, r1, r2, r3⟩, by rw [← r1.1] at l1; exact l1, by rw [← r2.1] at l2; exact l2, by rw [← r3.1] at l3; exact l3⟩
        · have := g 0 (by omega); rw [e0] at this; simpa using this
        · have := g 1 (by omega); rw [e1] at this; rw [← this]; rfl
        · have := g 2 (by omega); rw [e2] at this; rw [← this]; rfl
        · have := g 3 (by omega); rw [e3] at this; rw [← this]; rfl
        · have := g 4 (by omega); rw [e4] at this; rw [← this]; rfl)
    refine ⟨_, _, _, ss, rfl, ⟨hl, fun _ => ⟨b, off, rfl, hb, fun j s hs => (hq j s hs).1⟩⟩, hm, fun s hs => ?_⟩
    obtain ⟨j, hj⟩ := List.getElem?_of_mem hs
    exact (hq j s hj).2
  · exact ⟨A, m, c, [], rfl, ⟨by simp; omega, fun h => absurd h hpos⟩, hm, by simp⟩

/-- A slice of functions that came in. -/
theorem cell_funcs {v : Value} {n : Nat} {y : DataW H × List MemPlace} (h : DataW.trod enc Try.prog w 0 (fun _ => true) held n 32 [v] = some y) : ∃ A m c fs, v = .slice A m c ∧ ReadsF w w.heap.size A m fs ∧ LongP fs := by
  obtain ⟨A, m, c, h0, hm, hrow⟩ := open_rows (N := 4) Try.underlying32 Try.underlying62 (by kernel_rfl) (by kernel_rfl) (by decide) rfl h
  injection h0 with h0
  subst h0
  by_cases hpos : 0 < m
  · obtain ⟨b, off, rfl, hb, hi⟩ := hrow hpos
    obtain ⟨fs, hl, hq⟩ := list_of (Q := fun i f => (∃ A1 n1 c1 A2 n2 c2, w.cell? ⟨b, off + i * 4, none⟩ = some (.int .i64 f.params) ∧ w.cell? ⟨b, off + i * 4 + 1, none⟩ = some (.int .i64 f.vars) ∧ w.cell? ⟨b, off + i * 4 + 2, none⟩ = some (.slice A1 n1 c1) ∧
      w.cell? ⟨b, off + i * 4 + 3, none⟩ = some (.slice A2 n2 c2) ∧ Reads w w.heap.size .i64 A1 n1 f.body ∧ ReadsS w w.heap.size A2 n2 f.stmts) ∧ LongF f) m (fun i hlt => by
        obtain ⟨cs', hlc, hcell, hf⟩ := hi i hlt
        obtain ⟨v0, y0, k0, e0, t0⟩ := hf 0 _ rfl
        obtain ⟨v1, y1, k1, e1, t1⟩ := hf 1 _ rfl
        obtain ⟨v2, y2, k2, e2, t2⟩ := hf 2 _ rfl
        obtain ⟨v3, y3, k3, e3, t3⟩ := hf 3 _ rfl
        obtain ⟨pa, rfl⟩ := cell_int t0
        obtain ⟨va, rfl⟩ := cell_int t1
        obtain ⟨A1, n1, c1, bo, rfl, r1, l1⟩ := cell_reads Try.underlying22 t2
        obtain ⟨A2, n2, c2, ss, rfl, r2, l2, l3⟩ := cell_stmts t3
        have g := fun j hj => hcell j hj
        refine ⟨⟨pa, va, bo, ss⟩, ⟨A1, n1, c1, A2, n2, c2, ?_, ?_, ?_, ?_, r1, r2⟩, by rw [← r1.1] at l1; exact l1, by rw [← r2.1] at l2; exact l2, l3⟩
        · have := g 0 (by omega); rw [e0] at this; simpa using this
        · have := g 1 (by omega); rw [e1] at this; rw [← this]; rfl
        · have := g 2 (by omega); rw [e2] at this; rw [← this]; rfl
        · have := g 3 (by omega); rw [e3] at this; rw [← this]; rfl)
    refine ⟨_, _, _, fs, rfl, ⟨hl, fun _ => ⟨b, off, rfl, hb, fun j s hs => (hq j s hs).1⟩⟩, by rw [hl]; exact hm, fun s hs => ?_⟩
    obtain ⟨j, hj⟩ := List.getElem?_of_mem hs
    exact (hq j s hj).2
  · exact ⟨A, m, c, [], rfl, ⟨by simp; omega, fun h => absurd h hpos⟩, by simp, by simp⟩

/-- A struct of one one-cell field that came in. -/
theorem open_agg1 {P : Program} {r : Reach} {b0 : Nat} {t : TypeId} {f0 : Field} {v : Value} {d : DataW H} {p : List MemPlace} (hs : P.underlying t = some (.struct #[f0])) (hone : oneCellFields P #[f0] = true) (hC : P.cellsOf t = 1)
    (hv : Value.okWide P w r b0 t v) (h : DataW.Trod enc P w 0 (fun _ => true) held t v d p) : ∃ (v0 : Value) (y0 : DataW H × List MemPlace) (n : Nat), v = .agg #[v0] ∧ DataW.trod enc P w 0 (fun _ => true) held n f0.type [v0] = some y0 := by
  obtain ⟨cs, rfl, hsz⟩ := okWide_struct hs hv
  obtain ⟨c0, rfl⟩ : ∃ c0, cs = #[c0] := by
    have h1 := hsz.trans hC
    match cs, h1 with
    | ⟨[c0]⟩, _ => exact ⟨c0, rfl⟩
  obtain ⟨fuel, hf⟩ := h
  obtain ⟨xs, k, _, _, _, hxl, hfl⟩ := DataW.trod_struct hs hf
  obtain ⟨o0, k0⟩ := hone_of hone 0 f0 rfl
  have h0 := hfl 0 f0 rfl
  have hx : ∃ y, xs[0]? = some y := ⟨_, List.getElem?_eq_getElem (by rw [hxl]; exact Nat.zero_lt_one)⟩
  obtain ⟨y, hy⟩ := hx
  rw [hy] at h0
  exact ⟨c0, y, k, rfl, by simpa [Value.cells, o0, k0] using h0⟩
set_option maxRecDepth 100000 in
/-- A program that came in. -/
theorem open_prog {r : Reach} {b0 : Nat} {v : Value} {d : DataW H} {p : List MemPlace} (hv : Value.okWide Try.prog w r b0 34 v) (h : DataW.Trod enc Try.prog w 0 (fun _ => true) held 34 v d p) :
    ∃ A m c fs, v = .agg #[.slice A m c] ∧ ReadsF w w.heap.size A m fs ∧ LongP fs := by
  obtain ⟨v0, y0, n, rfl, h0⟩ := open_agg1 Try.underlying34 (by kernel_rfl) (by kernel_rfl) hv h
  obtain ⟨A, m, c, fs, rfl, h1, h2⟩ := cell_funcs h0
  exact ⟨A, m, c, fs, rfl, h1, h2⟩
set_option maxRecDepth 100000 in
/-- A function that came in. -/
theorem open_func {r : Reach} {b0 : Nat} {v : Value} {d : DataW H} {p : List MemPlace} (hv : Value.okWide Try.prog w r b0 62 v) (h : DataW.Trod enc Try.prog w 0 (fun _ => true) held 62 v d p) :
    ∃ f A1 n1 c1 A2 n2 c2, v = fcV f A1 n1 c1 A2 n2 c2 ∧ IsFc w w.heap.size f A1 n1 A2 n2 ∧ LongF f := by
  obtain ⟨v0, v1, v2, v3, y0, y1, y2, y3, n, rfl, _, _, h0, h1, h2, h3⟩ := Go.Joins.open_agg4 Try.underlying62 (by kernel_rfl) (by kernel_rfl) hv h
  obtain ⟨pa, rfl⟩ := cell_int h0
  obtain ⟨va, rfl⟩ := cell_int h1
  obtain ⟨A1, n1, c1, bo, rfl, r1, l1⟩ := cell_reads Try.underlying22 h2
  obtain ⟨A2, n2, c2, ss, rfl, r2, l2, l3⟩ := cell_stmts h3
  exact ⟨⟨pa, va, bo, ss⟩, A1, n1, c1, A2, n2, c2, rfl, ⟨r1, r2⟩, by rw [← r1.1] at l1; exact l1, by rw [← r2.1] at l2; exact l2, l3⟩
end

end Go.Proofs.Ytaogdaoiijmmhaa

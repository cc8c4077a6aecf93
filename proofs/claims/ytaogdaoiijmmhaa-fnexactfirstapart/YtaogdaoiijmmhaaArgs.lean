/-
  Arguments opened to what the walks ask: slices of ints, slices of tokens, tokens. Over any program.
-/
import Derived.Test.YtaogdaoiijmmhaaTokMem
import Derived.ProofKit
import Derived.OpenShut
import Derived.Deep.SlicePairs
import Derived.Lib.SmallJoins
namespace Go.Proofs.Ytaogdaoiijmmhaa
open Go.ChangeShapes Go.WideShapes Go.ChangeAt Go.RowKit Go.Deep Exs

section
variable {H : Type} {enc : TypeId × Value → H} {P : Program} {w : World} {held : Bool}

theorem addr_add_none {b off : Nat} (j : Nat) : (⟨b, off, none⟩ : Addr).add j = ⟨b, off + j, none⟩ := by unfold Addr.add; split <;> simp_all

/-- A slice of integers that came in. -/
theorem open_reads {t e : TypeId} {k : IntKind} {a : Option Addr} {len cap : Nat} {d : DataW H} {p : List MemPlace} (ht : P.underlying t = some (.slice e)) (he : P.underlying e = some (.int k)) (ce : P.cellsOf e = 1)
    (h : DataW.Trod enc P w 0 (fun _ => true) held t (.slice a len cap) d p) : ∃ xs, Reads w w.heap.size k a len xs ∧ len ≤ maxLen ∧ ∀ x ∈ xs, (Lit.int k x).wf = true := by
  obtain ⟨fuel, hf⟩ := h
  rcases open_ints ht he ce hf with ⟨hcs, _⟩ | ⟨x, l, c, zs, hcs, _, hl, hm, hz, _, hcell, hwz⟩
  · simp [Value.cells] at hcs
    obtain ⟨rfl, rfl, rfl⟩ := hcs
    exact ⟨[], ⟨rfl, fun h => absurd h (by omega)⟩, by unfold maxLen; omega, by simp⟩
  · simp [Value.cells] at hcs
    obtain ⟨rfl, rfl, rfl⟩ := hcs
    exact ⟨zs.take len, reads_of_row (.inr ⟨_, rfl, hl, hm, by simpa using hz, hcell, hwz⟩), by omega, fun x hx => hwz x (List.mem_of_mem_take hx)⟩

/-- A slice of structs of two ints that came in. -/
theorem open_readsT {t e : TypeId} {f0 f1 : Field} {a : Option Addr} {len cap : Nat} {d : DataW H} {p : List MemPlace} (ht : P.underlying t = some (.slice e)) (he : P.underlying e = some (.struct #[f0, f1])) (ce : P.cellsOf e = 2)
    (o0 : f0.offset = 0) (o1 : f1.offset = 1) (c0 : P.cellsOf f0.type = 1) (c1 : P.cellsOf f1.type = 1) (u0 : P.underlying f0.type = some (.int .i64)) (u1 : P.underlying f1.type = some (.int .i64))
    (h : DataW.Trod enc P w 0 (fun _ => true) held t (.slice a len cap) d p) : ∃ ts, ReadsT w w.heap.size a len ts ∧ len ≤ maxLen := by
  obtain ⟨fuel, hf⟩ := h
  rcases Go.Deep.open_slice_pairs ht he ce o0 o1 c0 c1 hf with ⟨hcs, _⟩ | ⟨x, l, c, m, n, V0, V1, D0, D1, P0, P1, hcs, _, hl, hcap, hm, _, hi⟩
  · simp [Value.cells] at hcs
    obtain ⟨rfl, rfl, rfl⟩ := hcs
    exact ⟨[], ⟨rfl, rfl, fun h => absurd h (by omega)⟩, by unfold maxLen; omega⟩
  · simp [Value.cells] at hcs
    obtain ⟨rfl, rfl, rfl⟩ := hcs
    simp only [if_true] at hm
    subst hm
    refine ⟨(List.range len).map fun i => (intOf (V0 i), intOf (V1 i)), ⟨by simp, by rw [flat_length]; simp, fun hn => ?_⟩, by omega⟩
    have hz := hi 0 (by omega)
    obtain ⟨b, off, spot⟩ := x
    have hspot : spot = none := by
      have := World.cell?_spot hz.1
      simpa [Addr.add] using this
    subst hspot
    refine ⟨b, off, rfl, ?_, ?_⟩
    · have := World.block_lt_of_cell? w _ hz.1
      rw [addr_add_none] at this
      exact this
    · intro j y hy
      have hj : j < 2 * len := by
        have := (List.getElem?_eq_some_iff.1 hy).1
        rw [flat_length] at this
        simpa using this
      have hk : j / 2 < len := by omega
      obtain ⟨g0, g1, t0, t1⟩ := hi (j / 2) (by omega)
      obtain ⟨n0, e0, _, _⟩ := DataW.trod_int u0 t0
      obtain ⟨n1, e1, _, _⟩ := DataW.trod_int u1 t1
      have hfa := flat_at (ts := (List.range len).map fun i => (intOf (V0 i), intOf (V1 i))) (j := j / 2) (t := (intOf (V0 (j / 2)), intOf (V1 (j / 2)))) (by simp [hk])
      injection e0 with e0
      injection e1 with e1
      rw [addr_add_none] at g0 g1
      rw [e0] at g0 hfa
      rw [e1] at g1 hfa
      by_cases hpar : j % 2 = 0
      · have hjj : j = 2 * (j / 2) := by omega
        rw [hjj, hfa.1] at hy
        injection hy with hy
        rw [show off + j = off + j / 2 * 2 by omega, g0, ← hy]
        rfl
      · have hjj : j = 2 * (j / 2) + 1 := by omega
        rw [hjj, hfa.2] at hy
        injection hy with hy
        rw [show off + j = off + (j / 2 * 2 + 1) by omega, g1, ← hy]
        rfl

/-- A struct of two ints that came in. -/
theorem open_tok {r : Reach} {b0 : Nat} {t : TypeId} {f0 f1 : Field} {v : Value} {d : DataW H} {p : List MemPlace} (hs : P.underlying t = some (.struct #[f0, f1])) (hone : oneCellFields P #[f0, f1] = true) (hC : P.cellsOf t = 2)
    (u0 : P.underlying f0.type = some (.int .i64)) (u1 : P.underlying f1.type = some (.int .i64))
    (hv : Value.okWide P w r b0 t v) (h : DataW.Trod enc P w 0 (fun _ => true) held t v d p) : ∃ op x : Int, v = .agg #[.int .i64 op, .int .i64 x] := by
  obtain ⟨v0, v1, y0, y1, n, rfl, _, _, h0, h1⟩ := Go.Joins.open_agg2 hs hone hC hv h
  obtain ⟨n0, e0, _, _⟩ := DataW.trod_int u0 h0
  obtain ⟨n1, e1, _, _⟩ := DataW.trod_int u1 h1
  injection e0 with e0
  injection e1 with e1
  exact ⟨n0, n1, by rw [e0, e1]⟩
end

end Go.Proofs.Ytaogdaoiijmmhaa

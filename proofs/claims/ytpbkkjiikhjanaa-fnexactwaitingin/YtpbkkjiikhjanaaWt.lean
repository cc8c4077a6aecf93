/-
  What a frame waits for: the numbers of its flags that are set, the greatest first.
-/
import Derived.Test.YtpbkkjiikhjanaaMem
namespace Go.Proofs.Ytpbkkjiikhjanaa
open Go.RowKit

/-- The numbers of the flags that are set from place k on, the greatest first. -/
def wtF (fl : List Bool) (k : Nat) : List Int := ((List.range' k (fl.length - k)).filter fun j => fl[j]? == some true).reverse.map fun j : Nat => (j : Int)
def wtL (fl : List Bool) : List Int := wtF fl 0
theorem wtF_end {fl : List Bool} {k : Nat} (h : fl.length ≤ k) : wtF fl k = [] := by
  unfold wtF
  rw [show fl.length - k = 0 by omega]
  rfl
theorem wtF_set {fl : List Bool} {k : Nat} (h : fl[k]? = some true) : wtF fl k = wtF fl (k + 1) ++ [(k : Int)] := by
  have hl := (List.getElem?_eq_some_iff.1 h).1
  unfold wtF
  rw [show fl.length - k = fl.length - (k + 1) + 1 by omega, List.range'_succ, List.filter_cons_of_pos (by rw [h]; rfl)]
  simp
theorem wtF_not {fl : List Bool} {k : Nat} (h : fl[k]? = some false) : wtF fl k = wtF fl (k + 1) := by
  have hl := (List.getElem?_eq_some_iff.1 h).1
  unfold wtF
  rw [show fl.length - k = fl.length - (k + 1) + 1 by omega, List.range'_succ, List.filter_cons_of_neg (by rw [h]; decide)]
theorem wtF_mem {fl : List Bool} {k : Nat} {x : Int} (h : x ∈ wtF fl k) : ∃ j : Nat, x = (j : Int) ∧ j < fl.length ∧ fl[j]? = some true := by
  unfold wtF at h
  simp only [List.mem_map, List.mem_reverse, List.mem_filter, beq_iff_eq] at h
  obtain ⟨j, ⟨_, h1⟩, rfl⟩ := h
  exact ⟨j, rfl, (List.getElem?_eq_some_iff.1 h1).1, h1⟩
theorem wtF_length (fl : List Bool) (k : Nat) : (wtF fl k).length ≤ fl.length := by
  unfold wtF
  rw [List.length_map, List.length_reverse]
  have := List.length_filter_le (fun j => fl[j]? == some true) (List.range' k (fl.length - k))
  rw [List.length_range'] at this
  omega

end Go.Proofs.Ytpbkkjiikhjanaa

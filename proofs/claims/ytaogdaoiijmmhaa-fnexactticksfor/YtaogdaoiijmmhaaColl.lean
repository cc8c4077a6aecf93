/-
  Collecting numbers in a range over a function: what one round leaves. Over any program.
-/
import Derived.Test.YtaogdaoiijmmhaaGPlaces
import Derived.Test.YtaogdaoiijmmhaaOwn
import Derived.Maps.OwnIn
namespace Go.Proofs.Ytaogdaoiijmmhaa
open Go.RowKit Go.Shelf Exs

/-- The body's own blocks: some at the function's start, and the row that the collected slice lies in now. -/
def MineC (lo hi gO : Nat) (W : World) (g : Nat) : Prop := (lo ≤ g ∧ g < hi) ∨ W.heap.size ≤ gO ∨ ∃ n c, W.cell? ⟨gO, 0, none⟩ = some (.slice (some ⟨g, 0, none⟩) n c)
theorem MineC.alloc {lo hi gO : Nat} (W : World) (o : Obj) (g : Nat) (h : ¬ MineC lo hi gO W g) : ¬ MineC lo hi gO (W.alloc o) g := by
  have h1 : gO < W.heap.size := Nat.lt_of_not_le fun h' => h (.inr (.inl h'))
  have h2 : (W.alloc o).cell? ⟨gO, 0, none⟩ = W.cell? ⟨gO, 0, none⟩ := World.cell?_of_block (w := W) (Below.heap_alloc _ _ _ h1)
  rintro (h' | h' | ⟨n, c, h'⟩)
  · exact h (.inl h')
  · simp at h'; omega
  · rw [h2] at h'; exact h (.inr (.inr ⟨n, c, h'⟩))
theorem MineC.putObj {lo hi gO : Nat} (W : World) (l : Nat) (o' : Obj) (g : Nat) (hl : gO ≠ l) (h : ¬ MineC lo hi gO W g) : ¬ MineC lo hi gO (W.putObj l o') g := by
  have h2 : (W.putObj l o').cell? ⟨gO, 0, none⟩ = W.cell? ⟨gO, 0, none⟩ := World.cell?_of_block (w := W) (World.putObj_heap_other hl)
  have hs : W.heap.size ≤ (W.putObj l o').heap.size := (grownBy_putObj' W l o').size
  rintro (h' | h' | ⟨n, c, h'⟩)
  · exact h (.inl h')
  · exact h (.inr (.inl (by omega)))
  · rw [h2] at h'; exact h (.inr (.inr ⟨n, c, h'⟩))
theorem Nums.grownOther {w w' : World} {B B' : Nat} {e : TypeId} {k : IntKind} {v : Value} {xs : List Int} {row : Option Nat} (h : Nums w B e k v xs) (hg : w.grownBy w' row) (hr : ∀ r, row = some r → B' ≤ r ∧ ∃ o : Obj, w.heap[r]? = some o ∧ o.isCells = false) : Nums w' B e k v xs := by
  refine World.ownsRow.kept h hg ?_
  rcases h.2 with ⟨rfl, _⟩ | ⟨g, cap, cur, rfl, _, hh, _⟩
  · exact .inl rfl
  · refine .inr fun e => ?_
    obtain ⟨_, o, ho, hc⟩ := hr g (by simpa [Value.ownBlock] using e.symm)
    rw [hh] at ho
    injection ho with ho
    subst ho
    cases hc

/-- One number is appended and the slice is stored. -/
theorem collect_step {w W w' : World} {lo hi gO B : Nat} {v v' : Value} {xs : List Int} {x : Int} (hbel : Below lo w W) (hO : Keep W gO #[v] 22) (hn : Nums W B 3 .i64 v xs) (hlo : lo ≤ gO) (hhi : gO < hi) (hB : gO < B)
    (hn' : Nums w' B 3 .i64 v' (xs ++ [x])) (hg : (W.alloc (.cells #[.int .i64 x] 3)).grownBy w' v.ownBlock) (hat : v'.ownBlock = v.ownBlock ∨ v'.ownBlock = some (W.heap.size + 1)) :
    Keep w' gO #[v] 22 ∧ KeepsOthers W (w'.setCell ⟨gO, 0, none⟩ v') ∧ KeepsBut lo (MineC lo hi gO) W (w'.setCell ⟨gO, 0, none⟩ v') ∧ Keep (w'.setCell ⟨gO, 0, none⟩ v') gO #[v'] 22 ∧ Nums (w'.setCell ⟨gO, 0, none⟩ v') B 3 .i64 v' (xs ++ [x]) ∧ Below lo w (w'.setCell ⟨gO, 0, none⟩ v') ∧
      (∀ g cs t, g < B → g ≠ gO → Keep W g cs t → Keep (w'.setCell ⟨gO, 0, none⟩ v') g cs t) := by
  have hrow : ∀ k, v.ownBlock = some k → B ≤ k ∧ k < W.heap.size := fun k hk => World.ownsRow.lt hn k hk
  have hold : ∀ k, k < W.heap.size → some k ≠ v.ownBlock → w'.heap[k]? = W.heap[k]? := fun k hk hne => (hg.block k (by simp; omega) hne).trans (Below.heap_alloc _ _ _ hk)
  have hne : ∀ k, k < B → some k ≠ v.ownBlock := fun k hk e => by have := hrow k e.symm; omega
  have hsz : W.heap.size ≤ w'.heap.size := by have := hg.size; simp at this; omega
  have hkO : Keep w' gO #[v] 22 := (hold gO hO.lt (hne gO (by omega))).trans hO
  have hset : ∀ k, k ≠ gO → (w'.setCell ⟨gO, 0, none⟩ v').heap[k]? = w'.heap[k]? := fun k hk => Below.heap_setCell _ _ _ _ hk
  have hb' : Below lo W (w'.setCell ⟨gO, 0, none⟩ v') := by
    refine ⟨hg.os, hg.tape, hg.output, by simpa [World.setCell] using hsz, fun k hk => ?_⟩
    exact (hset k (by omega)).trans (hold k (by have := hO.lt; omega) (hne k (by omega)))
  have hkO' : Keep (w'.setCell ⟨gO, 0, none⟩ v') gO #[v'] 22 := hkO.set 0 v'
  refine ⟨hkO, ?_, ⟨hb', fun g hgs hm => ?_⟩, hkO', ?_, hbel.trans hb', fun g cs t h1 h2 h3 => ?_⟩
  · refine KeepsOthers.trans (KeepsOthers.trans (KeepsOthers.alloc W (.cells #[.int .i64 x] 3)) (KeepsOthers.of_grownBy hg ?_)) (KeepsOthers.setCell _ _ _)
    intro j o hj ho
    rcases (Nums.alloc hn (.cells #[.int .i64 x] 3)).2 with ⟨rfl, _⟩ | ⟨g, cap, cur, rfl, _, hh, _⟩
    · simp [Value.ownBlock] at hj
    · simp [Value.ownBlock] at hj
      subst hj
      rw [hh] at ho
      injection ho with ho
      subst ho
      rfl
  · have hgO : g ≠ gO := fun e => hm (.inl (by omega))
    have hgr : some g ≠ v.ownBlock := by
      intro e
      refine hm (.inr (.inr ?_))
      rcases hn.2 with ⟨rfl, _⟩ | ⟨gr, cap, cur, rfl, _⟩
      · simp [Value.ownBlock] at e
      · simp [Value.ownBlock] at e
        subst e
        exact ⟨_, _, by simpa using hO.cell 0⟩
    refine ⟨(hset g hgO).trans (hold g hgs hgr), ?_⟩
    rintro (h' | h' | ⟨n, c, h'⟩)
    · exact hm (.inl h')
    · have := hkO'.lt; omega
    · rw [hkO'.cell 0] at h'
      simp at h'
      subst h'
      rcases hat with hat | hat
      · exact hgr (by rw [← hat]; rfl)
      · simp [Value.ownBlock] at hat; omega
  · refine World.ownsRow.kept hn' (⟨rfl, rfl, rfl, by simp [World.setCell], fun k _ hk => hset k (fun e => hk (by rw [e]))⟩ : w'.grownBy (w'.setCell ⟨gO, 0, none⟩ v') (some gO)) (.inr fun e => ?_)
    have := World.ownsRow.lt hn' gO e
    omega
  · exact ((hset g h2).trans (hold g h3.lt (hne g h1))).trans h3

end Go.Proofs.Ytaogdaoiijmmhaa

/-
  Texts joined: Coll Fork.
-/
import Derived.Test.YtpmpjiigmjnniaaGreatJPlaces
import Derived.Test.YtpmpjiigmjnniaaGreatJSpA
import Derived.Maps.OwnIn
/-
  Collecting numbers in a range over a function: what one round leaves. Over any program.
-/
namespace Go.Proofs.YtpmpjiigmjnniaaGreat
open Go.RowKit Go.Shelf Exs

/-- The body's own blocks: some at the function's start, and the row that the collected slice lies in now. -/
def MineC (lo hi gO : Nat) (W : World) (g : Nat) : Prop := (lo ≤ g ∧ g < hi) ∨ W.heap.size ≤ gO ∨ ∃ n c, W.cell? ⟨gO, 0, none⟩ = some (.slice (some ⟨g, 0, none⟩) n c)
theorem MineC.alloc {lo hi gO : Nat} (W : World) (o : Obj) (g : Nat) (h : ¬ MineC lo hi gO W g) : ¬ MineC lo hi gO (W.alloc o) g := by
  have h1 : gO < W.heap.size := Nat.lt_of_not_le fun h' => h (.inr (.inl h'))
  have h2 : (W.alloc o).cell? ⟨gO, 0, none⟩ = W.cell? ⟨gO, 0, none⟩ := World.cell?_of_block (w := W) (Below.heap_alloc _ _ _ h1)
  rintro (h' | h' | ⟨n, c, h'⟩)
  · exact h (.inl h')
  · simp at h'; omega
  · rw [h2] at h'; exact h (.inr (.inr ⟨n, c, h'⟩))
theorem MineC.putObj {lo hi gO : Nat} (W : World) (l : Nat) (o' : Obj) (g : Nat) (hl : gO ≠ l) (h : ¬ MineC lo hi gO W g) : ¬ MineC lo hi gO (W.putObj l o') g := by
  have h2 : (W.putObj l o').cell? ⟨gO, 0, none⟩ = W.cell? ⟨gO, 0, none⟩ := World.cell?_of_block (w := W) (World.putObj_heap_other hl)
  have hs : W.heap.size ≤ (W.putObj l o').heap.size := (grownBy_putObj' W l o').size
  rintro (h' | h' | ⟨n, c, h'⟩)
  · exact h (.inl h')
  · exact h (.inr (.inl (by omega)))
  · rw [h2] at h'; exact h (.inr (.inr ⟨n, c, h'⟩))
theorem Nums.grownOther {w w' : World} {B B' : Nat} {e : TypeId} {k : IntKind} {v : Value} {xs : List Int} {row : Option Nat} (h : Nums w B e k v xs) (hg : w.grownBy w' row) (hr : ∀ r, row = some r → B' ≤ r ∧ ∃ o : Obj, w.heap[r]? = some o ∧ o.isCells = false) : Nums w' B e k v xs := by
  refine World.ownsRow.kept h hg ?_
  rcases h.2 with ⟨rfl, _⟩ | ⟨g, cap, cur, rfl, _, hh, _⟩
  · exact .inl rfl
  · refine .inr fun e => ?_
    obtain ⟨_, o, ho, hc⟩ := hr g (by simpa [Value.ownBlock] using e.symm)
    rw [hh] at ho
    injection ho with ho
    subst ho
    cases hc

/-- One number is appended and the slice is stored. -/
theorem collect_step {w W w' : World} {lo hi gO B : Nat} {v v' : Value} {xs : List Int} {x : Int} (hbel : Below lo w W) (hO : Keep W gO #[v] 26) (hn : Nums W B 3 .i64 v xs) (hlo : lo ≤ gO) (hhi : gO < hi) (hB : gO < B)
    (hn' : Nums w' B 3 .i64 v' (xs ++ [x])) (hg : (W.alloc (.cells #[.int .i64 x] 3)).grownBy w' v.ownBlock) (hat : v'.ownBlock = v.ownBlock ∨ v'.ownBlock = some (W.heap.size + 1)) :
    Keep w' gO #[v] 26 ∧ KeepsOthers W (w'.setCell ⟨gO, 0, none⟩ v') ∧ KeepsBut lo (MineC lo hi gO) W (w'.setCell ⟨gO, 0, none⟩ v') ∧ Keep (w'.setCell ⟨gO, 0, none⟩ v') gO #[v'] 26 ∧ Nums (w'.setCell ⟨gO, 0, none⟩ v') B 3 .i64 v' (xs ++ [x]) ∧ Below lo w (w'.setCell ⟨gO, 0, none⟩ v') ∧
      (∀ g cs t, g < B → g ≠ gO → Keep W g cs t → Keep (w'.setCell ⟨gO, 0, none⟩ v') g cs t) := by
  have hrow : ∀ k, v.ownBlock = some k → B ≤ k ∧ k < W.heap.size := fun k hk => World.ownsRow.lt hn k hk
  have hold : ∀ k, k < W.heap.size → some k ≠ v.ownBlock → w'.heap[k]? = W.heap[k]? := fun k hk hne => (hg.block k (by simp; omega) hne).trans (Below.heap_alloc _ _ _ hk)
  have hne : ∀ k, k < B → some k ≠ v.ownBlock := fun k hk e => by have := hrow k e.symm; omega
  have hsz : W.heap.size ≤ w'.heap.size := by have := hg.size; simp at this; omega
  have hkO : Keep w' gO #[v] 26 := (hold gO hO.lt (hne gO (by omega))).trans hO
  have hset : ∀ k, k ≠ gO → (w'.setCell ⟨gO, 0, none⟩ v').heap[k]? = w'.heap[k]? := fun k hk => Below.heap_setCell _ _ _ _ hk
  have hb' : Below lo W (w'.setCell ⟨gO, 0, none⟩ v') := by
    refine ⟨hg.os, hg.tape, hg.output, by simpa [World.setCell] using hsz, fun k hk => ?_⟩
    exact (hset k (by omega)).trans (hold k (by have := hO.lt; omega) (hne k (by omega)))
  have hkO' : Keep (w'.setCell ⟨gO, 0, none⟩ v') gO #[v'] 26 := hkO.set 0 v'
  refine ⟨hkO, ?_, ⟨hb', fun g hgs hm => ?_⟩, hkO', ?_, hbel.trans hb', fun g cs t h1 h2 h3 => ?_⟩
  · refine KeepsOthers.trans (KeepsOthers.trans (KeepsOthers.alloc W (.cells #[.int .i64 x] 3)) (KeepsOthers.of_grownBy hg ?_)) (KeepsOthers.setCell _ _ _)
    intro j o hj ho
    rcases (Nums.alloc hn (.cells #[.int .i64 x] 3)).2 with ⟨rfl, _⟩ | ⟨g, cap, cur, rfl, _, hh, _⟩
    · simp [Value.ownBlock] at hj
    · simp [Value.ownBlock] at hj
      subst hj
      rw [hh] at ho
      injection ho with ho
      subst ho
      rfl
  · have hgO : g ≠ gO := fun e => hm (.inl (by omega))
    have hgr : some g ≠ v.ownBlock := by
      intro e
      refine hm (.inr (.inr ?_))
      rcases hn.2 with ⟨rfl, _⟩ | ⟨gr, cap, cur, rfl, _⟩
      · simp [Value.ownBlock] at e
      · simp [Value.ownBlock] at e
        subst e
        exact ⟨_, _, by simpa using hO.cell 0⟩
    refine ⟨(hset g hgO).trans (hold g hgs hgr), ?_⟩
    rintro (h' | h' | ⟨n, c, h'⟩)
    · exact hm (.inl h')
    · have := hkO'.lt; omega
    · rw [hkO'.cell 0] at h'
      simp at h'
      subst h'
      rcases hat with hat | hat
      · exact hgr (by rw [← hat]; rfl)
      · simp [Value.ownBlock] at hat; omega
  · refine World.ownsRow.kept hn' (⟨rfl, rfl, rfl, by simp [World.setCell], fun k _ hk => hset k (fun e => hk (by rw [e]))⟩ : w'.grownBy (w'.setCell ⟨gO, 0, none⟩ v') (some gO)) (.inr fun e => ?_)
    have := World.ownsRow.lt hn' gO e
    omega
  · exact ((hset g h2).trans (hold g h3.lt (hne g h1))).trans h3

end Go.Proofs.YtpmpjiigmjnniaaGreat

/-
  One number appended to a row of numbers that others still read: what is kept. Over any program.
-/
namespace Go.Proofs.YtpmpjiigmjnniaaGreat
open Go.RowKit Exs

/-- From block B on rows of ints may have been written behind their first m numbers; all else is as it was. -/
structure Fork (m B : Nat) (w w' : World) : Prop where
  below : Below B w w'
  keep : ∀ g cs t, t ≠ 3 → Keep w g cs t → Keep w' g cs t
  nums : ∀ u zs, zs.length ≤ m → Nums w B 3 .i64 u zs → Nums w' B 3 .i64 u zs
theorem Fork.of_below {m B : Nat} {w w' : World} (hB : B ≤ w.heap.size) (h : Below w.heap.size w w') : Fork m B w w' :=
  ⟨h.mono hB, fun _ _ _ _ k => k.below h, fun _ _ _ k => k.belowNew h⟩
theorem Fork.refl (m B : Nat) (w : World) : Fork m B w w := ⟨Below.refl _ _, fun _ _ _ _ k => k, fun _ _ _ k => k⟩
theorem Fork.trans {m B : Nat} {a b c : World} (h : Fork m B a b) (k : Fork m B b c) : Fork m B a c :=
  ⟨h.below.trans k.below, fun g cs t ht x => k.keep g cs t ht (h.keep g cs t ht x), fun u zs hz x => k.nums u zs hz (h.nums u zs hz x)⟩
theorem Fork.mono {m m' B : Nat} {w w' : World} (h : Fork m B w w') (hm : m' ≤ m) : Fork m' B w w' := ⟨h.below, h.keep, fun u zs hz x => h.nums u zs (Nat.le_trans hz hm) x⟩
theorem Fork.drew {m B : Nat} {a w : World} (h : Fork m B a w) : Fork m B a w.drew := ⟨h.below.drew, fun g cs t ht x => h.keep g cs t ht x, fun u zs hz x => h.nums u zs hz x⟩

theorem run_append_fork {P : Program} (w : World) (B : Nat) (t ty : TypeId) (bytes : Nat) (hinfo : (P.info? 3).map (fun i => (i.zero, i.size, i.bytes)) = some (some (.int .i64 0), 1, bytes)) (ht : P.underlying t = some (.slice 3)) (hby : bytes ≤ 8)
    (v : Value) (xs : List Int) (hown : Nums w B 3 .i64 v xs) (hB : B ≤ w.heap.size) (g0 : Nat) (b : Int) (hcell : w.cell? ⟨g0, 0, none⟩ = some (.int .i64 b)) (hlen : xs.length ≤ 1000000) :
    ∃ v' w', (Builtin.append_ #[t, t] ty #[v, .slice (some ⟨g0, 0, none⟩) 1 1]).run P w = .ok v' w' ∧ Nums w' B 3 .i64 v' (xs ++ [b]) ∧ Fork xs.length B w w' := by
  obtain ⟨i0, hi, hz0, hz1, hz2⟩ := info_parts hinfo
  have hnews : ∀ j u, [Value.int .i64 b][j]? = some u → w.cell? ((⟨g0, 0, none⟩ : Addr).add j) = some u := by
    intro j u hj
    match j, hj with
    | 0, hj => simp at hj; subst hj; simpa [Addr.add] using hcell
  have hone : ∀ u ∈ [Value.int .i64 b], u.oneCell' = true := by intro u hu; simp at hu; subst hu; rfl
  have hbytes : (xs.length + 1) * bytes ≤ 140737488355328 := by
    have : (xs.length + 1) * bytes ≤ (xs.length + 1) * 8 := Nat.mul_le_mul_left _ hby
    omega
  obtain ⟨v', w', hr, h2, h3, _⟩ := run_append_own (P := P) w B t ty 3 i0 (.int .i64 0) 1 bytes ht hi hz0 hz1 hz2 rfl (by decide) v xs.length _ hown ⟨g0, 0, none⟩ 1 1 [.int .i64 b] rfl hnews hone (by unfold maxLen; omega) hbytes hB
  refine ⟨v', w', hr, by unfold Nums; simpa using h2, ?_⟩
  have hfresh : ∀ o : Obj, w' = w.drew.alloc o → Fork xs.length B w w' := by
    rintro o rfl
    have : Below w.heap.size w (w.drew.alloc o) := (Below.refl _ w).drew.alloc (Nat.le_refl _) o
    exact Fork.of_below hB this
  rcases hown.2 with ⟨rfl, h0⟩ | ⟨g, cap, cur, rfl, hbg, hg, hnc, hcm, hcs, htake⟩
  · have hr2 := run_append_nil (P := P) w t ty 3 i0 (.int .i64 0) ht hi hz0 ⟨g0, 0, none⟩ 1 1 [.int .i64 b] (by simp [hz1]) hnews (by omega) (by omega) (by omega)
    rw [hr] at hr2
    injection hr2 with _ hw
    exact hfresh _ hw
  · by_cases hroom : xs.length + 1 ≤ cap
    · have hfit : xs.length * i0.size + [Value.int .i64 b].length ≤ cur.size := by rw [hz1, hcs]; simp; omega
      have hr2 := run_append_room (P := P) w t ty 3 i0 ht hi g xs.length cap cur hg ⟨g0, 0, none⟩ 1 1 [.int .i64 b] (by simp [hz1]) hnews hone hroom hfit
      rw [hr] at hr2
      injection hr2 with _ hw
      subst hw
      have hoth : ∀ k, k ≠ g → (w.setRow g (cur.toList.take (xs.length * i0.size) ++ [Value.int .i64 b] ++ cur.toList.drop (xs.length * i0.size + [Value.int .i64 b].length)).toArray).heap[k]? = w.heap[k]? := fun k hk => setRow_other w g k _ hk
      refine ⟨⟨rfl, rfl, rfl, by simp, fun k hk => hoth k (by omega)⟩, fun k cs t ht hk => ?_, fun u zs hz hu => ?_⟩
      · refine (hoth k ?_).trans hk
        rintro rfl
        unfold Keep at hk
        rw [hg] at hk
        injection hk with hk
        injection hk with _ hk _
        exact ht hk.symm
      · refine ⟨hu.1, ?_⟩
        rcases hu.2 with hu2 | ⟨g', cap', cur', hv, hb', hg', hn', hm', hs', ht'⟩
        · exact .inl hu2
        · by_cases hgg : g' = g
          · subst hgg
            rw [hg] at hg'
            injection hg' with hg'
            injection hg' with hcc _ _
            subst hcc
            refine .inr ⟨g', cap', _, hv, hb', setRow_heap w g' cur _ 3 _ hg, hn', hm', ?_, ?_⟩
            · rw [← hs', hz1]
              simp only [List.size_toArray, List.length_append, List.length_take, List.length_drop, Array.length_toList, List.length_cons, List.length_nil]
              omega
            · rw [← ht', hz1]
              simp only [Nat.mul_one]
              rw [List.append_assoc, List.take_append_of_le_length (by simp; omega), List.take_take]
              congr 1
              omega
          · exact .inr ⟨g', cap', cur', hv, hb', (hoth g' hgg).trans hg', hn', hm', hs', ht'⟩
    · have holds : ∀ j u, (xs.map (Value.int .i64))[j]? = some u → w.cell? ((⟨g, 0, none⟩ : Addr).add j) = some u := World.ownsRow.cells (g := g) hown rfl
      have hr2 := run_append_grow (P := P) w t ty 3 i0 (.int .i64 0) ht hi hz0 ⟨g, 0, none⟩ xs.length cap (xs.map (Value.int .i64)) (by simp [hz1]) holds ⟨g0, 0, none⟩ 1 1 [.int .i64 b] (by simp [hz1]) hnews (by omega) (by omega) (by rw [hz2]; exact growslice_fits (by omega) hbytes)
      rw [hr] at hr2
      injection hr2 with _ hw
      exact hfresh _ hw

theorem step_append_fork {P : Program} {w : World} {ops : Array Oper} {o : Oper} {a : Act} {K : Act → World → Prop} {Q : Exit → Act → World → Prop} {E : Prop} (hgd : o.guard = none) (s x : Operand) (t : TypeId)
    (ho : o.op = .call { callee := .builtin .append, args := #[s, x], argTypes := #[t, t] })
    (B bytes : Nat) (hinfo : (P.info? 3).map (fun i => (i.zero, i.size, i.bytes)) = some (some (.int .i64 0), 1, bytes)) (ht : P.underlying t = some (.slice 3)) (hby : bytes ≤ 8)
    (v : Value) (xs : List Int) (hs : a.eval s = v) (hown : Nums w B 3 .i64 v xs) (hB : B ≤ w.heap.size) (g0 : Nat) (b : Int) (hx : a.eval x = .slice (some ⟨g0, 0, none⟩) 1 1) (hcell : w.cell? ⟨g0, 0, none⟩ = some (.int .i64 b)) (hlen : xs.length ≤ 1000000)
    (h : ∀ v' w', Nums w' B 3 .i64 v' (xs ++ [b]) → Fork xs.length B w w' → K (a.put o.dst v') w') : if Region.wanted o (yielded ops a.tmps) = true then Oper.wp P o a w K Q else E := by
  have hw : Region.wanted o (yielded ops a.tmps) = true := by simp [Region.wanted, hgd]
  rw [if_pos hw]
  obtain ⟨v', w', hr, h2, h3⟩ := run_append_fork (P := P) w B t o.type bytes hinfo ht hby v xs hown hB g0 b hcell hlen
  unfold Oper.wp execOp
  simp only [ho, resolve, invoke, builtin, Sem.run_bind, Sem.run_pure, Result.andThen_ok, List.map_toArray, List.map_cons, List.map_nil, hs, hx, hr]
  exact h v' w' h2 h3

end Go.Proofs.YtpmpjiigmjnniaaGreat

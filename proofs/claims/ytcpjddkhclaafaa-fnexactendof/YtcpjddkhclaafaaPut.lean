/-
  The reference's l1Put: its contract, and plain maths of it.
-/
import Derived.Test.YtcpjddkhclaafaaOwn
namespace Go.Proofs.Ytcpjddkhclaafaa
open Go.RowKit Exs

theorem run_append_none {P : Program} (w : World) (t ty e : TypeId) (i : TypeInfo) (ht : P.underlying t = some (.slice e)) (hi : P.info? e = some i) (b : Addr) (n cap : Nat) (hn : n ≤ cap) :
    (Builtin.append_ #[t, t] ty #[.slice (some b) n cap, .slice none 0 0]).run P w = .ok (.slice (some b) n cap) w := by
  simp [Builtin.append_, run_underlying ht, sizeOf, typeInfo, zeroValue, hi, Builtin.lenOf, hn, run_firstCells_none, storeCells, Result.andThen]


/-- 'append(xs, ys...)' of a row of numbers that is not nil and a slice that is read. -/
theorem wpList_append_reads {P : Program} {w : World} {ops : Array Oper} {rest : List Oper} {o : Oper} {a : Act} {Q : Exit → Act → World → Prop} (hgd : o.guard = none) (s x : Operand) (t : TypeId)
    (ho : o.op = .call { callee := .builtin .append, args := #[s, x], argTypes := #[t, t] })
    (B : Nat) (e : TypeId) (k : IntKind) (bytes : Nat) (hinfo : (P.info? e).map (fun i => (i.zero, i.size, i.bytes)) = some (some (.int k 0), 1, bytes)) (ht : P.underlying t = some (.slice e)) (hby : bytes ≤ 8)
    (v : Value) (xs : List Int) (hs : a.eval s = v) (hB : B ≤ w.heap.size) (hown : Nums w B e k v xs) (hv : v ≠ .slice none 0 0)
    (A : Option Addr) (m c : Nat) (us : List Int) (hx : a.eval x = .slice A m c) (hc : A = none → c = 0) (hu : Reads w w.heap.size k A m us) (hlen : xs.length ≤ 2000000) (hlen' : m ≤ 2000000)
    (h : ∀ v' w', Nums w' B e k v' (xs ++ us) → Below B w w' → v' ≠ .slice none 0 0 → wpList P ops Q rest (a.put o.dst v') w') : wpList P ops Q (o :: rest) a w := by
  obtain ⟨i0, hi, hz0, hz1, hz2⟩ := info_parts hinfo
  refine wpList_plain hgd fun K hK => ?_
  cases A with
  | none =>
    obtain rfl := hc rfl
    obtain rfl : m = 0 := by
      rcases Nat.eq_zero_or_pos m with h0 | h0
      · exact h0
      · obtain ⟨_, _, hA, _⟩ := hu.2 h0; cases hA
    obtain rfl : us = [] := List.eq_nil_of_length_eq_zero hu.1
    rcases hown.2 with ⟨h1, _⟩ | ⟨g', cap', cur', rfl, _, _, hc', _⟩
    · exact absurd h1 hv
    · unfold Oper.wp execOp
      have hr := run_append_none (P := P) w t o.type e i0 ht hi ⟨g', 0, none⟩ xs.length cap' hc'
      simp only [ho, resolve, invoke, builtin, Sem.run_bind, Sem.run_pure, Result.andThen_ok, List.map_toArray, List.map_cons, List.map_nil, hs, hx, hr]
      exact hK _ _ (h _ _ (by simpa using hown) (Below.refl _ _) hv)
  | some ad =>
    refine wp_append_own w s x t ho B e i0 (.int k 0) 1 bytes ht hi hz0 hz1 hz2 rfl (by decide) v xs.length _ hs hown ad m c (us.map (Value.int k)) hx (by simp [hu.1]) ?_ (nums_oneCell k us) ?_ ?_ hB ?_
    · intro j y hj
      have hjl : j < us.length := by have := (List.getElem?_eq_some_iff.1 hj).1; simpa using this
      obtain ⟨b, off, hA, _, hcell⟩ := hu.2 (by rw [← hu.1]; omega)
      injection hA with hA
      subst hA
      have hadd : (⟨b, off, none⟩ : Addr).add j = ⟨b, off + j, none⟩ := by unfold Addr.add; split <;> simp_all
      have hx' := hcell j _ (List.getElem?_eq_getElem hjl)
      rw [hadd, hx']
      simp [List.getElem?_eq_getElem hjl] at hj
      rw [hj]
    · unfold maxLen; omega
    · have : (xs.length + m) * bytes ≤ (xs.length + m) * 8 := Nat.mul_le_mul_left _ hby
      omega
    · intro v' w' h1 h2 h3
      refine hK _ _ (h v' w' (by unfold Nums; simpa [hu.1] using h1) ((Below.refl B w).grown h2 hB fun j hj => (World.ownsRow.lt hown j hj).1) (fun e => hv (h3.1 e).1))

def putL (l : List Int) (n : Int) : List Int :=
  match l with
  | [] => [n]
  | x :: r => if x < n then x :: putL r n else if x = n then x :: r else n :: x :: r
theorem putL_at {n : Int} : ∀ {l : List Int} {k : Nat}, (∀ (i : Nat) (x : Int), i < k → l[i]? = some x → x < n) → k ≤ l.length → (∀ x, l[k]? = some x → ¬ x < n) →
    putL l n = if l[k]? = some n then l else l.take k ++ [n] ++ l.drop k
  | [], k, _, hk, _ => by obtain rfl : k = 0 := by simpa using hk
                          simp [putL]
  | x :: r, 0, _, _, h => by
    have h0 := h x rfl
    simp only [putL, if_neg h0, List.getElem?_cons_zero, Option.some.injEq]
    split <;> simp
  | x :: r, k + 1, ha, hk, h => by
    have h0 := ha 0 x (by omega) rfl
    have ih := putL_at (n := n) (l := r) (k := k) (fun i y hi hy => ha (i + 1) y (by omega) (by simpa using hy)) (by simpa using hk) (fun y hy => h y (by simpa using hy))
    simp only [putL, if_pos h0, ih, List.getElem?_cons_succ]
    split <;> simp
theorem putL_length (n : Int) : ∀ l : List Int, (putL l n).length ≤ l.length + 1
  | [] => by simp [putL]
  | x :: r => by
    have := putL_length n r
    simp only [putL]
    split
    · simp; omega
    · split <;> simp

theorem Reads.take_ {w : World} {B : Nat} {k : IntKind} {A : Option Addr} {n : Nat} {xs : List Int} (h : Reads w B k A n xs) {j : Nat} (hj : j ≤ n) : Reads w B k A j (xs.take j) :=
  ⟨by rw [List.length_take, h.1]; omega, fun h0 => by
    obtain ⟨b, off, rfl, hb, hc⟩ := h.2 (by omega)
    refine ⟨b, off, rfl, hb, fun i x hx => hc i x ?_⟩
    rw [List.getElem?_take] at hx
    split at hx
    · exact hx
    · cases hx⟩
theorem Reads.drop_ {w : World} {B : Nat} {k : IntKind} {b off : Nat} {n : Nat} {xs : List Int} (h : Reads w B k (some ⟨b, off, none⟩) n xs) {j : Nat} (hj : j ≤ n) : Reads w B k (some ⟨b, off + j, none⟩) (n - j) (xs.drop j) :=
  ⟨by rw [List.length_drop, h.1], fun h0 => by
    obtain ⟨b', off', hA, hb, hc⟩ := h.2 (by omega)
    injection hA with hA
    injection hA with h1 h2 _
    subst h1 h2
    refine ⟨b, off + j, rfl, hb, fun i x hx => ?_⟩
    rw [List.getElem?_drop] at hx
    rw [Nat.add_assoc]
    exact hc _ x hx⟩
theorem Nums.empty (w : World) (e : TypeId) (k : IntKind) : Nums (w.alloc (.cells #[] e)) w.heap.size e k (.slice (some ⟨w.heap.size, 0, none⟩) 0 0) [] :=
  Nums.of_room (xs := []) ⟨#[], heap_alloc_new _ _, rfl, rfl⟩ (Nat.le_refl _) (Nat.le_refl _) (by unfold maxLen; omega)

end Go.Proofs.Ytcpjddkhclaafaa

/-
  The reference's l1Put: its contract, and plain maths of it.
-/
import Derived.Test.YtpbkkjiikhjanaaGreatDoorJCod
namespace Go.Proofs.YtpbkkjiikhjanaaGreatDoor
open Go.RowKit Exs

theorem run_append_none {P : Program} (w : World) (t ty e : TypeId) (i : TypeInfo) (ht : P.underlying t = some (.slice e)) (hi : P.info? e = some i) (b : Addr) (n cap : Nat) (hn : n ≤ cap) :
    (Builtin.append_ #[t, t] ty #[.slice (some b) n cap, .slice none 0 0]).run P w = .ok (.slice (some b) n cap) w := by
  simp [Builtin.append_, run_underlying ht, sizeOf, typeInfo, zeroValue, hi, Builtin.lenOf, hn, run_firstCells_none, storeCells, Result.andThen]


/-- 'append(xs, ys...)' of a row of numbers that is not nil and a slice that is read. -/
theorem wpList_append_reads {P : Program} {w : World} {ops : Array Oper} {rest : List Oper} {o : Oper} {a : Act} {Q : Exit → Act → World → Prop} (hgd : o.guard = none) (s x : Operand) (t : TypeId)
    (ho : o.op = .call { callee := .builtin .append, args := #[s, x], argTypes := #[t, t] })
    (B : Nat) (e : TypeId) (k : IntKind) (bytes : Nat) (hinfo : (P.info? e).map (fun i => (i.zero, i.size, i.bytes)) = some (some (.int k 0), 1, bytes)) (ht : P.underlying t = some (.slice e)) (hby : bytes ≤ 8)
    (v : Value) (xs : List Int) (hs : a.eval s = v) (hB : B ≤ w.heap.size) (hown : Nums w B e k v xs) (hv : v ≠ .slice none 0 0)
    (A : Option Addr) (m c : Nat) (us : List Int) (hx : a.eval x = .slice A m c) (hc : A = none → c = 0) (hu : Reads w w.heap.size k A m us) (hlen : xs.length ≤ 100000) (hlen' : m ≤ 100000)
    (h : ∀ v' w', Nums w' B e k v' (xs ++ us) → Below B w w' → v' ≠ .slice none 0 0 → wpList P ops Q rest (a.put o.dst v') w') : wpList P ops Q (o :: rest) a w := by
  obtain ⟨i0, hi, hz0, hz1, hz2⟩ := info_parts hinfo
  refine wpList_plain hgd fun K hK => ?_
  cases A with
  | none =>
    obtain rfl := hc rfl
    obtain rfl : m = 0 := by
      rcases Nat.eq_zero_or_pos m with h0 | h0
      · exact h0
      · obtain ⟨_, _, hA, _⟩ := hu.2 h0; cases hA
    obtain rfl : us = [] := List.eq_nil_of_length_eq_zero hu.1
    rcases hown.2 with ⟨h1, _⟩ | ⟨g', cap', cur', rfl, _, _, hc', _⟩
    · exact absurd h1 hv
    · unfold Oper.wp execOp
      have hr := run_append_none (P := P) w t o.type e i0 ht hi ⟨g', 0, none⟩ xs.length cap' hc'
      simp only [ho, resolve, invoke, builtin, Sem.run_bind, Sem.run_pure, Result.andThen_ok, List.map_toArray, List.map_cons, List.map_nil, hs, hx, hr]
      exact hK _ _ (h _ _ (by simpa using hown) (Below.refl _ _) hv)
  | some ad =>
    refine wp_append_own w s x t ho B e i0 (.int k 0) 1 bytes ht hi hz0 hz1 hz2 rfl (by decide) v xs.length _ hs hown ad m c (us.map (Value.int k)) hx (by simp [hu.1]) ?_ (nums_oneCell k us) ?_ ?_ hB ?_
    · intro j y hj
      have hjl : j < us.length := by have := (List.getElem?_eq_some_iff.1 hj).1; simpa using this
      obtain ⟨b, off, hA, _, hcell⟩ := hu.2 (by rw [← hu.1]; omega)
      injection hA with hA
      subst hA
      have hadd : (⟨b, off, none⟩ : Addr).add j = ⟨b, off + j, none⟩ := by unfold Addr.add; split <;> simp_all
      have hx' := hcell j _ (List.getElem?_eq_getElem hjl)
      rw [hadd, hx']
      simp [List.getElem?_eq_getElem hjl] at hj
      rw [hj]
    · unfold maxLen; omega
    · have : (xs.length + m) * bytes ≤ (xs.length + m) * 8 := Nat.mul_le_mul_left _ hby
      omega
    · intro v' w' h1 h2 h3
      refine hK _ _ (h v' w' (by unfold Nums; simpa [hu.1] using h1) ((Below.refl B w).grown h2 hB fun j hj => (World.ownsRow.lt hown j hj).1) (fun e => hv (h3.1 e).1))

def putL (l : List Int) (n : Int) : List Int :=
  match l with
  | [] => [n]
  | x :: r => if x < n then x :: putL r n else if x = n then x :: r else n :: x :: r
theorem putL_at {n : Int} : ∀ {l : List Int} {k : Nat}, (∀ (i : Nat) (x : Int), i < k → l[i]? = some x → x < n) → k ≤ l.length → (∀ x, l[k]? = some x → ¬ x < n) →
    putL l n = if l[k]? = some n then l else l.take k ++ [n] ++ l.drop k
  | [], k, _, hk, _ => by obtain rfl : k = 0 := by simpa using hk
                          simp [putL]
  | x :: r, 0, _, _, h => by
    have h0 := h x rfl
    simp only [putL, if_neg h0, List.getElem?_cons_zero, Option.some.injEq]
    split <;> simp
  | x :: r, k + 1, ha, hk, h => by
    have h0 := ha 0 x (by omega) rfl
    have ih := putL_at (n := n) (l := r) (k := k) (fun i y hi hy => ha (i + 1) y (by omega) (by simpa using hy)) (by simpa using hk) (fun y hy => h y (by simpa using hy))
    simp only [putL, if_pos h0, ih, List.getElem?_cons_succ]
    split <;> simp
theorem putL_length (n : Int) : ∀ l : List Int, (putL l n).length ≤ l.length + 1
  | [] => by simp [putL]
  | x :: r => by
    have := putL_length n r
    simp only [putL]
    split
    · simp; omega
    · split <;> simp

theorem Reads.take_ {w : World} {B : Nat} {k : IntKind} {A : Option Addr} {n : Nat} {xs : List Int} (h : Reads w B k A n xs) {j : Nat} (hj : j ≤ n) : Reads w B k A j (xs.take j) :=
  ⟨by rw [List.length_take, h.1]; omega, fun h0 => by
    obtain ⟨b, off, rfl, hb, hc⟩ := h.2 (by omega)
    refine ⟨b, off, rfl, hb, fun i x hx => hc i x ?_⟩
    rw [List.getElem?_take] at hx
    split at hx
    · exact hx
    · cases hx⟩
theorem Reads.drop_ {w : World} {B : Nat} {k : IntKind} {b off : Nat} {n : Nat} {xs : List Int} (h : Reads w B k (some ⟨b, off, none⟩) n xs) {j : Nat} (hj : j ≤ n) : Reads w B k (some ⟨b, off + j, none⟩) (n - j) (xs.drop j) :=
  ⟨by rw [List.length_drop, h.1], fun h0 => by
    obtain ⟨b', off', hA, hb, hc⟩ := h.2 (by omega)
    injection hA with hA
    injection hA with h1 h2 _
    subst h1 h2
    refine ⟨b, off + j, rfl, hb, fun i x hx => ?_⟩
    rw [List.getElem?_drop] at hx
    rw [Nat.add_assoc]
    exact hc _ x hx⟩
theorem Nums.empty (w : World) (e : TypeId) (k : IntKind) : Nums (w.alloc (.cells #[] e)) w.heap.size e k (.slice (some ⟨w.heap.size, 0, none⟩) 0 0) [] :=
  Nums.of_room (xs := []) ⟨#[], heap_alloc_new _ _, rfl, rfl⟩ (Nat.le_refl _) (Nat.le_refl _) (by unfold maxLen; omega)

set_option maxHeartbeats 1000000 in
set_option maxRecDepth 100000 in
theorem l1Put_any (v : Value) (l : List Int) (n : Int) (B : Nat) (w : World) (h : Nums w B 3 .i64 v l) (hB : B ≤ w.heap.size) (hl : l.length ≤ 1000) :
    Calls Tryz.prog 135 #[v, .int .i64 n] w fun e w' => ∃ v', e = .returned v' ∧ Nums w' B 3 .i64 v' (putL l n) ∧ Below w.heap.size w w' := by
  rcases h.to_room with ⟨rfl, rfl⟩ | ⟨g, c, rfl, hBg, hroom, hlc, hc⟩
  · go_enter Tryz.func135, Tryz.ntmps135
    go_wp2
    refine wp_loop_rounds 1 ?_
    rw [rounds_succ]
    have hb0 : Below w.heap.size w (w.alloc (.cells #[] 3)) := (Below.refl _ _).alloc (Nat.le_refl _) _
    have hn0 := Nums.empty w 3 .i64
    go_wp2_with (at_builtin; first
      | (refine wpList_append_reads rfl _ _ 26 rfl w.heap.size 3 .i64 8 Tryz.info3 Tryz.underlying26 (by decide) (.slice (some ⟨w.heap.size, 0, none⟩) 0 0) [] rfl (by simp) hn0 (by simp) none 0 0 [] rfl (fun _ => rfl) ⟨rfl, fun h => absurd h (by omega)⟩ (by simp) (by omega) ?_; intro v1 w1 hn1 hb1 hv1)
      | (refine wpList_append_one rfl _ _ 26 rfl w.heap.size 3 .i64 8 Tryz.info3 Tryz.underlying26 (by decide) v1 [] rfl w ((hb0.trans hb1).alloc (Nat.le_trans hb0.size hb1.size) _) (by have := hb0.size; have := hb1.size; simp at *; omega) (Nums.alloc hn1 _) w1.heap.size n rfl (by simp) (by simp) ?_; intro v2 w2 hn2 hb2 hs2)
      | (refine wpList_append_reads rfl _ _ 26 rfl w.heap.size 3 .i64 8 Tryz.info3 Tryz.underlying26 (by decide) v2 [n] rfl (by have := hb2.size; omega) hn2 (fun e => by subst e; have := hn2.2; simp at this) none 0 0 [] rfl (fun _ => rfl) ⟨rfl, fun h => absurd h (by omega)⟩ (by simp) (by omega) ?_; intro v3 w3 hn3 hb3 hv3))
    go_ret
    exact ⟨_, rfl, hn3.more hB, hb2.trans hb3⟩
  · obtain ⟨A, c', hv, hrd⟩ := h.reads
    injection hv with hv1 hv2 hv3
    subst hv1 hv3
    clear hv2 hroom
    have HP := put h
    have HBG := put hBg
    obtain ⟨m, hm⟩ : ∃ m, l.length = m := ⟨_, rfl⟩
    rw [hm] at hl hlc hrd HP ⊢
    have HM := put hm
    clear h hm hBg hc
    go_enter Tryz.func135, Tryz.ntmps135
    go_wp2
    go_loopw [5] (fun i wr => ∃ j : Nat, j ≤ m ∧ i = .int .i64 j ∧ Hid (∀ (i : Nat) (x : Int), i < j → l[i]? = some x → x < n) ∧ wr = w) (fun i _ => m - (intOf i).toNat)
    case atStart => exact ⟨0, Nat.zero_le _, rfl, put (fun i x h => absurd h (by omega)), rfl⟩
    case round =>
      obtain ⟨j, hj, rfl, hall, rfl⟩ := hrel
      have hb0 : Below wr.heap.size wr (wr.alloc (.cells #[] 3)) := (Below.refl _ _).alloc (Nat.le_refl _) _
      have hn0 := Nums.empty wr 3 .i64
      have hrd0 := hrd.now hb0
      by_cases hlt : j < m
      · obtain ⟨b, off, x, hA, hb, hcx, hx⟩ := hrd.at_ hlt
        injection hA with hA
        injection hA with h1 h2 _
        subst h1 h2
        rw [Nat.zero_add] at hcx
        by_cases hxn : x < n
        · have hall2 := put (show ∀ (i : Nat) (y : Int), i < j + 1 → l[i]? = some y → y < n from fun i y hi hy => by
            by_cases hij : i < j
            · exact hall.out i y hij hy
            · obtain rfl : i = j := by omega
              rw [hx.out] at hy; injection hy with hy; subst hy; exact hxn)
          clear hb0 hn0 hrd0
          go_wp2
          go_roundw
          case rel => exact ⟨j + 1, by omega, by go_num, hall2, trivial⟩
          case measure => simp [intOf]; omega
        · have hput := put (putL_at hall.out (by rw [HM.out]; exact hj) (fun y hy => by rw [hx.out] at hy; injection hy with hy; subst hy; exact hxn))
          by_cases hxe : x = n
          · subst hxe
            rw [hx.out, if_pos rfl] at hput
            clear hb0 hn0 hrd0 hxn
            go_wp2
            go_ret
            exact ⟨_, rfl, by rw [hput.out]; exact HP.out, Below.refl _ _⟩
          · rw [hx.out, if_neg (fun e => hxe (by injection e))] at hput
            have hxe' := beq_of hxe
            have hjc : j < c := by omega
            have RT := put (hrd0.take_ (Nat.le_of_lt hlt))
            have RD := put (hrd.drop_ (Nat.le_of_lt hlt))
            rw [Nat.zero_add] at RD
            have HLT := put (show (l.take j).length ≤ 1000 by rw [List.length_take]; omega)
            clear hxe hrd0 hrd
            go_wp2_with (at_builtin; first
              | (refine wpList_append_reads rfl _ _ 26 rfl wr.heap.size 3 .i64 8 Tryz.info3 Tryz.underlying26 (by decide) (.slice (some ⟨wr.heap.size, 0, none⟩) 0 0) [] rfl (by simp) hn0 (by simp) (some ⟨g, 0, none⟩) j c (l.take j) rfl (fun e => by cases e) RT.out (by simp) (by omega) ?_; intro v1 w1 hn1 hb1 hv1)
              | (refine wpList_append_one rfl _ _ 26 rfl wr.heap.size 3 .i64 8 Tryz.info3 Tryz.underlying26 (by decide) v1 ([] ++ l.take j) rfl wr ((hb0.trans hb1).alloc (Nat.le_trans hb0.size hb1.size) _) (by have := hb0.size; have := hb1.size; simp at *; omega) (Nums.alloc hn1 _) w1.heap.size n rfl (by simp) (by have := HLT.out; simp at *; omega) ?_; intro v2 w2 hn2 hb2 hs2)
              | (refine wpList_append_reads rfl _ _ 26 rfl wr.heap.size 3 .i64 8 Tryz.info3 Tryz.underlying26 (by decide) v2 ([] ++ l.take j ++ [n]) rfl (by have := hb2.size; omega) hn2 (fun e => by subst e; have := hn2.2; simp at this) (some ⟨g, j, none⟩) (m - j) (c - j) (l.drop j) rfl (fun e => by cases e) (RD.out.now hb2) (by have := HLT.out; simp at *; omega) (by omega) ?_; intro v3 w3 hn3 hb3 hv3))
            go_ret
            exact ⟨_, rfl, by rw [hput.out]; exact hn3.more hB, hb2.trans hb3⟩
      · obtain rfl : j = m := by omega
        have hput := put (putL_at hall.out (by rw [HM.out]; exact hj) (fun y hy => by have := (List.getElem?_eq_some_iff.1 hy).1; rw [HM.out] at this; omega))
        have hnone : l[j]? = none := List.getElem?_eq_none (by rw [HM.out]; exact Nat.le_refl _)
        rw [hnone, if_neg (by simp)] at hput
        have RT := put (hrd0.take_ (Nat.le_refl _))
        have HLT := put (show (l.take j).length ≤ 1000 by rw [List.length_take]; omega)
        have hdrop := put (show l.drop j = [] from List.drop_eq_nil_of_le (by rw [HM.out]; exact Nat.le_refl _))
        rw [hdrop.out] at hput
        clear hnone hrd0 hrd
        rcases (show j < c ∨ j = c by omega) with hjc | hjc
        · go_wp2_with (at_builtin; first
            | (refine wpList_append_reads rfl _ _ 26 rfl wr.heap.size 3 .i64 8 Tryz.info3 Tryz.underlying26 (by decide) (.slice (some ⟨wr.heap.size, 0, none⟩) 0 0) [] rfl (by simp) hn0 (by simp) (some ⟨g, 0, none⟩) j c (l.take j) rfl (fun e => by cases e) RT.out (by simp) (by omega) ?_; intro v1 w1 hn1 hb1 hv1)
            | (refine wpList_append_one rfl _ _ 26 rfl wr.heap.size 3 .i64 8 Tryz.info3 Tryz.underlying26 (by decide) v1 ([] ++ l.take j) rfl wr ((hb0.trans hb1).alloc (Nat.le_trans hb0.size hb1.size) _) (by have := hb0.size; have := hb1.size; simp at *; omega) (Nums.alloc hn1 _) w1.heap.size n rfl (by simp) (by have := HLT.out; simp at *; omega) ?_; intro v2 w2 hn2 hb2 hs2)
            | (refine wpList_append_reads rfl _ _ 26 rfl wr.heap.size 3 .i64 8 Tryz.info3 Tryz.underlying26 (by decide) v2 ([] ++ l.take j ++ [n]) rfl (by have := hb2.size; omega) hn2 (fun e => by subst e; have := hn2.2; simp at this) (some ⟨g, j, none⟩) 0 (c - j) [] rfl (fun e => by cases e) ⟨rfl, fun h => absurd h (by omega)⟩ (by have := HLT.out; simp at *; omega) (by omega) ?_; intro v3 w3 hn3 hb3 hv3))
          go_ret
          exact ⟨_, rfl, by rw [hput.out]; exact hn3.more hB, hb2.trans hb3⟩
        · subst hjc
          go_wp2_with (at_builtin; first
            | (refine wpList_append_reads rfl _ _ 26 rfl wr.heap.size 3 .i64 8 Tryz.info3 Tryz.underlying26 (by decide) (.slice (some ⟨wr.heap.size, 0, none⟩) 0 0) [] rfl (by simp) hn0 (by simp) (some ⟨g, 0, none⟩) j j (l.take j) rfl (fun e => by cases e) RT.out (by simp) (by omega) ?_; intro v1 w1 hn1 hb1 hv1)
            | (refine wpList_append_one rfl _ _ 26 rfl wr.heap.size 3 .i64 8 Tryz.info3 Tryz.underlying26 (by decide) v1 ([] ++ l.take j) rfl wr ((hb0.trans hb1).alloc (Nat.le_trans hb0.size hb1.size) _) (by have := hb0.size; have := hb1.size; simp at *; omega) (Nums.alloc hn1 _) w1.heap.size n rfl (by simp) (by have := HLT.out; simp at *; omega) ?_; intro v2 w2 hn2 hb2 hs2)
            | (refine wpList_append_reads rfl _ _ 26 rfl wr.heap.size 3 .i64 8 Tryz.info3 Tryz.underlying26 (by decide) v2 ([] ++ l.take j ++ [n]) rfl (by have := hb2.size; omega) hn2 (fun e => by subst e; have := hn2.2; simp at this) (some ⟨g, 0, none⟩) 0 0 [] rfl (fun e => by cases e) ⟨rfl, fun h => absurd h (by omega)⟩ (by have := HLT.out; simp at *; omega) (by omega) ?_; intro v3 w3 hn3 hb3 hv3))
          go_ret
          exact ⟨_, rfl, by rw [hput.out]; exact hn3.more hB, hb2.trans hb3⟩

end Go.Proofs.YtpbkkjiikhjanaaGreatDoor

/-
  Rows of a call's own, and the laws' marks on rows.
-/
import Derived.Test.YtkfdehmmhgcapaaRwM
import Derived.Test.YtkfdehmmhgcapaaCoEq
import Derived.Test.YtkfdehmmhgcapaaOwn
namespace Go.Proofs.Ytkfdehmmhgcapaa
open Go.RowKit Exs

def Rws (w : World) (B : Nat) (v : Value) (rs : List Row3) : Prop := w.ownsRow B 50 3 v rs.length ((flat3 rs).map (Value.int .i64))
theorem Rws.nil (w : World) (B : Nat) : Rws w B (.slice none 0 0) [] := World.ownsRow_nil _ _ _ _
theorem Rws.below {w w' : World} {B : Nat} {v : Value} {rs : List Row3} (h : Rws w B v rs) (hb : Below w.heap.size w w') : Rws w' B v rs := by
  refine ⟨h.1, ?_⟩
  rcases h.2 with h0 | ⟨g, cap, cur, hv, hB, hg, hc, hmx, hs, ht⟩
  · exact .inl h0
  · exact .inr ⟨g, cap, cur, hv, hB, (hb.block g (Array.getElem?_eq_some_iff.1 hg).1).trans hg, hc, hmx, hs, ht⟩
theorem Rws.under {w : World} {B B' : Nat} {v : Value} {rs : List Row3} (h : Rws w B v rs) (hB : B' ≤ B) : Rws w B' v rs := by
  refine ⟨h.1, ?_⟩
  rcases h.2 with h0 | ⟨g, cap, cur, hv, hg, r⟩
  · exact .inl h0
  · exact .inr ⟨g, cap, cur, hv, by omega, r⟩
theorem Rws.inked {w w' : World} {B L R : Nat} {v : Value} {rs : List Row3} (h : Rws w B v rs) (hR : R ≤ B) (hi : Inked L R w w') : Rws w' B v rs := by
  obtain ⟨h1, h2⟩ := h
  refine ⟨h1, ?_⟩
  rcases h2 with h2 | ⟨g, cap, cur, hv, hg, hh, r⟩
  · exact Or.inl h2
  · exact Or.inr ⟨g, cap, cur, hv, hg, (hi.above g (by omega) (Array.getElem?_eq_some_iff.1 hh).1).trans hh, r⟩
theorem Rws.reads {w : World} {B : Nat} {v : Value} {rs : List Row3} (h : Rws w B v rs) : ∃ A c, v = .slice A rs.length c ∧ ReadsR w w.heap.size A rs.length rs := by
  rcases h.2 with ⟨rfl, h0⟩ | ⟨g, cap, cur, rfl, hB, hg, hc, hm, _⟩
  · rw [h0]
    exact ⟨none, 0, rfl, h0, by rw [flat3_length, h0], fun hn => absurd hn (by omega)⟩
  · refine ⟨some ⟨g, 0, none⟩, cap, rfl, rfl, flat3_length rs, fun hn => ⟨g, 0, rfl, (Array.getElem?_eq_some_iff.1 hg).1, fun j x hx => ?_⟩⟩
    have hj : j < (flat3 rs).length := (List.getElem?_eq_some_iff.1 hx).1
    rw [flat3_length] at hj
    rw [Nat.zero_add, World.ownsRow.cellAt h j (by omega)]
    simp [hx]
theorem run_append_row (w : World) (B : Nat) (v : Value) (rs : List Row3) (h : Rws w B v rs) (hB : B ≤ w.heap.size) (g : Nat) (x y z : Int) (hc : w.cell? ⟨g, 0, none⟩ = some (.int .i64 x)) (hc1 : w.cell? ⟨g, 1, none⟩ = some (.int .i64 y)) (hc2 : w.cell? ⟨g, 2, none⟩ = some (.int .i64 z)) (hlen : rs.length ≤ 1000000) (ty : TypeId) :
    ∃ v' w', (Builtin.append_ #[25, 25] ty #[v, .slice (some ⟨g, 0, none⟩) 1 1]).run Try.prog w = .ok v' w' ∧ Rws w' B v' (rs ++ [(x, y, z)]) ∧ w.grownBy w' v.ownBlock := by
  obtain ⟨i0, hi, hz0, hz1, hz2⟩ := info_parts Try.info50
  have hnews : ∀ j u, [Value.int .i64 x, .int .i64 y, .int .i64 z][j]? = some u → w.cell? ((⟨g, 0, none⟩ : Addr).add j) = some u := by
    intro j u hj
    match j, hj with
    | 0, hj => simp at hj; subst hj; simpa [Addr.add] using hc
    | 1, hj => simp at hj; subst hj; simpa [Addr.add] using hc1
    | 2, hj => simp at hj; subst hj; simpa [Addr.add] using hc2
  have h1 : ∀ u ∈ [Value.int .i64 x, .int .i64 y, .int .i64 z], u.oneCell' = true := by intro u hu; simp at hu; rcases hu with rfl | rfl | rfl <;> rfl
  obtain ⟨v', w', hr, hown, hgr, _⟩ := run_append_own (P := Try.prog) w B 25 ty 50 i0 (.agg #[.int .i64 0, .int .i64 0, .int .i64 0]) 3 24 Try.underlying25 hi hz0 hz1 hz2 rfl (by decide) v rs.length _ h ⟨g, 0, none⟩ 1 1 [.int .i64 x, .int .i64 y, .int .i64 z] rfl hnews h1 (by unfold maxLen; omega) (by omega) hB
  refine ⟨v', w', hr, ?_, hgr⟩
  unfold Rws
  rw [flat3_snoc]
  simpa using hown
theorem wpList_append_row {w : World} {ops : Array Oper} {rest : List Oper} {o : Oper} {a : Act} {Q : Exit → Act → World → Prop} (hgd : o.guard = none) (s x : Operand) (ho : o.op = .call { callee := .builtin .append, args := #[s, x], argTypes := #[25, 25] }) (B : Nat) (v : Value) (rs : List Row3) (hs : a.eval s = v) (hB : B ≤ w.heap.size) (hown : Rws w B v rs)
    (g : Nat) (p y z : Int) (hx : a.eval x = .slice (some ⟨g, 0, none⟩) 1 1) (hc : w.cell? ⟨g, 0, none⟩ = some (.int .i64 p)) (hc1 : w.cell? ⟨g, 1, none⟩ = some (.int .i64 y)) (hc2 : w.cell? ⟨g, 2, none⟩ = some (.int .i64 z)) (hlen : rs.length ≤ 1000000)
    (h : ∀ v' w', Rws w' B v' (rs ++ [(p, y, z)]) → w.grownBy w' v.ownBlock → wpList Try.prog ops Q rest (a.put o.dst v') w') : wpList Try.prog ops Q (o :: rest) a w := by
  obtain ⟨v', w', hr, h2, h3⟩ := run_append_row w B v rs hown hB g p y z hc hc1 hc2 hlen o.type
  refine wpList_plain hgd fun K hK => ?_
  unfold Oper.wp execOp
  simp only [ho, resolve, invoke, builtin, Sem.run_bind, Sem.run_pure, Result.andThen_ok, List.map_toArray, List.map_cons, List.map_nil, hs, hx, hr]
  exact hK _ _ (h v' w' h2 h3)
/-- What lies below the row's blocks stays while it grows. -/
theorem Rws.grown_below {w w0 w' : World} {B : Nat} {v : Value} {rs : List Row3} (h : Rws w B v rs) (hb : Below B w0 w) (hB : B ≤ w.heap.size) (hg : w.grownBy w' v.ownBlock) : Below B w0 w' :=
  hb.grown hg hB fun j hj => (World.ownsRow.lt h j hj).1

/-- Numbers where rows lie. -/
def RNs (w : World) (B : Nat) (v : Value) (n : Nat) (xs : List Int) : Prop := w.ownsRow B 50 3 v n (xs.map (Value.int .i64))
theorem RNs.to_room {w : World} {B n : Nat} {v : Value} {xs : List Int} (h : RNs w B v n xs) : (v = .slice none 0 0 ∧ n = 0) ∨ ∃ g c, v = .slice (some ⟨g, 0, none⟩) n c ∧ B ≤ g ∧ Room w g 50 (c * 3) .i64 xs ∧ n ≤ c ∧ c ≤ maxLen := by
  have h1 : xs.length = n * 3 := by simpa using h.1
  rcases h.2 with ⟨rfl, hn⟩ | ⟨g, cap, cur, rfl, hB, hg, hnc, hm, hcs, htk⟩
  · exact .inl ⟨rfl, hn⟩
  · exact .inr ⟨g, cap, rfl, hB, ⟨cur, hg, hcs, by rw [h1]; exact htk⟩, hnc, hm⟩
theorem RNs.of_room {w : World} {B g n c : Nat} {xs : List Int} (h : Room w g 50 (c * 3) .i64 xs) (hB : B ≤ g) (hx : xs.length = n * 3) (hl : n ≤ c) (hc : c ≤ maxLen) : RNs w B (.slice (some ⟨g, 0, none⟩) n c) n xs := by
  obtain ⟨cs, h1, h2, h3⟩ := h
  exact ⟨by simpa using hx, .inr ⟨g, c, cs, rfl, hB, h1, hl, hc, h2, by rw [← hx]; exact h3⟩⟩
theorem RNs.below {w w' : World} {B n : Nat} {v : Value} {xs : List Int} (h : RNs w B v n xs) (hb : Below w.heap.size w w') : RNs w' B v n xs := by
  refine ⟨h.1, ?_⟩
  rcases h.2 with h0 | ⟨g, cap, cur, hv, hB, hg, hc, hmx, hs, ht⟩
  · exact .inl h0
  · exact .inr ⟨g, cap, cur, hv, hB, (hb.block g (Array.getElem?_eq_some_iff.1 hg).1).trans hg, hc, hmx, hs, ht⟩
theorem ups_three (k : Nat) : ups ((k + 1) * 3) = ups (k * 3) ++ [((k * 3 : Nat) : Int) + 1] ++ [((k * 3 : Nat) : Int) + 2] ++ [((k * 3 : Nat) : Int) + 3] := by
  rw [show (k + 1) * 3 = k * 3 + 1 + 1 + 1 by omega, ups_more, ups_more, ups_more]
  simp only [Int.natCast_add, List.append_assoc, List.cons_append, List.nil_append]
  congr 2
theorem Room.push3 {w : World} {g : Nat} {t : TypeId} {c k : Nat} {xs : List Int} (h : Room w g t (c * 3) .i64 xs) (hx : xs.length = k * 3) (hc : k < c) (x y z : Int) :
    Room (((w.setCell ⟨g, k * 3, none⟩ (.int .i64 x)).setCell ⟨g, k * 3 + 1, none⟩ (.int .i64 y)).setCell ⟨g, k * 3 + 2, none⟩ (.int .i64 z)) g t (c * 3) .i64 (xs ++ [x] ++ [y] ++ [z]) := by
  have h1 := h.push (by omega) x
  have h2 := h1.push (by simp; omega) y
  have h3 := h2.push (by simp; omega) z
  simp only [List.length_append, List.length_singleton, hx] at h1 h2 h3
  exact h3

set_option maxHeartbeats 400000 in
set_option maxRecDepth 100000 in
theorem markRows_own (v : Value) (n : Nat) (xs : List Int) (B : Nat) (w : World) (h : RNs w B v n xs) (hn : n ≤ 1048576) :
    Calls Try.prog 21 #[v, .int .i64 1] w fun e w' => e = .returned (.int .i64 (((n * 3 : Nat) : Int) + 1)) ∧ RNs w' B v n (ups (n * 3)) ∧ Below B w w' := by
  rcases h.to_room with ⟨rfl, rfl⟩ | ⟨g, c, rfl, hB, hroom, hl, hc⟩
  · have H : RNs w B (.slice none 0 0) 0 (ups (0 * 3)) := World.ownsRow_nil _ _ _ _
    go_enter Try.func21, Try.ntmps21
    go_wp2
    refine wp_loop_rounds 1 ?_
    rw [rounds_succ]
    go_wp2
    go_ret
    exact ⟨rfl, H, Below.refl _ _⟩
  · clear h
    have HC := put hc
    have hr0 := hroom.none_
    clear hroom hc
    go_enter Try.func21, Try.ntmps21
    go_wp2
    go_loopw [1, 5] (fun u i wr => ∃ k : Nat, k ≤ n ∧ i = .int .i64 k ∧ u = .int .i64 (((k * 3 : Nat) : Int) + 1) ∧ Room wr g 50 (c * 3) .i64 (ups (k * 3)) ∧ Below B w wr) (fun _ i _ => n - (intOf i).toNat)
    case atStart => exact ⟨0, Nat.zero_le _, rfl, rfl, hr0, Below.refl _ _⟩
    case round =>
      obtain ⟨k, hk, rfl, rfl, hroom, hb⟩ := hrel
      clear hr0
      by_cases hlt : k < n
      · obtain ⟨c0, hc0⟩ := hroom.at_ (k * 3) (by omega)
        obtain ⟨c1, hc1⟩ := hroom.at_ (k * 3 + 1) (by omega)
        obtain ⟨c2, hc2⟩ := hroom.at_ (k * 3 + 2) (by omega)
        have hf0 := hroom.frozen (k * 3)
        have hf1 := hroom.frozen (k * 3 + 1)
        have hf2 := hroom.frozen (k * 3 + 2)
        have hpush := hroom.push3 (k := k) (ups_length _) (by omega) (((k * 3 : Nat) : Int) + 1) (((k * 3 : Nat) : Int) + 2) (((k * 3 : Nat) : Int) + 3)
        rw [← ups_three] at hpush
        have HP := put hpush
        have HB := put (((hb.setCell (p := ⟨g, k * 3, none⟩) hB (.int .i64 (((k * 3 : Nat) : Int) + 1))).setCell (p := ⟨g, k * 3 + 1, none⟩) hB (.int .i64 (((k * 3 : Nat) : Int) + 2))).setCell (p := ⟨g, k * 3 + 2, none⟩) hB (.int .i64 (((k * 3 : Nat) : Int) + 3)))
        clear hpush
        go_wp2
        go_roundw
        case rel => exact ⟨k + 1, by omega, by go_num, by congr 1; omega, HP.out, HB.out⟩
        case measure => simp [intOf]; omega
      · obtain rfl : k = n := by omega
        go_wp2
        go_ret
        exact ⟨rfl, RNs.of_room hroom hB (ups_length _) hl HC.out, hb⟩

set_option maxHeartbeats 400000 in
set_option maxRecDepth 100000 in
theorem heldRows_own (v : Value) (n : Nat) (B : Nat) (w : World) (h : RNs w B v n (ups (n * 3))) (hn : n ≤ 1048576) :
    Calls Try.prog 26 #[v, .int .i64 1] w fun e w' => e = .returned (.int .i64 (((n * 3 : Nat) : Int) + 1)) ∧ w = w' := by
  rcases h.to_room with ⟨rfl, rfl⟩ | ⟨g, c, rfl, hB, hroom, hl, hc⟩
  · go_enter Try.func26, Try.ntmps26
    go_wp2
    refine wp_loop_rounds 1 ?_
    rw [rounds_succ]
    go_wp2
    go_ret
    exact ⟨rfl, rfl⟩
  · clear hc h
    go_enter Try.func26, Try.ntmps26
    go_wp2
    go_loop [1, 5] (fun u i => ∃ k : Nat, k ≤ n ∧ i = .int .i64 k ∧ u = .int .i64 (((k * 3 : Nat) : Int) + 1)) (fun _ i => n - (intOf i).toNat)
    case atStart => exact ⟨0, Nat.zero_le _, rfl, rfl⟩
    case round =>
      obtain ⟨k, hk, rfl, rfl⟩ := hrel
      by_cases hlt : k < n
      · have hc0 := hroom.cell (k * 3) (by rw [ups_length]; omega)
        have hc1 := hroom.cell (k * 3 + 1) (by rw [ups_length]; omega)
        have hc2 := hroom.cell (k * 3 + 2) (by rw [ups_length]; omega)
        rw [ups_get (by omega)] at hc0 hc1 hc2
        rw [show ((k * 3 + 1 : Nat) : Int) + 1 = ((k * 3 : Nat) : Int) + 2 by omega] at hc1
        rw [show ((k * 3 + 2 : Nat) : Int) + 1 = ((k * 3 : Nat) : Int) + 3 by omega] at hc2
        go_wp2
        go_round
        case rel => exact ⟨k + 1, by omega, by go_num, by congr 1; omega⟩
        case measure => simp [intOf]; omega
      · obtain rfl : k = n := by omega
        go_wp2
        go_ret
        exact ⟨rfl, rfl⟩

set_option maxHeartbeats 400000 in
set_option maxRecDepth 100000 in
theorem markRows_ink (A : Option Addr) (n c : Nat) (ts : List Row3) (k : Int) (L : Nat) (wc w0 w : World) (m : MRows wc L A n ts) (hw : Below wc.heap.size wc w0) (hi : Inked L wc.heap.size w0 w) (hn : n ≤ 1048576) (hk0 : 0 ≤ k) (hk1 : k ≤ 1000000000) :
    Calls Try.prog 21 #[.slice A n c, .int .i64 k] w fun e w' => e = .returned (.int .i64 (k + 3 * (n : Int))) ∧ Inked L wc.heap.size w0 w' := by
  obtain ⟨g, rfl, hL, hroom, hl⟩ := m
  have hlt := hroom.lt
  obtain ⟨cs, hg0, hcs⟩ := hroom.cells_
  have hg := (hw.block g hlt).trans hg0
  clear hg0
  rw [flat3_length, hl] at hcs
  have HG := put hg
  have HLT := put hlt
  have HC := put hcs
  clear hg hcs hl hroom hlt
  go_enter Try.func21, Try.ntmps21
  go_wp2
  go_loopw [1, 5] (fun u i wr => ∃ j : Nat, j ≤ n ∧ i = .int .i64 j ∧ u = .int .i64 (k + 3 * (j : Int)) ∧ Inked L wc.heap.size w0 wr) (fun _ i _ => n - (intOf i).toNat)
  case atStart => exact ⟨0, Nat.zero_le _, rfl, by simp, hi⟩
  case round =>
    clear hi
    obtain ⟨j, hj, rfl, rfl, hi⟩ := hrel
    by_cases hlt : j < n
    · have hc := HC.out (j * 3) (by omega)
      have hc' := HC.out (j * 3 + 1) (by omega)
      have hc'' := HC.out (j * 3 + 2) (by omega)
      obtain ⟨y, hy⟩ := hi.num HG.out hc
      obtain ⟨y', hy'⟩ := hi.num HG.out hc'
      obtain ⟨y'', hy''⟩ := hi.num HG.out hc''
      have hfr := hi.frozen HG.out (j * 3)
      have hfr' := hi.frozen HG.out (j * 3 + 1)
      have hfr'' := hi.frozen HG.out (j * 3 + 2)
      have hset := put (((hi.set hL HLT.out HG.out hc (k + 3 * (j : Int))).set hL HLT.out HG.out hc' (k + 3 * (j : Int) + 1)).set hL HLT.out HG.out hc'' (k + 3 * (j : Int) + 1 + 1))
      clear hc hc' hc''
      go_wp2
      go_roundw
      case rel => exact ⟨j + 1, by omega, by go_num, by first | (congr 1; done) | (congr 1; omega), hset.out⟩
      case measure => simp [intOf]; omega
    · obtain rfl : j = n := by omega
      go_wp2
      go_ret
      exact ⟨rfl, hi⟩

/-- Rows of one list are the same for the laws' comparing. -/
theorem eqRws_any (v v' : Value) (rs : List Row3) (B B' : Nat) (w : World) (h : Rws w B v rs) (h' : Rws w B' v' rs) (hn : rs.length ≤ 1048576) :
    Calls Try.prog 15 #[v, v'] w fun e w' => e = .returned (.bool true) ∧ Below w.heap.size w w' := by
  obtain ⟨A, c, rfl, hr⟩ := h.reads
  obtain ⟨A', c', rfl, hr'⟩ := h'.reads
  exact eqRows_same A A' _ c c' rs w hr hr' hn

end Go.Proofs.Ytkfdehmmhgcapaa

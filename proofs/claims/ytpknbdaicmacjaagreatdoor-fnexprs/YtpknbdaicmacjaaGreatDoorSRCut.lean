/-
  The contract of the reference's cut of a text at blanks.
-/
import Derived.Test.YtpknbdaicmacjaaGreatDoorSRTok
namespace Go.Proofs.YtpknbdaicmacjaaGreatDoor
open Go.RowKit Exs
set_option linter.unusedVariables false

/-- Words in a row of the call's own. -/
def Strs (w : World) (B : Nat) (v : Value) (ws : List (List UInt8)) : Prop := w.ownsRow B 9 1 v ws.length (ws.map fun l => Value.string (strB l))
theorem Strs.nil (w : World) (B : Nat) : Strs w B (.slice none 0 0) [] := World.ownsRow_nil _ _ _ _
theorem Strs.alloc {w : World} {B : Nat} {v : Value} {ws : List (List UInt8)} (h : Strs w B v ws) (o : Obj) : Strs (w.alloc o) B v ws := World.ownsRow.alloc h o
theorem Strs.below {w w' : World} {B : Nat} {v : Value} {ws : List (List UInt8)} (h : Strs w B v ws) (hb : Below w.heap.size w w') : Strs w' B v ws := by
  refine ⟨h.1, ?_⟩
  rcases h.2 with h0 | ⟨g, cap, cur, hv, hB, hg, hc, hmx, hs, ht⟩
  · exact .inl h0
  · exact .inr ⟨g, cap, cur, hv, hB, (hb.block g (Array.getElem?_eq_some_iff.1 hg).1).trans hg, hc, hmx, hs, ht⟩
theorem Strs.form {w : World} {B : Nat} {v : Value} {ws : List (List UInt8)} (h : Strs w B v ws) (hn : 0 < ws.length) :
    ∃ g cap, v = .slice (some ⟨g, 0, none⟩) ws.length cap ∧ B ≤ g ∧ g < w.heap.size ∧ ws.length ≤ cap ∧ cap ≤ maxLen ∧ ∀ j u, ws[j]? = some u → w.cell? ⟨g, j, none⟩ = some (.string (strB u)) := by
  rcases h.2 with ⟨_, h0⟩ | ⟨g, cap, cur, rfl, hB, hg, hc, hm, _⟩
  · omega
  · refine ⟨g, cap, rfl, hB, (Array.getElem?_eq_some_iff.1 hg).1, hc, hm, fun j u hu => ?_⟩
    have hj : j < ws.length := (List.getElem?_eq_some_iff.1 hu).1
    rw [World.ownsRow.cellAt h j (by omega)]
    simp [hu]

theorem Tryz.info9 : (Tryz.prog.info? 9).map (fun i => (i.zero, i.size, i.bytes)) = some (some (.string ⟨#[]⟩), 1, 16) := by kernel_rfl

/-- 'append(out, s)', s a text. -/
theorem wpList_append_word {w : World} {ops : Array Oper} {rest : List Oper} {o : Oper} {a : Act} {Q : Exit → Act → World → Prop} (hgd : o.guard = none) (s x : Operand)
    (ho : o.op = .call { callee := .builtin .append, args := #[s, x], argTypes := #[54, 54] }) (B : Nat) (v : Value) (ws : List (List UInt8)) (hs : a.eval s = v) (w0 : World) (hbel : Below B w0 w) (hB : B ≤ w.heap.size) (hown : Strs w B v ws)
    (g : Nat) (u : List UInt8) (hx : a.eval x = .slice (some ⟨g, 0, none⟩) 1 1) (hcell : w.cell? ⟨g, 0, none⟩ = some (.string (strB u))) (hlen : ws.length ≤ 1000000)
    (h : ∀ v' w', Strs w' B v' (ws ++ [u]) → Below B w0 w' → wpList Tryz.prog ops Q rest (a.put o.dst v') w') : wpList Tryz.prog ops Q (o :: rest) a w := by
  obtain ⟨i0, hi, hz0, hz1, hz2⟩ := info_parts Tryz.info9
  refine wpList_append_own w hgd s x 54 ho B 9 i0 (.string ⟨#[]⟩) 1 16 Tryz.underlying54 hi hz0 hz1 hz2 rfl (by decide) v ws.length _ hs hown ⟨g, 0, none⟩ 1 1 [.string (strB u)] hx rfl ?_ ?_ ?_ ?_ hB ?_
  · intro j y hj
    match j, hj with
    | 0, hj => simp at hj; subst hj; simpa [Addr.add] using hcell
  · intro y hy; simp at hy; subst hy; rfl
  · unfold maxLen; omega
  · omega
  · intro v' w' h1 h2 _
    refine h v' w' ?_ (hbel.grown h2 hB fun j hj => (World.ownsRow.lt hown j hj).1)
    unfold Strs
    simpa using h1

/-- What a cut of the words leaves. -/
def Cut (l : List UInt8) (w : World) (e : Ending) (w' : World) : Prop := ∃ v', e = .returned v' ∧ Strs w' w.heap.size v' (splitL l) ∧ Below w.heap.size w w'

set_option maxHeartbeats 1000000 in
set_option maxRecDepth 100000 in
theorem l1Split_any (l : List UInt8) (w : World) (hl : l.length ≤ 200) : Calls Tryz.prog 31 #[.string (strB l), .int .u8 32] w (Cut l w) := by
  have hsz := put (strB_size l)
  have hs2 : (strB l).size ≤ 200 := by rw [hsz.out]; exact hl
  go_enter Tryz.func31, Tryz.ntmps31
  go_wp2
  go_loopw [5, 6, 7] (fun ov f i wr => ∃ (k from_ : Nat) (ws : List (List UInt8)), k ≤ (strB l).size ∧ from_ ≤ k ∧ ws.length ≤ k ∧ i = .int .i64 k ∧ f = .int .i64 from_ ∧ Strs wr w.heap.size ov ws ∧ Hid (splitL l = ws ++ cont ((l.take k).drop from_) (l.drop k)) ∧ Below w.heap.size w wr) (fun _ _ i _ => (strB l).size - (intOf i).toNat)
  case atStart => exact ⟨0, 0, [], Nat.zero_le _, Nat.le_refl _, Nat.le_refl _, rfl, rfl, Strs.nil _ _, (cont_start l).symm, Below.refl _ _⟩
  case round =>
    obtain ⟨k, fr, ws, hk, hfk, hwk, rfl, rfl, hown, hsp, hbel⟩ := hrel
    by_cases hlt : k < (strB l).size
    · obtain ⟨b, hb, hb2⟩ := byte_at l k hlt
      have hdrop : l.drop k = b :: l.drop (k + 1) := by
        obtain ⟨h1, h2⟩ := List.getElem?_eq_some_iff.1 hb2
        rw [List.drop_eq_getElem_cons h1, h2]
      have htake : l.take (k + 1) = l.take k ++ [b] := by rw [List.take_add_one, hb2]; rfl
      by_cases h32 : b = 32
      · subst h32
        have HN := put (show splitL l = (ws ++ [(l.take k).drop fr]) ++ cont ((l.take (k + 1)).drop (k + 1)) (l.drop (k + 1)) by
          rw [hsp.out, hdrop, cont_blank, show (l.take (k + 1)).drop (k + 1) = [] from List.drop_eq_nil_of_le (List.length_take_le _ _)]; simp)
        have hex := strB_extract l fr k
        generalize (l.take k).drop fr = u at *
        have hbz : ((((32 : UInt8).toNat : Nat) : Int) == 32) = true := rfl
        have hbs := hbel.size
        have HX := put hex
        clear hex hdrop htake hb2 hsp
        go_wp2_with (at_builtin; refine wpList_append_word rfl _ _ rfl w.heap.size _ ws rfl w (hbel.alloc hbel.size _) (by simp; omega) (hown.alloc _) wr.heap.size u rfl (by rw [← HX.out]; simp) (by omega) ?_)
        intro v2 w2 hown2 hbel2
        go_wp2
        go_roundw
        case rel => exact ⟨k + 1, k + 1, ws ++ [u], by omega, Nat.le_refl _, by simp; omega, by go_num, by go_num, hown2, HN, hbel2⟩
        case measure => simp [intOf]; omega
      · have HN := put (show splitL l = ws ++ cont ((l.take (k + 1)).drop fr) (l.drop (k + 1)) by
          rw [hsp.out, hdrop, cont_byte _ _ h32, htake, List.drop_append_of_le_length (by rw [List.length_take]; have := hsz.out; omega)])
        have hne : (((b.toNat : Nat) : Int) == 32) = false := beqI (fun e => h32 (UInt8.toNat_inj.1 (by simp; omega)))
        clear hdrop htake hb2 hsp
        go_wp2
        go_roundw
        case rel => exact ⟨k + 1, fr, ws, by omega, by omega, by omega, by go_num, rfl, hown, HN, hbel⟩
        case measure => simp [intOf]; omega
    · obtain rfl : k = (strB l).size := by omega
      have hex := strB_extract l fr (strB l).size
      have HN := put (show splitL l = ws ++ [(l.take (strB l).size).drop fr] by
        rw [hsp.out, show l.drop (strB l).size = [] from List.drop_eq_nil_of_le (by rw [hsz.out]; exact Nat.le_refl _), cont_nil])
      generalize (l.take (strB l).size).drop fr = u at *
      have HX := put hex
      have hbs := hbel.size
      clear hex hsp
      go_wp2_with (at_builtin; refine wpList_append_word rfl _ _ rfl w.heap.size _ ws rfl w (hbel.alloc hbel.size _) (by simp; omega) (hown.alloc _) wr.heap.size u rfl (by rw [← HX.out]; simp) (by omega) ?_)
      intro v2 w2 hown2 hbel2
      go_wp2
      go_ret
      exact ⟨v2, rfl, by rw [HN.out]; exact hown2, hbel2⟩

end Go.Proofs.YtpknbdaicmacjaaGreatDoor

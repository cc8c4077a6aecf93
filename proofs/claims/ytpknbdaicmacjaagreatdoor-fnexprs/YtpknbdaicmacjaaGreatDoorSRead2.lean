/-
  The contract of the reference's ReadExpr.
-/
import Derived.Test.YtpknbdaicmacjaaGreatDoorSRWord
import Derived.Test.YtpknbdaicmacjaaGreatDoorTokRow
namespace Go.Proofs.YtpknbdaicmacjaaGreatDoor
open Go.RowKit Exs
set_option linter.unusedVariables false

/-- What ReadExpr answers. -/
def readAns (l : List UInt8) : List Token × Bool := match readL l with | some e => (e, true) | none => ([], false)
theorem readAns_some {l : List UInt8} {e : List Token} (h : readL l = some e) : readAns l = (e, true) := by unfold readAns; rw [h]
theorem readAns_none {l : List UInt8} (h : readL l = none) : readAns l = ([], false) := by unfold readAns; rw [h]

theorem readAll_bad : ∀ (us vs : List (List UInt8)), readAll us = none → readAll (us ++ vs) = none
  | [], vs, h => by cases h
  | u :: us, vs, h => by
    rw [List.cons_append, readAll]
    rw [readAll] at h
    cases ht : readTok u with
    | none => rfl
    | some t =>
      rw [ht] at h
      simp only at h ⊢
      cases hr : readAll us with
      | none => rw [readAll_bad us vs hr]
      | some e => rw [hr] at h; cases h
theorem readAll_snoc : ∀ (us : List (List UInt8)) (u : List UInt8) (ts : List Token) (t : Token), readAll us = some ts → readTok u = some t → readAll (us ++ [u]) = some (ts ++ [t])
  | [], u, ts, t, h, h1 => by cases h; simp [readAll, h1]
  | v :: us, u, ts, t, h, h1 => by
    rw [readAll] at h
    rw [List.cons_append, readAll]
    cases hv : readTok v with
    | none => rw [hv] at h; cases h
    | some t0 =>
      rw [hv] at h
      simp only at h ⊢
      cases hr : readAll us with
      | none => rw [hr] at h; cases h
      | some e =>
        rw [hr] at h
        injection h with h
        subst h
        rw [readAll_snoc us u e t hr h1]
        rfl
theorem readAll_last : ∀ (us : List (List UInt8)) (u : List UInt8), readTok u = none → readAll (us ++ [u]) = none
  | [], u, h => by simp [readAll, h]
  | v :: us, u, h => by
    rw [List.cons_append, readAll]
    cases hv : readTok v with
    | none => rfl
    | some t => simp only; rw [readAll_last us u h]
theorem readAll_length : ∀ (us : List (List UInt8)) (ts : List Token), readAll us = some ts → ts.length = us.length := fun us ts h => by
  have := congrArg List.length (readAll_some us ts h).2
  simpa using this

theorem takeW_more {ws : List (List UInt8)} {k : Nat} {u : List UInt8} (h : ws[k]? = some u) : ws.take (k + 1) = ws.take k ++ [u] := by rw [List.take_add_one, h]; rfl

theorem readL_bad {l : List UInt8} {k : Nat} {u : List UInt8} (h : (splitL l)[k]? = some u) (hu : readTok u = none) : readL l = none := by
  unfold readL
  split
  · rfl
  · have h1 : readAll (splitL l) = none := by
      rw [← List.take_append_drop (k + 1) (splitL l)]
      exact readAll_bad _ _ (by rw [takeW_more h]; exact readAll_last _ _ hu)
    rw [h1]
theorem readL_long {l : List UInt8} (h : 200 < l.length) : readL l = none := by unfold readL; rw [if_pos h]
theorem readL_all {l : List UInt8} {ts : List Token} (hl : l.length ≤ 200) (h : readAll (splitL l) = some ts) : readL l = if 12 < ts.length then none else some ts := by
  unfold readL; rw [if_neg (by omega), h]

theorem splitL_few : ∀ l : List UInt8, (splitL l).length ≤ l.length + 1
  | [] => by simp [splitL]
  | b :: r => by
    have ih := splitL_few r
    rw [splitL]
    split
    · simp; omega
    · match hq : splitL r, splitL_ne r with
      | u :: us, _ => rw [hq] at ih; simp at ih ⊢; omega
theorem splitL_short : ∀ (l : List UInt8) (u : List UInt8), u ∈ splitL l → u.length ≤ l.length
  | [], u, h => by simp [splitL] at h; subst h; simp
  | b :: r, u, h => by
    have ih := splitL_short r
    rw [splitL] at h
    split at h
    · rcases List.mem_cons.1 h with rfl | h
      · simp
      · have := ih u h; simp; omega
    · match hq : splitL r, splitL_ne r with
      | v :: us, _ =>
        rw [hq] at h ih
        rcases List.mem_cons.1 h with rfl | h
        · have := ih v (by simp); simp; omega
        · have := ih u (by simp [h]); simp; omega

/-- What reading an expression leaves. -/
def ReadE (l : List UInt8) (w : World) (e : Ending) (w' : World) : Prop :=
  ∃ (A : Option Addr) (n c : Nat) (b : Bool) (ts : List Token), e = .returned (.tuple #[.slice A n c, .bool b]) ∧ ReadsT w' w'.heap.size A n ts ∧ n ≤ 12 ∧ Hid (readAns l = (ts, b)) ∧ Below w.heap.size w w'

theorem readsT_nil (w : World) (B : Nat) : ReadsT w B none 0 [] := ⟨rfl, rfl, fun h => absurd h (by omega)⟩

set_option maxHeartbeats 2000000 in
set_option maxRecDepth 100000 in
theorem specReadExpr_any (l : List UInt8) (w : World) (hl0 : l.length ≤ 9223372036854775807) : Calls Tryz.prog 11 #[.string (strB l)] w (ReadE l w) := by
  have hsz := put (strB_size l)
  by_cases hl : l.length ≤ 200
  · have hs2 : (strB l).size ≤ 200 := by rw [hsz.out]; exact hl
    go_enter Tryz.func11, Tryz.ntmps11
    go_wp2_with fail
    refine (l1Split_any l _ hl).mono ?_
    rintro e w1 ⟨sv, rfl, hstr, hb1⟩
    have hwl : 0 < (splitL l).length := by have := splitL_ne l; exact List.length_pos_iff.2 this
    have hwl2 : (splitL l).length ≤ 201 := by have := splitL_few l; omega
    have hshort := put (fun u (hu : u ∈ splitL l) => Nat.le_trans (splitL_short l u hu) hl)
    have hbadL := put (fun k u (h : (splitL l)[k]? = some u) hu => readAns_none (readL_bad h hu))
    have hallL := put (fun ts h => readL_all (ts := ts) hl h)
    obtain ⟨g, cap, rfl, hgB, hgw, hcap, hmx, hcell⟩ := hstr.form hwl
    have HC := put hcell
    generalize hws : splitL l = ws at *
    generalize hn : ws.length = n at *
    have HNL := put hn
    clear hcell hstr hws hn
    unfold maxLen at hmx
    have hbs1 := hb1.size
    go_wp2_with fail
    go_loopw [4, 15] (fun ov i wr => ∃ (k : Nat) (ts : List Token), k ≤ n ∧ i = .int .i64 k ∧ ts.length ≤ k ∧ Toks wr w1.heap.size ov ts ∧ Hid (readAll (ws.take k) = some ts) ∧ Below w1.heap.size w1 wr) (fun _ i _ => n - (intOf i).toNat)
    case atStart => exact ⟨0, [], Nat.zero_le _, rfl, by simp, Toks.nil _ _, rfl, Below.refl _ _⟩
    case round =>
      obtain ⟨k, ts, hk, rfl, htk, hown, hrd, hbel⟩ := hrel
      have hbs := hbel.size
      by_cases hlt : k < n
      · obtain ⟨u, hu⟩ : ∃ u, ws[k]? = some u := ⟨_, List.getElem?_eq_getElem (by rw [HNL.out]; exact hlt)⟩
        have hc := (hbel.cell (p := ⟨g, k, none⟩) hgw).trans (HC.out k u hu)
        have hul := hshort.out u (List.mem_of_getElem? hu)
        have HU := put hu
        clear hu
        go_wp2_with fail
        refine (l2ReadTok_any u _ hul).mono ?_
        rintro e w2 ⟨op, x, b, rfl, hy, hno, hb2⟩
        have b2 : Below w1.heap.size w1 w2 := hbel.trans (hb2.mono hbs)
        have hown2 := hown.below hb2
        have hbs2 := b2.size
        clear hb2 hc
        cases b with
        | false =>
          have HF := put (hbadL.out k u HU.out (hno.out rfl))
          clear hy hno
          go_wp2
          go_ret2
          exact ⟨none, 0, 0, false, [], rfl, readsT_nil _ _, by omega, HF, (hb1.trans (b2.mono hbs1)).alloc (by omega) _⟩
        | true =>
          have HN := put (show readAll (ws.take (k + 1)) = some (ts ++ [(op, x)]) by rw [takeW_more HU.out]; exact readAll_snoc _ _ _ _ hrd.out (hy.out rfl))
          clear hy hno
          go_wp2_with (at_builtin; refine wpList_append_tok rfl _ _ rfl w1.heap.size _ ts rfl w1 ((b2.alloc b2.size _).alloc (by simp; omega) _) (by simp; omega) ((hown2.alloc _).alloc _) (w2.heap.size + 1) op x rfl (by simp) (by simp) (by omega) ?_)
          intro v3 w3 hown3 hb3
          go_wp2
          go_roundw
          case rel => exact ⟨k + 1, ts ++ [(op, x)], by omega, by go_num, by simp; omega, hown3, HN, hb3⟩
          case measure => simp [intOf]; omega
      · have hfin := put (show readAll ws = some ts by have h5 := hrd.out; rwa [List.take_of_length_le (by rw [HNL.out]; omega)] at h5)
        obtain ⟨A, c, rfl, hrt⟩ := hown.reads
        have HL := put (hallL.out ts hfin.out)
        have hbw := hb1.trans (hbel.mono hbs1)
        clear hown hrd
        by_cases h12 : 12 < ts.length
        · have HF := put (readAns_none (by rw [HL.out, if_pos h12]))
          go_wp2
          go_ret2
          exact ⟨none, 0, 0, false, [], rfl, readsT_nil _ _, by omega, HF, hbw⟩
        · have HF := put (readAns_some (by rw [HL.out, if_neg h12]))
          go_wp2
          go_ret2
          exact ⟨A, ts.length, c, true, ts, rfl, hrt, by omega, HF, hbw⟩
  · have HF := put (readAns_none (readL_long (l := l) (by omega)))
    have hs2 : 200 < (strB l).size := by rw [hsz.out]; omega
    have hs3 : (strB l).size ≤ 9223372036854775807 := by rw [hsz.out]; exact hl0
    go_enter Tryz.func11, Tryz.ntmps11
    go_wp2
    go_ret2
    exact ⟨none, 0, 0, false, [], rfl, readsT_nil _ _, by omega, HF, Below.refl _ _⟩

end Go.Proofs.YtpknbdaicmacjaaGreatDoor

/-
  What a frame of a machine waits for: WaitingIn of both sides.
-/
import Derived.Test.YtpbkkjiikhjanaaMcM
import Derived.Test.YtpbkkjiikhjanaaBb
namespace Go.Proofs.Ytpbkkjiikhjanaa
open Go.RowKit Go.Deep Exs

def wiL (fs : List Fr) (fr : Int) : List Int × Bool := if fs.length ≤ 40 ∧ 0 ≤ fr ∧ fr < (fs.length : Int) then ((match fs[fr.toNat]? with | some f => wtL f.flags | none => []), true) else ([], false)
theorem wiL_no {fs : List Fr} {fr : Int} (h : ¬ (fs.length ≤ 40 ∧ 0 ≤ fr ∧ fr < (fs.length : Int))) : wiL fs fr = ([], false) := if_neg h
theorem wiL_at {fs : List Fr} {k : Nat} {f : Fr} (h : fs.length ≤ 40) (hk : fs[k]? = some f) : wiL fs (k : Int) = (wtL f.flags, true) := by
  have hl := (List.getElem?_eq_some_iff.1 hk).1
  unfold wiL
  rw [if_pos ⟨h, by omega, by omega⟩]
  simp [hk]
theorem wiL_length {fs : List Fr} {fr : Int} (h : ∀ f ∈ fs, SmallFr f) : (wiL fs fr).1.length ≤ 1048576 := by
  unfold wiL
  split
  · cases e : fs[fr.toNat]? with
    | none => simp
    | some f =>
      have h1 := (h f (List.mem_of_getElem? e)).2.2
      have h2 := wtF_length f.flags 0
      show (wtF f.flags 0).length ≤ 1048576
      omega
  · simp

set_option maxHeartbeats 400000 in
theorem l1In_w (n lo hi : Int) (w : World) : Calls Try.prog 16 #[.int .i64 n, .int .i64 lo, .int .i64 hi] w fun e w' => e = .returned (.bool (decide (lo ≤ n ∧ n ≤ hi))) ∧ w = w' := by
  by_cases h1 : lo ≤ n
  · have H := put (show decide (lo ≤ n ∧ n ≤ hi) = decide (n ≤ hi) by simp [h1])
    have hd : decide (lo ≤ n) = true := decide_eq_true h1
    go_enter Try.func16, Try.ntmps16
    go_wp2
    go_ret
    exact ⟨ret_bool (by first | rfl | exact H.out.symm), rfl⟩
  · have H := put (show decide (lo ≤ n ∧ n ≤ hi) = false by simp [h1])
    have hd : decide (lo ≤ n) = false := decide_eq_false h1
    go_enter Try.func16, Try.ntmps16
    go_wp2
    go_ret
    exact ⟨ret_bool (by first | rfl | exact H.out.symm), rfl⟩

set_option maxHeartbeats 400000 in
theorem hasFrame_any (C : Option Addr) (m d : Nat) (T2 : Option Addr) (m2 d2 : Nat) (T3 : Option Addr) (m3 d3 : Nat) (used code value made : Int) (fr : Int) (w : World) : Calls Try.prog 21 #[.agg #[.slice C m d, .slice T2 m2 d2, .int .i64 used, .int .i64 code, .int .i64 value, .int .i64 made, .slice T3 m3 d3], .int .i64 fr] w fun e w' => e = .returned (.bool (decide (0 ≤ fr ∧ fr < (m : Int)))) ∧ Below w.heap.size w w' := by
  have hb0 : Below w.heap.size w (w.alloc (.cells #[.slice C m d, .slice T2 m2 d2, .int .i64 used, .int .i64 code, .int .i64 value, .int .i64 made, .slice T3 m3 d3] 33)) := (Below.refl _ _).alloc (Nat.le_refl _) _
  by_cases h1 : 0 ≤ fr
  · have H := put (show decide (0 ≤ fr ∧ fr < (m : Int)) = decide (fr < (m : Int)) by simp [h1])
    have hd : decide (0 ≤ fr) = true := decide_eq_true h1
    go_enter Try.func21, Try.ntmps21
    go_wp2
    go_ret
    exact ⟨ret_bool (by first | rfl | exact H.out.symm), hb0⟩
  · have H := put (show decide (0 ≤ fr ∧ fr < (m : Int)) = false by simp [h1])
    have hd : decide (0 ≤ fr) = false := decide_eq_false h1
    go_enter Try.func21, Try.ntmps21
    go_wp2
    go_ret
    exact ⟨ret_bool (by first | rfl | exact H.out.symm), hb0⟩

set_option maxHeartbeats 4000000 in
set_option maxRecDepth 100000 in
theorem specWaitingIn_any (C : Option Addr) (m d : Nat) (fs : List Fr) (T2 : Option Addr) (m2 d2 : Nat) (T3 : Option Addr) (m3 d3 : Nat) (used code value made : Int) (fr : Int) (w : World) (hf : ReadsFr w w.heap.size C m fs) (hs : ∀ f ∈ fs, SmallFr f) (hm : m ≤ 1048576) :
    Calls Try.prog 5 #[.agg #[.slice C m d, .slice T2 m2 d2, .int .i64 used, .int .i64 code, .int .i64 value, .int .i64 made, .slice T3 m3 d3], .int .i64 fr] w fun e w' => ∃ v, e = .returned (.tuple #[v, .bool (wiL fs fr).2]) ∧ Nums w' w.heap.size 3 .i64 v (wiL fs fr).1 ∧ Below w.heap.size w w' := by
  have hfl := hf.1
  have BB : Below w.heap.size w (w.alloc (.cells #[.slice C m d, .slice T2 m2 d2, .int .i64 used, .int .i64 code, .int .i64 value, .int .i64 made, .slice T3 m3 d3] 33)) := (Below.refl _ _).alloc (Nat.le_refl _) _
  have hw0 : IntKind.i64.wrap ((m : Int) - 1) = (m : Int) - 1 := IntWalk.i64_in _ ⟨by omega, by omega⟩
  by_cases h40 : m ≤ 40
  case neg =>
    have HN := put (wiL_no (fs := fs) (fr := fr) (fun h => h40 (by omega)))
    have hd : decide ((40 : Int) < (m : Int)) = true := decide_eq_true (by omega)
    clear hf hs hfl
    go_enter Try.func5, Try.ntmps5
    go_wp2
    go_ret2
    exact ⟨_, by rw [HN.out]; rfl, by rw [HN.out]; exact Nums.nil _ _ _ _, BB⟩
  have hd : decide ((40 : Int) < (m : Int)) = false := decide_eq_false (by omega)
  by_cases hin : 0 ≤ fr ∧ fr < (m : Int)
  case neg =>
    have HN := put (wiL_no (fs := fs) (fr := fr) (fun h => hin (by have := h.2; omega)))
    have q : decide (0 ≤ fr ∧ fr ≤ (m : Int) - 1) = false := decide_eq_false (fun h => hin (by omega))
    clear hf hs hfl hin
    go_enter Try.func5, Try.ntmps5
    go_wp2_with fail
    refine (l1In_w fr 0 ((m : Int) - 1) _).mono ?_
    rintro e w1 ⟨rfl, rfl⟩
    rw [q]
    go_wp2
    go_ret2
    exact ⟨_, by rw [HN.out]; rfl, by rw [HN.out]; exact Nums.nil _ _ _ _, BB⟩
  obtain ⟨k, rfl⟩ : ∃ k : Nat, fr = (k : Int) := ⟨fr.toNat, by omega⟩
  have hk : k < m := by omega
  have q : decide (0 ≤ (k : Int) ∧ (k : Int) ≤ (m : Int) - 1) = true := decide_eq_true (by omega)
  obtain ⟨bC, oC, f, A1, n1, c1, A2, n2, c2, A3, n3, c3, rfl, hbC, g0, g1, g2, g3, g4, g5, g6, g7, g8, g9, g10, r0, hx⟩ := hf.at_ hk
  have hfm := mem_of_at hx.out
  have s3 : n3 ≤ 1048576 := by have := (hs f hfm).2.2; rw [r0.flags.1] at this; exact this
  have HY := put (wiL_at (by omega) hx.out)
  obtain ⟨ide, fn, pla, pile, vars, flags, result, mode, value', base, off⟩ := f
  have hb0 := BB
  dsimp only at g0 g1 g2 g3 g4 g5 g6 g7 g8 g9 g10 HY
  have z0 := (hb0.cell (p := ⟨bC, oC + k * 11, none⟩) hbC).trans g0
  have z1 := (hb0.cell (p := ⟨bC, oC + k * 11 + 1, none⟩) hbC).trans g1
  have z2 := (hb0.cell (p := ⟨bC, oC + k * 11 + 2, none⟩) hbC).trans g2
  have z3 := (hb0.cell (p := ⟨bC, oC + k * 11 + 3, none⟩) hbC).trans g3
  have z4 := (hb0.cell (p := ⟨bC, oC + k * 11 + 4, none⟩) hbC).trans g4
  have z5 := (hb0.cell (p := ⟨bC, oC + k * 11 + 5, none⟩) hbC).trans g5
  have z6 := (hb0.cell (p := ⟨bC, oC + k * 11 + 6, none⟩) hbC).trans g6
  have z7 := (hb0.cell (p := ⟨bC, oC + k * 11 + 7, none⟩) hbC).trans g7
  have z8 := (hb0.cell (p := ⟨bC, oC + k * 11 + 8, none⟩) hbC).trans g8
  have z9 := (hb0.cell (p := ⟨bC, oC + k * 11 + 9, none⟩) hbC).trans g9
  have z10 := (hb0.cell (p := ⟨bC, oC + k * 11 + 10, none⟩) hbC).trans g10
  have RF := put (show ReadsB w w.heap.size A3 n3 flags from r0.flags)
  have hkI : (k : Int) < (m : Int) := by omega
  have hk0 : (0 : Int) ≤ (k : Int) := by omega
  clear g0 g1 g2 g3 g4 g5 g6 g7 g8 g9 g10 hf hs hfl hin hfm r0 hx
  go_enter Try.func5, Try.ntmps5
  go_wp2_with fail
  refine (l1In_w (k : Int) 0 ((m : Int) - 1) _).mono ?_
  rintro e w1 ⟨rfl, rfl⟩
  rw [q]
  go_wp2_with fail
  refine (l9Waiting_any ide fn pla result mode value' base off A1 n1 c1 A2 n2 c2 A3 n3 c3 flags _ (RF.out.now BB) s3).mono ?_
  rintro e w2 ⟨v, rfl, nu, hb2⟩
  have b2 := BB.trans (hb2.mono BB.size)
  have nu2 := nu.more BB.size
  clear z0 z1 z2 z3 z4 z5 z6 z7 z8 z9 z10 nu hb2
  go_wp2
  go_ret2
  exact ⟨v, by rw [HY.out]; rfl, by rw [HY.out]; exact nu2, b2⟩

set_option maxHeartbeats 4000000 in
set_option maxRecDepth 100000 in
theorem implWaitingIn_any (C : Option Addr) (m d : Nat) (fs : List Fr) (T2 : Option Addr) (m2 d2 : Nat) (T3 : Option Addr) (m3 d3 : Nat) (used code value made : Int) (fr : Int) (w : World) (hf : ReadsFr w w.heap.size C m fs) (hs : ∀ f ∈ fs, SmallFr f) (hm : m ≤ 1048576) :
    Calls Try.prog 7 #[.agg #[.slice C m d, .slice T2 m2 d2, .int .i64 used, .int .i64 code, .int .i64 value, .int .i64 made, .slice T3 m3 d3], .int .i64 fr] w fun e w' => ∃ v, e = .returned (.tuple #[v, .bool (wiL fs fr).2]) ∧ Nums w' w.heap.size 3 .i64 v (wiL fs fr).1 ∧ Below w.heap.size w w' := by
  have hfl := hf.1
  have BB : Below w.heap.size w (w.alloc (.cells #[.slice C m d, .slice T2 m2 d2, .int .i64 used, .int .i64 code, .int .i64 value, .int .i64 made, .slice T3 m3 d3] 33)) := (Below.refl _ _).alloc (Nat.le_refl _) _
  have kv := Keep.new w #[.slice C m d, .slice T2 m2 d2, .int .i64 used, .int .i64 code, .int .i64 value, .int .i64 made, .slice T3 m3 d3] 33
  by_cases h40 : m ≤ 40
  case neg =>
    have HN := put (wiL_no (fs := fs) (fr := fr) (fun h => h40 (by omega)))
    have hd : decide ((40 : Int) < (m : Int)) = true := decide_eq_true (by omega)
    clear hf hs hfl kv
    go_enter Try.func7, Try.ntmps7
    go_wp2
    go_ret2
    exact ⟨_, by rw [HN.out]; rfl, by rw [HN.out]; exact Nums.nil _ _ _ _, BB⟩
  have hd : decide ((40 : Int) < (m : Int)) = false := decide_eq_false (by omega)
  by_cases hin : 0 ≤ fr ∧ fr < (m : Int)
  case neg =>
    have HN := put (wiL_no (fs := fs) (fr := fr) (fun h => hin (by have := h.2; omega)))
    have q : decide (0 ≤ fr ∧ fr < (m : Int)) = false := decide_eq_false hin
    clear hf hs hfl hin kv
    go_enter Try.func7, Try.ntmps7
    go_wp2_with fail
    refine (hasFrame_any C m d T2 m2 d2 T3 m3 d3 used code value made fr _).mono ?_
    rintro e w1 ⟨rfl, hb1⟩
    rw [q]
    replace BB := BB.trans (hb1.mono BB.size)
    go_wp2
    go_ret2
    exact ⟨_, by rw [HN.out]; rfl, by rw [HN.out]; exact Nums.nil _ _ _ _, BB⟩
  obtain ⟨k, rfl⟩ : ∃ k : Nat, fr = (k : Int) := ⟨fr.toNat, by omega⟩
  have hk : k < m := by omega
  have q : decide (0 ≤ (k : Int) ∧ (k : Int) < (m : Int)) = true := decide_eq_true hin
  obtain ⟨bC, oC, f, A1, n1, c1, A2, n2, c2, A3, n3, c3, rfl, hbC, g0, g1, g2, g3, g4, g5, g6, g7, g8, g9, g10, r0, hx⟩ := hf.at_ hk
  have hfm := mem_of_at hx.out
  have s3 : n3 ≤ 1048576 := by have := (hs f hfm).2.2; rw [r0.flags.1] at this; exact this
  have HY := put (wiL_at (by omega) hx.out)
  have RF := put (show ReadsB w w.heap.size A3 n3 f.flags from r0.flags)
  have hkI : (k : Int) < (m : Int) := by omega
  have hk0 : (0 : Int) ≤ (k : Int) := by omega
  have G5 := put g5
  have HBC := put hbC
  clear g0 g1 g2 g3 g4 g5 g6 g7 g8 g9 g10 hf hs hfl hin hfm r0 hx hbC
  go_enter Try.func7, Try.ntmps7
  go_wp2_with fail
  generalize hW : w.alloc (.cells #[.slice (some ⟨bC, oC, none⟩) m d, .slice T2 m2 d2, .int .i64 used, .int .i64 code, .int .i64 value, .int .i64 made, .slice T3 m3 d3] 33) = W0 at BB kv ⊢
  clear hW
  refine (hasFrame_any (some ⟨bC, oC, none⟩) m d T2 m2 d2 T3 m3 d3 used code value made (k : Int) W0).mono ?_
  rintro e w1 ⟨rfl, hb1⟩
  rw [q]
  have b1 := BB.trans (hb1.mono BB.size)
  have k1 := kv.below hb1
  have y0 := k1.cell 0
  simp at y0
  have z5 := (b1.cell (p := ⟨bC, oC + k * 11 + 5, none⟩) HBC.out).trans G5.out
  clear hb1 kv BB
  go_wp2_with fail
  refine (sites_any A3 n3 c3 f.flags w1 (RF.out.now b1) s3).mono ?_
  rintro e w2 ⟨v, rfl, nu, hb2⟩
  have b2 := b1.trans (hb2.mono b1.size)
  have nu2 := nu.more b1.size
  clear z5 y0 k1 nu hb2
  go_wp2
  go_ret2
  exact ⟨v, by rw [HY.out]; rfl, by rw [HY.out]; exact nu2, b2⟩

end Go.Proofs.Ytpbkkjiikhjanaa

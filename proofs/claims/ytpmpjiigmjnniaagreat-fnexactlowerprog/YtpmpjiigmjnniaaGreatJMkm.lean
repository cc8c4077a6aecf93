/-
  Images of a call's own: compared, marked, found again. Contracts.
-/
import Derived.Test.YtpmpjiigmjnniaaGreatJMkj
namespace Go.Proofs.YtpmpjiigmjnniaaGreat
open Go.RowKit Exs

theorem OwnCs.reads {W : World} {B : Nat} {v : Value} {ks : List KC} (h : OwnCs W B v ks) : ∃ A c, v = .slice A ks.length c ∧ ReadsC W W.heap.size A ks.length (ks.map KC.C) := by
  rcases h.room with ⟨rfl, rfl⟩ | ⟨g, c, rfl, hB, hroom, hl, hc⟩
  · exact ⟨none, 0, rfl, rfl, fun hn => absurd hn (by simp)⟩
  · refine ⟨_, c, rfl, by simp, fun hn => ⟨g, 0, rfl, hroom.lt, fun j s hj => ?_⟩⟩
    rw [List.getElem?_map] at hj
    obtain ⟨k, hk, rfl⟩ := Option.map_eq_some_iff.1 hj
    have hjl := (List.getElem?_eq_some_iff.1 hk).1
    have hd : ks.drop j = k :: ks.drop (j + 1) := by
      rw [List.drop_eq_getElem_cons hjl]
      rw [List.getElem?_eq_getElem hjl] at hk
      injection hk with hk
      rw [hk]
    have hall : ks = ks.take j ++ k :: ks.drop (j + 1) := by rw [← hd, List.take_append_drop]
    have hpl : (ks.take j).length = j := by rw [List.length_take]; omega
    have rk := hroom
    have sk := h.sep
    rw [hall] at rk sk
    obtain ⟨l, m, _, _, own, _, _⟩ := sk.split
    obtain ⟨P1, p1, P2, p2, P3, p3, e1, e2, e3⟩ := own_is own
    have c0 := rk.cell 0 _ rfl
    have c1 := rk.cell 1 _ rfl
    have c2 := rk.cell 2 _ rfl
    have c3 := rk.cell 3 _ rfl
    have c4 := rk.cell 4 _ rfl
    rw [e1, e2, e3] at own
    have cd := own_cd own
    simp only [hpl, Nat.add_zero, e1, e2, e3] at c0 c1 c2 c3 c4
    rw [Nat.zero_add]
    exact ⟨P1, _, p1, P2, _, p2, P3, _, p3, c0, c1, c2, c3, c4, cd.sites, cd.ins, cd.rows⟩
theorem eqImage_own {w : World} {B B' : Nat} {A A' : Option Addr} {n n' c c' : Nat} {ks ks' : List KC} (h : OwnCs w B (.slice A n c) ks) (h' : OwnCs w B' (.slice A' n' c') ks') (he : ks.map KC.C = ks'.map KC.C) (hs : SmallI (ks.map KC.C)) :
    Calls Tryz.prog 16 #[.agg #[.slice A n c], .agg #[.slice A' n' c']] w fun e w' => e = .returned (.bool true) ∧ Below w.heap.size w w' := by
  obtain ⟨D, d, e1, r⟩ := h.reads
  obtain ⟨D', d', e1', r'⟩ := h'.reads
  injection e1 with a1 a2 a3
  injection e1' with b1 b2 b3
  subst a1; subst a2; subst b1; subst b2
  have hl : ks.length = ks'.length := by have := congrArg List.length he; simpa using this
  rw [← he, ← hl] at r'
  rw [← hl]
  exact eqImage_same A A' _ c c' _ w r r' hs

set_option maxHeartbeats 1000000 in
set_option maxRecDepth 100000 in
theorem markImage_own (v : Value) (ks : List KC) (B : Nat) (w : World) (h : OwnCs w B v ks) (hs : ∀ k ∈ ks, SmallC k.C) (hn : ks.length ≤ 1000) (hB : B ≤ w.heap.size) (ha1 : 1 + widS ks ≤ 1000000000) :
    Calls Tryz.prog 17 #[.agg #[v], .int .i64 1] w fun e w' => e = .returned (.int .i64 (1 + widS ks)) ∧ OwnCs w' B v (markS ks 1) ∧ Below B w w' ∧ ∀ g cs t, Keep w g cs t → t ≠ 3 → t ≠ 83 → t ≠ 85 → t ≠ 30 → Keep w' g cs t := by
  obtain ⟨A, n, c, rfl⟩ := slice_of h.row
  have nb := (Below.refl w.heap.size w).alloc (Nat.le_refl _) (.cells #[.slice A n c] 44)
  have k0 := Keep.new w #[.slice A n c] 44
  have g1 := h.below nb
  have hb0 : Below B w (w.alloc (.cells #[.slice A n c] 44)) := nb.mono hB
  have kk0 : ∀ g cs t, Keep w g cs t → Keep (w.alloc (.cells #[.slice A n c] 44)) g cs t := fun g cs t h => h.alloc _
  clear h nb
  go_enter Tryz.func17, Tryz.ntmps17
  go_wp2_with fail
  generalize w.alloc (.cells #[.slice A n c] 44) = W0 at hb0 k0 g1 kk0 ⊢
  refine (markCodes_own _ ks B 1 W0 g1 hs hn (by omega) ha1).mono ?_
  rintro e w1 ⟨rfl, q1, b1, f1⟩
  have b2 := hb0.trans b1
  have f2 : ∀ g cs t, Keep w g cs t → t ≠ 3 → t ≠ 83 → t ≠ 85 → t ≠ 30 → Keep w1 g cs t := fun g cs t h h1 h2 h3 h4 => f1 g cs t (kk0 g cs t h) h1 h2 h3 h4
  clear b1 f1 kk0 g1 hb0 k0
  go_wp2
  go_ret
  exact ⟨rfl, q1, b2, f2⟩

set_option maxHeartbeats 1000000 in
set_option maxRecDepth 100000 in
theorem heldImage_own (v : Value) (ks : List KC) (B : Nat) (w : World) (h : OwnCs w B v (markS ks 1)) (hs : ∀ k ∈ ks, SmallC k.C) (hn : ks.length ≤ 1000) (ha1 : 1 + widS ks ≤ 1000000000) :
    Calls Tryz.prog 18 #[.agg #[v], .int .i64 1] w fun e w' => e = .returned (.int .i64 (1 + widS ks)) ∧ Below w.heap.size w w' := by
  obtain ⟨A, n, c, rfl⟩ := slice_of h.row
  have nb := (Below.refl w.heap.size w).alloc (Nat.le_refl _) (.cells #[.slice A n c] 44)
  have g1 := h.below nb
  have hp := widS_pos ks
  clear h
  go_enter Tryz.func18, Tryz.ntmps18
  go_wp2_with fail
  generalize w.alloc (.cells #[.slice A n c] 44) = W0 at nb g1 ⊢
  refine (heldCodes_own _ ks B 1 W0 g1 hs hn (by omega) ha1).mono ?_
  rintro e w1 ⟨rfl, rfl⟩
  obtain ⟨k1, hk1⟩ : ∃ k1 : Int, 1 + widS ks = k1 := ⟨_, rfl⟩
  have ha0 : 0 ≤ k1 := by omega
  rw [hk1]
  have HK := put hk1
  clear hk1 ha1 hp g1
  go_wp2
  go_ret
  exact ⟨ret_int HK.out.symm, nb⟩

theorem owncs_inked {W W' : World} {B L R : Nat} {v : Value} {ks : List KC} (h : OwnCs W B v ks) (hR : R ≤ B) (hi : Inked L R W W') : OwnCs W' B v ks :=
  ⟨row_inked h.row hR hi, (h.sep.kept fun b h1 _ h3 => hi.above b (by omega) h3).more hi.below.size⟩
/-- What LowerProg answers is small. -/
theorem lp_small (fs : List Fc) (hs : SmallP fs) (ks : List KC) (hk : ks.map KC.C = lpAns fs) : ks.length ≤ 5 ∧ (∀ k ∈ ks, SmallC k.C) ∧ SmallI (ks.map KC.C) ∧ 1 + widS ks ≤ 1000000000 := by
  have hl : ks.length = (lpAns fs).length := by rw [← hk, List.length_map]
  have hA : (lpAns fs).length ≤ 5 ∧ ∀ C ∈ lpAns fs, C.sites.length ≤ 1000 ∧ C.ins.length ≤ 1000 ∧ C.rows.length ≤ 1000 := by
    unfold lpAns
    split
    · rename_i hg
      have h5 : fs.length ≤ 5 := by
        have h := hg
        unfold progB at h
        simp only [Bool.and_eq_true, decide_eq_true_eq] at h
        omega
      refine ⟨by simpa using h5, fun C hC => ?_⟩
      obtain ⟨f, hm, rfl⟩ := List.mem_map.1 hC
      have h3 := prog_fn hg hm (hs.2 f hm)
      have h4 := prog_len hg hm (hs.2 f hm)
      exact ⟨by unfold lowC; simp only [List.length_map]; omega, by omega, by unfold lowC; simp only [List.length_cons, rowsTo_length]; omega⟩
    · exact ⟨Nat.zero_le _, fun C hC => by cases hC⟩
  have hm : ∀ k ∈ ks, k.C.sites.length ≤ 1000 ∧ k.C.ins.length ≤ 1000 ∧ k.C.rows.length ≤ 1000 := fun k hk' => hA.2 k.C (by rw [← hk]; exact List.mem_map_of_mem hk')
  have hsm : ∀ k ∈ ks, SmallC k.C := fun k hk' => ⟨by have := (hm k hk').1; omega, by have := (hm k hk').2.1; omega, by have := (hm k hk').2.2; omega⟩
  have hw : ∀ xs : List KC, (∀ k ∈ xs, k.C.sites.length ≤ 1000 ∧ k.C.ins.length ≤ 1000 ∧ k.C.rows.length ≤ 1000) → widS xs ≤ 7000 * xs.length := fun xs => by
    induction xs with
    | nil => intro _; simp [widS]
    | cons x r ih =>
      intro h
      have h1 := h x (List.mem_cons_self ..)
      have h2 := ih fun k hk => h k (List.mem_cons_of_mem _ hk)
      simp only [widS, wid, List.length_cons]
      omega
  refine ⟨by omega, hsm, ⟨by rw [List.length_map]; omega, fun C hC => ?_⟩, by have := hw ks hm; omega⟩
  obtain ⟨k, hk', rfl⟩ := List.mem_map.1 hC
  exact hsm k hk'

end Go.Proofs.YtpmpjiigmjnniaaGreat

/-
  Texts joined: Gc4 HtM Grf Rz.
-/
import Derived.Test.YtpbkkjiikhjanaaGreatDoorJGc3
import Derived.Laws.Small
/-
  The program's checks of a code ahead of its heights: sites, ways.
-/
namespace Go.Proofs.YtpbkkjiikhjanaaGreatDoor
open Go.RowKit Exs

theorem all_within {l : List Int} {m : Int} (hp : ∀ y ∈ l, 0 ≤ y) : (∀ y ∈ l, y < m) → (l.all fun x => within x 0 (m - 1)) = true := fun h => by
  rw [List.all_eq_true]
  intro y hy
  exact within_yes ⟨hp y hy, by have := h y hy; omega⟩
theorem not_within {l : List Int} {m y : Int} (hy : y ∈ l) (h : m ≤ y) : (l.all fun x => within x 0 (m - 1)) = false := no_of fun h' => by
  have := (within_iff _ _ _).1 (List.all_eq_true.1 h' y hy)
  omega

set_option maxHeartbeats 2000000 in
set_option maxRecDepth 100000 in
theorem sitesAreThere_any (A : Option Addr) (n c : Nat) (cs : List Cd) (s : Cd) (A1 : Option Addr) (n1 c1 : Nat) (A2 : Option Addr) (n2 c2 : Nat) (A3 : Option Addr) (n3 c3 : Nat) (w : World) (hr : ReadsC w w.heap.size A n cs) (hs : IsCd w w.heap.size s A1 n1 A2 n2 A3 n3) (_ : n ≤ 5) (hi : cdB s = true) :
    Calls Tryz.prog 115 #[.agg #[.slice A n c], cdV s A1 n1 c1 A2 n2 c2 A3 n3 c3] w fun e w' => e = .returned (.bool (sitesB cs s)) ∧ Below w.heap.size w w' := by
  have hb := ((Below.refl w.heap.size w).alloc (Nat.le_refl _) (Obj.cells #[.slice A n c] 36)).alloc (by simp) (Obj.cells #[.int .i64 s.params, .int .i64 s.vars, .slice A1 n1 c1, .slice A2 n2 c2, .slice A3 n3 c3] 82)
  have k1 := (Keep.new w #[.slice A n c] 36).alloc (Obj.cells #[.int .i64 s.params, .int .i64 s.vars, .slice A1 n1 c1, .slice A2 n2 c2, .slice A3 n3 c3] 82)
  have k2 := Keep.new (w.alloc (Obj.cells #[.slice A n c] 36)) #[.int .i64 s.params, .int .i64 s.vars, .slice A1 n1 c1, .slice A2 n2 c2, .slice A3 n3 c3] 82
  rw [World.size_alloc] at k2
  have hsz := cdB_iff s |>.1 hi
  rw [hs.sites.1, hs.ins.1, hs.rows.1] at hsz
  have HSZ := put hsz
  have l1 : n1 ≤ 4 := by omega
  have l2 : n2 ≤ 300 := by omega
  have l3 : n3 ≤ 300 := by omega
  clear hsz hi
  unfold cdV
  have E := put hr.1
  have hst := hs.sites
  clear hs
  go_enter Tryz.func115, Tryz.ntmps115
  go_wp2
  generalize hW : (w.alloc (Obj.cells #[.slice A n c] 36)).alloc (Obj.cells #[.int .i64 s.params, .int .i64 s.vars, .slice A1 n1 c1, .slice A2 n2 c2, .slice A3 n3 c3] 82) = W0 at hb k1 k2 ⊢
  clear hW
  have y0 := k1.cell 0
  simp at y0
  go_loopw [10] (fun i wr => ∃ k : Nat, k ≤ n1 ∧ i = .int .i64 k ∧ Hid (∀ t ∈ s.sites.take k, stB cs t = true) ∧ wr = W0) (fun i _ => n1 - (intOf i).toNat)
  case atStart => exact ⟨0, Nat.zero_le _, rfl, put (fun t h => by simp at h), rfl⟩
  case round =>
    obtain ⟨k, hk, rfl, hall, rfl⟩ := hrel
    by_cases hlt : k < n1
    · obtain ⟨b, off, x, rfl, hb', hc1, hxt⟩ := (hst.below hb).at_ hlt
      have HNO := put (fun (h0 : stB cs x = false) => (show sitesB cs s = false from no_of fun h => by have h1 := (sitesB_iff cs s).1 h _ (mem_of_at hxt.out); rw [h0] at h1; cases h1))
      by_cases p0 : x < 0
      · have HN := put (HNO.out (stB_neg (by omega)))
        clear HNO
        go_wp2
        go_ret
        exact ⟨ret_bool HN.out.symm, hb⟩
      by_cases p1 : (n : Int) ≤ x
      · have HN := put (HNO.out (stB_neg (by rw [E.out]; omega)))
        replace p0 : 0 ≤ x := by omega
        clear HNO
        go_wp2
        go_ret
        exact ⟨ret_bool HN.out.symm, hb⟩
      obtain ⟨j, rfl⟩ : ∃ j : Nat, x = (j : Int) := ⟨x.toNat, by omega⟩
      have hjn : j < n := by omega
      obtain ⟨b2, off2, d, B1, m1, d1, B2, m2, d2, B3, m3, d3, rfl, hb2', g0, g1, g2, g3, g4, r1, r2, r3, hd⟩ := (hr.below hb).at_ hjn
      have hv := stB_at hd.out
      clear g1 g2 g3 g4 r1 r2 r3 p0 p1
      by_cases hp : d.params = 0
      · rw [hp] at hv g0
        have hall2 := put (all_more (p := stB cs) hall.out hxt.out (by rw [hv]; rfl))
        clear hv HNO
        go_wp2
        go_roundw
        case rel => exact ⟨k + 1, by omega, by go_num, hall2, trivial⟩
        case measure => simp [intOf]; omega
      · have hp' := beq_of hp
        have hp2 : (d.params != 0) = true := by simp [hp]
        have HN := put (HNO.out (by rw [hv, hp']))
        clear hv HNO
        go_wp2
        go_ret
        exact ⟨ret_bool HN.out.symm, hb⟩
    · have hfin := put (show s.sites.take k = s.sites from List.take_of_length_le (by rw [hst.1]; omega))
      have HYES := put ((sitesB_iff cs s).2 (by have := hall.out; rwa [hfin.out] at this))
      go_wp2
      go_ret
      exact ⟨ret_bool HYES.out.symm, hb⟩

set_option maxHeartbeats 2000000 in
set_option maxRecDepth 100000 in
theorem goesOnWithin_any (s : Cd) (A1 : Option Addr) (n1 c1 : Nat) (A2 : Option Addr) (n2 c2 : Nat) (A3 : Option Addr) (n3 c3 : Nat) (w : World) (hs : IsCd w w.heap.size s A1 n1 A2 n2 A3 n3) (hi : cdB s = true) :
    Calls Tryz.prog 116 #[cdV s A1 n1 c1 A2 n2 c2 A3 n3 c3] w fun e w' => e = .returned (.bool (goesB s)) ∧ Below w.heap.size w w' := by
  have hb := (Below.refl w.heap.size w).alloc (Nat.le_refl _) (Obj.cells #[.int .i64 s.params, .int .i64 s.vars, .slice A1 n1 c1, .slice A2 n2 c2, .slice A3 n3 c3] 82)
  have k2 := Keep.new w #[.int .i64 s.params, .int .i64 s.vars, .slice A1 n1 c1, .slice A2 n2 c2, .slice A3 n3 c3] 82
  have hsz := cdB_iff s |>.1 hi
  rw [hs.sites.1, hs.ins.1, hs.rows.1] at hsz
  have HSZ := put hsz
  have l2 : n2 ≤ 300 := by omega
  have E := put hs.ins.1
  have hins := hs.ins
  clear hsz hi hs
  unfold cdV
  go_enter Tryz.func116, Tryz.ntmps116
  go_wp2
  generalize hW : w.alloc (Obj.cells #[.int .i64 s.params, .int .i64 s.vars, .slice A1 n1 c1, .slice A2 n2 c2, .slice A3 n3 c3] 82) = W0 at hb k2 ⊢
  clear hW
  have hbw := hb
  clear hb
  go_loopw [10] (fun i wr => ∃ k : Nat, k ≤ n2 ∧ i = .int .i64 k ∧ Hid (∀ a t, a < k → s.ins[a]? = some t → goB n2 a t = true) ∧ Below W0.heap.size W0 wr) (fun i _ => n2 - (intOf i).toNat)
  case atStart => exact ⟨0, Nat.zero_le _, rfl, put (fun a t h => by omega), Below.refl _ _⟩
  case round =>
    obtain ⟨k, hk, rfl, hall, hbel⟩ := hrel
    by_cases hlt : k < n2
    · obtain ⟨b, off, op, x, rfl, hb', hc1, hc2, hxt⟩ := (hins.below (hbw.trans (hbel.mono hbw.size))).at_ hlt
      have hb3 := hbel.alloc hbel.size (.cells #[.int .i64 op, .int .i64 x] 129)
      have HL := put (nxL_length op x (k : Int))
      have HP := put (nxL_pos (a := (k : Int)) (HSZ.out.2 _ (mem_of_at hxt.out)) (by omega))
      have HNO := put (fun (h0 : goB n2 k (op, x) = false) => (show goesB s = false from no_of fun h => by have h1 := (goesB_iff s).1 h k _ hxt.out; rw [E.out, h0] at h1; cases h1))
      have HYE := put (fun (h0 : goB n2 k (op, x) = true) => (show ∀ a t, a < k + 1 → s.ins[a]? = some t → goB n2 a t = true from fun a t ha ht => by
          by_cases h : a < k
          · exact hall.out a t h ht
          · obtain rfl : a = k := by omega
            rw [hxt.out] at ht; injection ht with ht; subst ht; exact h0))
      go_wp2_with fail
      generalize hW : wr.alloc (.cells #[.int .i64 op, .int .i64 x] 129) = W1 at hb3 ⊢
      clear hW hc1 hc2
      refine (goesOn_any op x (k : Int) W1 (by omega) (by omega)).mono ?_
      rintro e w1 ⟨v1, rfl, nu, hb4⟩
      have hb5 : Below W0.heap.size W0 w1 := hb3.trans (hb4.mono hb3.size)
      have HGO := put (show ∀ m : Int, m = n2 → (goB n2 k (op, x) = (List.all (nxL op x k) fun y => within y 0 (m - 1))) from fun m hm => by subst hm; rfl)
      obtain ⟨A', c', rfl, hrd⟩ := nu.reads
      generalize nxL op x (k : Int) = l at HL HP HGO hrd ⊢
      obtain ⟨ln, hln⟩ : ∃ ln, l.length = ln := ⟨_, rfl⟩
      rw [hln] at HL hrd ⊢
      have z3 := (k2.below hb5).cell 3
      simp at z3
      have hl2 := HL.out
      clear nu hb4 hb3
      go_wp2
      go_loopw [19] (fun i wr => ∃ j : Nat, j ≤ ln ∧ i = .int .i64 j ∧ Hid (∀ y ∈ l.take j, y < (n2 : Int)) ∧ wr = w1) (fun i _ => ln - (intOf i).toNat)
      case atStart => exact ⟨0, Nat.zero_le _, rfl, put (fun t h => by simp at h), rfl⟩
      case round =>
        obtain ⟨j, hj, rfl, hin, rfl⟩ := hrel
        by_cases hlt2 : j < ln
        · obtain ⟨b2, off2, y, rfl, hb2', hd1, hyt⟩ := hrd.at_ hlt2
          by_cases hy : y < (n2 : Int)
          · have hin2 := put (show ∀ q ∈ l.take (j + 1), q < (n2 : Int) from fun q hq => by
              rw [takeA_more hyt.out] at hq
              rcases List.mem_append.1 hq with hq | hq
              · exact hin.out q hq
              · simp at hq; subst hq; exact hy)
            go_wp2
            go_roundw
            case rel => exact ⟨j + 1, by omega, by go_num, hin2, trivial⟩
            case measure => simp [intOf]; omega
          · have hy' : (n2 : Int) ≤ y := by omega
            have HN := put (HNO.out (by rw [HGO.out _ rfl]; exact not_within (mem_of_at hyt.out) hy'))
            clear hy
            go_wp2
            go_ret
            exact ⟨ret_bool HN.out.symm, hbw.trans (hb5.mono hbw.size)⟩
        · have hfin := put (show l.take j = l from List.take_of_length_le (by omega))
          have HY := put (HYE.out (by rw [HGO.out _ rfl]; exact all_within HP.out (by have := hin.out; rwa [hfin.out] at this)))
          go_wp2
          go_roundw
          case rel => exact ⟨k + 1, by omega, by go_num, HY, hb5⟩
          case measure => simp [intOf]; omega
    · have HYES := put ((goesB_iff s).2 fun a t ht => by rw [E.out]; exact hall.out a t (by have := (List.getElem?_eq_some_iff.1 ht).1; have := E.out; omega) ht)
      go_wp2
      go_ret
      exact ⟨ret_bool HYES.out.symm, hbw.trans (hbel.mono hbw.size)⟩

end Go.Proofs.YtpbkkjiikhjanaaGreatDoor

/-
  Plain mathematics of heights: places that ways lead to, and both ways of following them. No program is imported here.
-/
namespace Go.Proofs.YtpbkkjiikhjanaaGreatDoor.Ht

/-- A code as a graph: how many places, what is taken and put at each, where it goes on, the pads. -/
structure Gr where
  n : Nat
  tk : Nat → Int
  pt : Nat → Int
  nx : Nat → List Nat
  pads : List Nat

structure Wf (G : Gr) : Prop where
  pos : 0 < G.n
  nx : ∀ a t, a < G.n → t ∈ G.nx a → t < G.n
  pad : ∀ p ∈ G.pads, p < G.n
  tk0 : ∀ a, 0 ≤ G.tk a
  pt0 : ∀ a, 0 ≤ G.pt a
  on : ∀ a, a < G.n → G.pt a = 0 ∨ (G.pt a = 1 ∧ G.nx a ≠ [])
  two : ∀ a, (G.nx a).length ≤ 2

/-- A way leads to this place with this height. -/
inductive Rch (G : Gr) : Nat → Int → Prop
  | zero : Rch G 0 0
  | pad {p : Nat} : p ∈ G.pads → Rch G p 0
  | step {a : Nat} {h : Int} {t : Nat} : Rch G a h → t ∈ G.nx a → Rch G t (h - G.tk a + G.pt a)

def Ok (G : Gr) : Prop := (∀ a h, Rch G a h → G.tk a ≤ h ∧ h ≤ 40) ∧ ∀ a h h', Rch G a h → Rch G a h' → h = h'

structure IsH (G : Gr) (hs : List Int) : Prop where
  len : hs.length = G.n
  ok : Ok G
  at_ : ∀ a h, hs[a]? = some h → (0 ≤ h ∧ Rch G a h) ∨ (h = -1 ∧ ¬ ∃ h', Rch G a h')

theorem Rch.lt {G : Gr} (hw : Wf G) {a : Nat} {h : Int} (r : Rch G a h) : a < G.n := by
  induction r with
  | zero => exact hw.pos
  | pad hp => exact hw.pad _ hp
  | step _ ht ih => exact hw.nx _ _ ih ht

theorem IsH.unique {G : Gr} {hs hs' : List Int} (h : IsH G hs) (h' : IsH G hs') : hs = hs' := by
  apply List.ext_getElem?
  intro i
  by_cases hi : i < G.n
  · have e1 := List.getElem?_eq_getElem (l := hs) (i := i) (by rw [h.len]; exact hi)
    have e2 := List.getElem?_eq_getElem (l := hs') (i := i) (by rw [h'.len]; exact hi)
    rw [e1, e2]
    rcases h.at_ i _ e1 with ⟨_, r1⟩ | ⟨r1, s1⟩ <;> rcases h'.at_ i _ e2 with ⟨_, r2⟩ | ⟨r2, s2⟩
    · rw [h.ok.2 _ _ _ r1 r2]
    · exact absurd ⟨_, r1⟩ s2
    · exact absurd ⟨_, r2⟩ s1
    · rw [r1, r2]
  · rw [List.getElem?_eq_none (by rw [h.len]; omega), List.getElem?_eq_none (by rw [h'.len]; omega)]

open Classical in
/-- The heights, where there are some. -/
noncomputable def hts (G : Gr) : Option (List Int) := if h : ∃ hs, IsH G hs then some (Classical.choose h) else none
theorem hts_of {G : Gr} {hs : List Int} (h : IsH G hs) : hts G = some hs := by
  have hx : ∃ hs, IsH G hs := ⟨hs, h⟩
  unfold hts
  rw [dif_pos hx, (Classical.choose_spec hx).unique h]
theorem hts_none {G : Gr} (h : ¬ Ok G) : hts G = none := by
  unfold hts
  rw [dif_neg]
  rintro ⟨hs, h'⟩
  exact h h'.ok
theorem hts_is {G : Gr} {hs : List Int} (h : hts G = some hs) : IsH G hs := by
  unfold hts at h
  split at h
  · rename_i hx
    injection h with h
    rw [← h]
    exact Classical.choose_spec hx
  · cases h

/-- How many places have no height. -/
def miss (hs : List Int) : Nat := hs.countP (fun h => decide (h < 0))
theorem miss_set {hs : List Int} {t : Nat} {h v : Int} (ht : hs[t]? = some h) (h0 : h < 0) (hv : 0 ≤ v) : miss (hs.set t v) + 1 = miss hs := by
  induction hs generalizing t with
  | nil => simp at ht
  | cons a r ih =>
    cases t with
    | zero =>
      simp at ht
      subst ht
      simp [miss, List.countP_cons, h0]
      omega
    | succ t =>
      simp at ht
      have := ih ht
      simp only [miss, List.set_cons_succ, List.countP_cons] at *
      omega
theorem miss_le (hs : List Int) : miss hs ≤ hs.length := List.countP_le_length

theorem get_set {α : Type} {l : List α} {t j : Nat} {v : α} (ht : t < l.length) : (l.set t v)[j]? = if j = t then some v else l[j]? := by
  rw [List.getElem?_set]
  by_cases h : t = j
  · subst h; simp [ht]
  · have h' : ¬ j = t := fun e => h e.symm
    simp [h, h']

/-! The reference's way: places met, one behind the other. -/
structure Sp (G : Gr) (hs : List Int) (met : List Nat) (k : Nat) : Prop where
  len : hs.length = G.n
  rng : ∀ a h, hs[a]? = some h → h = -1 ∨ (0 ≤ h ∧ h ≤ 40 ∧ Rch G a h ∧ a ∈ met)
  seen : ∀ a, a ∈ met → ∃ h, hs[a]? = some h ∧ 0 ≤ h
  zero : hs[0]? = some 0
  pad : ∀ p, p ∈ G.pads → hs[p]? = some 0
  done : ∀ j a h, j < k → met[j]? = some a → hs[a]? = some h → G.tk a ≤ h ∧ ∀ t, t ∈ G.nx a → hs[t]? = some (h - G.tk a + G.pt a)
  size : met.length + miss hs = G.n

theorem Sp.end_ {G : Gr} (hw : Wf G) {hs : List Int} {met : List Nat} {k : Nat} (s : Sp G hs met k) (hk : met.length ≤ k) : IsH G hs := by
  have cl : ∀ a h, Rch G a h → hs[a]? = some h ∧ 0 ≤ h ∧ h ≤ 40 ∧ G.tk a ≤ h ∧ ∀ t, t ∈ G.nx a → hs[t]? = some (h - G.tk a + G.pt a) := by
    have one : ∀ a h, hs[a]? = some h → 0 ≤ h → hs[a]? = some h ∧ 0 ≤ h ∧ h ≤ 40 ∧ G.tk a ≤ h ∧ ∀ t, t ∈ G.nx a → hs[t]? = some (h - G.tk a + G.pt a) := by
      intro a h e h0
      rcases s.rng _ _ e with e1 | ⟨_, h1, _, hm⟩
      · omega
      · obtain ⟨j, hj⟩ := List.getElem?_of_mem hm
        have hd := s.done j a h (by have := (List.getElem?_eq_some_iff.1 hj).1; omega) hj e
        exact ⟨e, h0, h1, hd.1, hd.2⟩
    intro a h r
    induction r with
    | zero => exact one _ _ s.zero (by omega)
    | pad hp => exact one _ _ (s.pad _ hp) (by omega)
    | step r' ht ih =>
      rename_i a h t
      exact one _ _ (ih.2.2.2.2 _ ht) (by have := hw.pt0 a; have := ih.2.2.2.1; omega)
  refine ⟨s.len, ⟨fun a h r => ⟨(cl a h r).2.2.2.1, (cl a h r).2.2.1⟩, fun a h h' r r' => ?_⟩, fun a h e => ?_⟩
  · have e1 := (cl a h r).1
    rw [(cl a h' r').1] at e1
    injection e1 with e1
    exact e1.symm
  · rcases s.rng a h e with e1 | ⟨h0, _, r, _⟩
    · refine .inr ⟨e1, fun ⟨h', r⟩ => ?_⟩
      have e2 := cl a h' r
      rw [e] at e2
      have := e2.1
      injection this with this
      have := e2.2.1
      omega
    · exact .inl ⟨h0, r⟩

/-- The first place, before the rows. -/
theorem Sp.first (n : Nat) (hn : 0 < n) : ((List.replicate n (-1 : Int)).set 0 0)[0]? = some 0 ∧ 1 + miss ((List.replicate n (-1 : Int)).set 0 0) = n := by
  have h1 : (List.replicate n (-1 : Int))[0]? = some (-1) := by simp [hn]
  refine ⟨by simp [hn], ?_⟩
  have := miss_set h1 (by decide) (show (0 : Int) ≤ 0 by decide)
  have h2 : miss (List.replicate n (-1 : Int)) = n := by unfold miss; rw [List.countP_replicate]; simp
  omega

/-- What holds while the rows are gone through: j pads done. -/
structure Sp0 (G : Gr) (hs : List Int) (met : List Nat) (j : Nat) : Prop where
  len : hs.length = G.n
  rng : ∀ a h, hs[a]? = some h → h = -1 ∨ (h = 0 ∧ Rch G a 0 ∧ a ∈ met)
  seen : ∀ a, a ∈ met → hs[a]? = some 0
  zero : hs[0]? = some 0
  pad : ∀ p, p ∈ G.pads.take j → hs[p]? = some 0
  size : met.length + miss hs = G.n
theorem Sp0.start {G : Gr} (hw : Wf G) : Sp0 G ((List.replicate G.n (-1 : Int)).set 0 0) [0] 0 := by
  obtain ⟨h1, h2⟩ := Sp.first G.n hw.pos
  refine ⟨by simp, fun a h e => ?_, fun a ha => ?_, h1, fun p hp => by simp at hp, by simpa using h2⟩
  · by_cases ha : a = 0
    · subst ha; rw [h1] at e; injection e with e; exact .inr ⟨e.symm, .zero, by simp⟩
    · rw [get_set (by simpa using hw.pos), if_neg ha] at e
      have := List.getElem?_replicate (n := G.n) (a := (-1 : Int)) (i := a)
      rw [this] at e
      split at e
      · injection e with e; exact .inl e.symm
      · cases e
  · simp at ha; subst ha; exact h1
theorem Sp0.old {G : Gr} {hs : List Int} {met : List Nat} {j p : Nat} (s : Sp0 G hs met j) (hp : G.pads[j]? = some p) {h : Int} (e : hs[p]? = some h) (h0 : 0 ≤ h) : Sp0 G (hs.set p 0) met (j + 1) := by
  have hlt : p < hs.length := (List.getElem?_eq_some_iff.1 e).1
  have hz : hs[p]? = some 0 := by
    rcases s.rng _ _ e with e1 | ⟨e1, _⟩
    · omega
    · rw [e, e1]
  have hset : hs.set p 0 = hs := by
    apply List.ext_getElem?
    intro i
    rw [get_set hlt]
    split
    · rename_i hi; rw [hi, hz]
    · rfl
  rw [hset]
  refine ⟨s.len, s.rng, s.seen, s.zero, fun q hq => ?_, s.size⟩
  rw [List.take_add_one, hp] at hq
  rcases List.mem_append.1 hq with hq | hq
  · exact s.pad q hq
  · simp at hq; subst hq; exact hz
theorem Sp0.new {G : Gr} {hs : List Int} {met : List Nat} {j p : Nat} (s : Sp0 G hs met j) (hp : G.pads[j]? = some p) {h : Int} (e : hs[p]? = some h) (h0 : h < 0) : Sp0 G (hs.set p 0) (met ++ [p]) (j + 1) := by
  have hlt : p < hs.length := (List.getElem?_eq_some_iff.1 e).1
  have g := fun i => get_set (l := hs) (t := p) (j := i) (v := (0 : Int)) hlt
  have hne : ∀ a : Nat, hs[a]? = some 0 → (hs.set p 0)[a]? = some 0 := fun a ha => by
    rw [g]
    split
    · rfl
    · exact ha
  refine ⟨by simpa using s.len, fun a h' e' => ?_, fun a ha => ?_, hne _ s.zero, fun q hq => ?_, ?_⟩
  · rw [g] at e'
    split at e'
    · rename_i hi; subst hi; injection e' with e'
      exact .inr ⟨e'.symm, .pad (List.mem_of_getElem? hp), by simp⟩
    · rcases s.rng _ _ e' with e1 | ⟨e1, r, m⟩
      · exact .inl e1
      · exact .inr ⟨e1, r, by simp [m]⟩
  · rcases List.mem_append.1 ha with ha | ha
    · exact hne _ (s.seen a ha)
    · simp at ha; subst ha; rw [g]; simp
  · rw [List.take_add_one, hp] at hq
    rcases List.mem_append.1 hq with hq | hq
    · exact hne _ (s.pad q hq)
    · simp at hq; subst hq; rw [g]; simp
  · have := miss_set e h0 (show (0 : Int) ≤ 0 by decide)
    have := s.size
    simp
    omega
theorem Sp0.sp {G : Gr} {hs : List Int} {met : List Nat} {j : Nat} (s : Sp0 G hs met j) (hj : G.pads.length ≤ j) : Sp G hs met 0 :=
  ⟨s.len, fun a h e => by
    rcases s.rng a h e with e1 | ⟨e1, r, m⟩
    · exact .inl e1
    · subst e1; exact .inr ⟨by omega, by omega, r, m⟩, fun a ha => ⟨0, s.seen a ha, by omega⟩, s.zero, fun p hp => s.pad p (by rw [List.take_of_length_le hj]; exact hp), fun j a h hj => by omega, s.size⟩

/-- Inside one round: the place a = met[k] of height h goes on to the first j of its next places. -/
structure SpIn (G : Gr) (hs : List Int) (met : List Nat) (k a : Nat) (h : Int) (j : Nat) : Prop where
  sp : Sp G hs met k
  is : met[k]? = some a
  at_ : hs[a]? = some h
  fit : G.tk a ≤ h
  most : h - G.tk a + G.pt a ≤ 40
  next : ∀ t, t ∈ (G.nx a).take j → hs[t]? = some (h - G.tk a + G.pt a)
theorem SpIn.rch {G : Gr} {hs : List Int} {met : List Nat} {k a : Nat} {h : Int} {j : Nat} (s : SpIn G hs met k a h j) (hw : Wf G) : Rch G a h ∧ 0 ≤ h := by
  have := hw.tk0 a
  have := s.fit
  rcases s.sp.rng _ _ s.at_ with e | ⟨h0, _, r, _⟩
  · omega
  · exact ⟨r, h0⟩
theorem Sp.height {G : Gr} {hs : List Int} {met : List Nat} {k a : Nat} (s : Sp G hs met k) (ha : met[k]? = some a) : ∃ h, hs[a]? = some h ∧ 0 ≤ h ∧ h ≤ 40 ∧ Rch G a h := by
  obtain ⟨h, e, h0⟩ := s.seen a (List.mem_of_getElem? ha)
  rcases s.rng _ _ e with e1 | ⟨_, h1, r, _⟩
  · omega
  · exact ⟨h, e, h0, h1, r⟩
theorem Sp.enter {G : Gr} {hs : List Int} {met : List Nat} {k a : Nat} (s : Sp G hs met k) (ha : met[k]? = some a) {h : Int} (e : hs[a]? = some h) (hf : G.tk a ≤ h) (hm : h - G.tk a + G.pt a ≤ 40) : SpIn G hs met k a h 0 :=
  ⟨s, ha, e, hf, hm, fun t ht => by simp at ht⟩
/-- Too little on the pile, or too much behind it: there are no heights. -/
theorem Sp.bad {G : Gr} (hw : Wf G) {hs : List Int} {met : List Nat} {k a : Nat} (s : Sp G hs met k) (ha : met[k]? = some a) {h : Int} (e : hs[a]? = some h) (hb : h < G.tk a ∨ 40 < h - G.tk a + G.pt a) : ¬ Ok G := by
  intro ok
  obtain ⟨h', e', h0, h1, r⟩ := s.height ha
  rw [e] at e'
  injection e' with e'
  subst e'
  have hlt : a < G.n := r.lt hw
  have h2 := (ok.1 a h r).1
  rcases hb with hb | hb
  · omega
  · have h3 := hw.tk0 a
    rcases hw.on a hlt with e1 | ⟨e1, hne⟩
    · omega
    · obtain ⟨t, ht⟩ := List.exists_mem_of_ne_nil _ hne
      have := (ok.1 _ _ (Rch.step r ht)).2
      omega
theorem SpIn.clash {G : Gr} (hw : Wf G) {hs : List Int} {met : List Nat} {k a : Nat} {h : Int} {j t : Nat} (s : SpIn G hs met k a h j) (ht : (G.nx a)[j]? = some t) {g : Int} (e : hs[t]? = some g) (hg : 0 ≤ g) (hne : g ≠ h - G.tk a + G.pt a) : ¬ Ok G := by
  intro ok
  obtain ⟨r, _⟩ := s.rch hw
  rcases s.sp.rng _ _ e with e1 | ⟨_, _, r', _⟩
  · omega
  · exact hne (ok.2 _ _ _ r' (Rch.step r (List.mem_of_getElem? ht)))
theorem SpIn.same {G : Gr} {hs : List Int} {met : List Nat} {k a : Nat} {h : Int} {j t : Nat} (s : SpIn G hs met k a h j) (ht : (G.nx a)[j]? = some t) (e : hs[t]? = some (h - G.tk a + G.pt a)) : SpIn G hs met k a h (j + 1) :=
  ⟨s.sp, s.is, s.at_, s.fit, s.most, fun q hq => by
    rw [List.take_add_one, ht] at hq
    rcases List.mem_append.1 hq with hq | hq
    · exact s.next q hq
    · simp at hq; subst hq; exact e⟩
theorem SpIn.new {G : Gr} (hw : Wf G) {hs : List Int} {met : List Nat} {k a : Nat} {h : Int} {j t : Nat} (s : SpIn G hs met k a h j) (ht : (G.nx a)[j]? = some t) {g : Int} (e : hs[t]? = some g) (hg : g < 0) : SpIn G (hs.set t (h - G.tk a + G.pt a)) (met ++ [t]) k a h (j + 1) := by
  have hlt : t < hs.length := (List.getElem?_eq_some_iff.1 e).1
  have gs := fun i => get_set (l := hs) (t := t) (j := i) (v := h - G.tk a + G.pt a) hlt
  obtain ⟨r, h0⟩ := s.rch hw
  have hp0 := hw.pt0 a
  have hfit := s.fit
  have keep : ∀ (i : Nat) (x : Int), hs[i]? = some x → 0 ≤ x → (hs.set t (h - G.tk a + G.pt a))[i]? = some x := fun i x hx h0 => by
    rw [gs]
    split
    · rename_i hi; subst hi; rw [e] at hx; injection hx with hx; omega
    · exact hx
  have hk : k < met.length := (List.getElem?_eq_some_iff.1 s.is).1
  refine ⟨⟨by simpa using s.sp.len, fun b x hx => ?_, fun b hb => ?_, keep _ _ s.sp.zero (by omega), fun p hp => keep _ _ (s.sp.pad p hp) (by omega), fun i b x hi hb hx => ?_, ?_⟩, by rw [List.getElem?_append_left hk]; exact s.is, keep _ _ s.at_ h0, s.fit, s.most, fun q hq => ?_⟩
  · rw [gs] at hx
    split at hx
    · rename_i hi; subst hi; injection hx with hx; subst hx
      exact .inr ⟨by omega, s.most, .step r (List.mem_of_getElem? ht), by simp⟩
    · rcases s.sp.rng _ _ hx with e1 | ⟨e1, e2, r1, m⟩
      · exact .inl e1
      · exact .inr ⟨e1, e2, r1, by simp [m]⟩
  · rcases List.mem_append.1 hb with hb | hb
    · obtain ⟨x, hx, h1⟩ := s.sp.seen b hb
      exact ⟨x, keep _ _ hx h1, h1⟩
    · simp at hb; subst hb; exact ⟨h - G.tk a + G.pt a, by rw [gs]; simp, by omega⟩
  · rw [List.getElem?_append_left (by omega)] at hb
    obtain ⟨y, hy, hy0⟩ := s.sp.seen b (List.mem_of_getElem? hb)
    have hxy := keep _ _ hy hy0
    rw [hx] at hxy
    injection hxy with hxy
    subst hxy
    obtain ⟨d1, d2⟩ := s.sp.done i b x hi hb hy
    exact ⟨d1, fun q hq => keep _ _ (d2 q hq) (by have := hw.pt0 b; omega)⟩
  · have := miss_set e hg (show (0 : Int) ≤ h - G.tk a + G.pt a by omega)
    have := s.sp.size
    simp
    omega
  · rw [List.take_add_one, ht] at hq
    rcases List.mem_append.1 hq with hq | hq
    · exact keep _ _ (s.next q hq) (by omega)
    · simp at hq; subst hq; rw [gs]; simp
theorem SpIn.out {G : Gr} {hs : List Int} {met : List Nat} {k a : Nat} {h : Int} {j : Nat} (s : SpIn G hs met k a h j) (hj : (G.nx a).length ≤ j) : Sp G hs met (k + 1) :=
  ⟨s.sp.len, s.sp.rng, s.sp.seen, s.sp.zero, s.sp.pad, fun i b x hi hb hx => by
    by_cases hik : i < k
    · exact s.sp.done i b x hik hb hx
    · obtain rfl : i = k := by omega
      rw [s.is] at hb
      injection hb with hb
      subst hb
      rw [s.at_] at hx
      injection hx with hx
      subst hx
      exact ⟨s.fit, fun t ht => s.next t (by rw [List.take_of_length_le hj]; exact ht)⟩, s.sp.size⟩

/-! The program's way: a pile of ways. -/
structure Im (G : Gr) (hs : List Int) (ws : List (Nat × Int)) : Prop where
  len : hs.length = G.n
  rng : ∀ a h, hs[a]? = some h → h = -1 ∨ (0 ≤ h ∧ h ≤ 40 ∧ Rch G a h ∧ G.tk a ≤ h ∧ ∀ t, t ∈ G.nx a → hs[t]? = some (h - G.tk a + G.pt a) ∨ (t, h - G.tk a + G.pt a) ∈ ws)
  ways : ∀ t h, (t, h) ∈ ws → 0 ≤ h ∧ h ≤ 41 ∧ Rch G t h
  zero : hs[0]? = some 0 ∨ (0, 0) ∈ ws
  pad : ∀ p, p ∈ G.pads → hs[p]? = some 0 ∨ (p, 0) ∈ ws
  size : 2 * miss hs + ws.length ≤ 2 * G.n + 1 + G.pads.length
theorem Im.start (G : Gr) : Im G (List.replicate G.n (-1)) ((0, 0) :: G.pads.map fun p => (p, 0)) := by
  refine ⟨by simp, fun a h e => ?_, fun t h hm => ?_, .inr (by simp), fun p hp => .inr (by simp [hp]), ?_⟩
  · rw [List.getElem?_replicate] at e
    split at e
    · injection e with e; exact .inl e.symm
    · cases e
  · rcases List.mem_cons.1 hm with e | hm
    · injection e with e1 e2; subst e1; subst e2; exact ⟨by omega, by omega, .zero⟩
    · obtain ⟨p, hp, e⟩ := List.mem_map.1 hm
      injection e with e1 e2; subst e1; subst e2; exact ⟨by omega, by omega, .pad hp⟩
  · have h2 : miss (List.replicate G.n (-1 : Int)) = G.n := by unfold miss; rw [List.countP_replicate]; simp
    rw [h2]; simp; omega
theorem Im.end_ {G : Gr} (hw : Wf G) {hs : List Int} (s : Im G hs []) : IsH G hs := by
  have cl : ∀ a h, Rch G a h → hs[a]? = some h ∧ 0 ≤ h ∧ h ≤ 40 ∧ G.tk a ≤ h ∧ ∀ t, t ∈ G.nx a → hs[t]? = some (h - G.tk a + G.pt a) := by
    have one : ∀ a h, hs[a]? = some h → 0 ≤ h → hs[a]? = some h ∧ 0 ≤ h ∧ h ≤ 40 ∧ G.tk a ≤ h ∧ ∀ t, t ∈ G.nx a → hs[t]? = some (h - G.tk a + G.pt a) := by
      intro a h e h0
      rcases s.rng _ _ e with e1 | ⟨_, h1, _, hm, hn⟩
      · omega
      · exact ⟨e, h0, h1, hm, fun t ht => (hn t ht).resolve_right (by simp)⟩
    intro a h r
    induction r with
    | zero => exact one _ _ (s.zero.resolve_right (by simp)) (by omega)
    | pad hp => exact one _ _ ((s.pad _ hp).resolve_right (by simp)) (by omega)
    | step r' ht ih =>
      rename_i a h t
      exact one _ _ (ih.2.2.2.2 _ ht) (by have := hw.pt0 a; have := ih.2.2.2.1; omega)
  refine ⟨s.len, ⟨fun a h r => ⟨(cl a h r).2.2.2.1, (cl a h r).2.2.1⟩, fun a h h' r r' => ?_⟩, fun a h e => ?_⟩
  · have e1 := (cl a h r).1
    rw [(cl a h' r').1] at e1
    injection e1 with e1
    exact e1.symm
  · rcases s.rng a h e with e1 | ⟨h0, _, r, _⟩
    · refine .inr ⟨e1, fun ⟨h', r⟩ => ?_⟩
      have e2 := cl a h' r
      rw [e] at e2
      have := e2.1
      injection this with this
      have := e2.2.1
      omega
    · exact .inl ⟨h0, r⟩
theorem Im.top {G : Gr} (hw : Wf G) {hs : List Int} {ws : List (Nat × Int)} {t : Nat} {h : Int} (s : Im G hs (ws ++ [(t, h)])) : 0 ≤ h ∧ h ≤ 41 ∧ Rch G t h ∧ t < G.n ∧ ∃ g, hs[t]? = some g ∧ -1 ≤ g ∧ g ≤ 40 := by
  obtain ⟨h0, h1, r⟩ := s.ways t h (by simp)
  have hlt := r.lt hw
  refine ⟨h0, h1, r, hlt, ?_⟩
  have e := List.getElem?_eq_getElem (l := hs) (i := t) (by rw [s.len]; exact hlt)
  refine ⟨_, e, ?_⟩
  rcases s.rng _ _ e with e1 | ⟨e1, e2, _⟩ <;> omega
theorem Im.again {G : Gr} {hs : List Int} {ws : List (Nat × Int)} {t : Nat} {h : Int} (s : Im G hs (ws ++ [(t, h)])) (e : hs[t]? = some h) : Im G hs ws := by
  have drop : ∀ (q : Nat) (x : Int), hs[q]? = some x ∨ (q, x) ∈ ws ++ [(t, h)] → hs[q]? = some x ∨ (q, x) ∈ ws := fun q x hq => by
    rcases hq with hq | hq
    · exact .inl hq
    · rcases List.mem_append.1 hq with hq | hq
      · exact .inr hq
      · simp at hq; obtain ⟨rfl, rfl⟩ := hq; exact .inl e
  refine ⟨s.len, fun a x hx => ?_, fun q x hq => s.ways q x (by simp [hq]), drop _ _ s.zero, fun p hp => drop _ _ (s.pad p hp), by have := s.size; simp at this; omega⟩
  rcases s.rng a x hx with e1 | ⟨e1, e2, e3, e4, e5⟩
  · exact .inl e1
  · exact .inr ⟨e1, e2, e3, e4, fun q hq => drop _ _ (e5 q hq)⟩
theorem Im.bad {G : Gr} (hw : Wf G) {hs : List Int} {ws : List (Nat × Int)} {t : Nat} {h g : Int} (s : Im G hs (ws ++ [(t, h)])) (e : hs[t]? = some g) (hne : g ≠ h) (hb : g ≠ -1 ∨ 40 < h ∨ h < G.tk t) : ¬ Ok G := by
  intro ok
  obtain ⟨_, _, r, _, _⟩ := s.top hw
  have := ok.1 _ _ r
  rcases hb with hb | hb | hb
  · rcases s.rng _ _ e with e1 | ⟨_, _, r', _⟩
    · exact hb e1
    · exact hne (ok.2 _ _ _ r' r)
  · omega
  · omega
theorem Im.new {G : Gr} (hw : Wf G) {hs : List Int} {ws : List (Nat × Int)} {t : Nat} {h : Int} (s : Im G hs (ws ++ [(t, h)])) (e : hs[t]? = some (-1)) (h40 : h ≤ 40) (ht : G.tk t ≤ h) : Im G (hs.set t h) (ws ++ (G.nx t).map fun q => (q, h - G.tk t + G.pt t)) := by
  obtain ⟨h0, _, r, hlt, _⟩ := s.top hw
  have hl : t < hs.length := by rw [s.len]; exact hlt
  have gs := fun i => get_set (l := hs) (t := t) (j := i) (v := h) hl
  have drop : ∀ (q : Nat) (x : Int), 0 ≤ x → hs[q]? = some x ∨ (q, x) ∈ ws ++ [(t, h)] → (hs.set t h)[q]? = some x ∨ (q, x) ∈ ws ++ (G.nx t).map fun q => (q, h - G.tk t + G.pt t) := fun q x hx hq => by
    rcases hq with hq | hq
    · refine .inl ?_
      rw [gs]
      split
      · rename_i hi; subst hi; rw [e] at hq; injection hq with hq; omega
      · exact hq
    · rcases List.mem_append.1 hq with hq | hq
      · exact .inr (List.mem_append.2 (.inl hq))
      · simp at hq; obtain ⟨rfl, rfl⟩ := hq; exact .inl (by rw [gs]; simp)
  have hp0 := hw.pt0
  refine ⟨by simpa using s.len, fun a x hx => ?_, fun q x hq => ?_, drop _ _ (by omega) s.zero, fun p hp => drop _ _ (by omega) (s.pad p hp), ?_⟩
  · rw [gs] at hx
    split at hx
    · rename_i hi; subst hi; injection hx with hx; subst hx
      exact .inr ⟨h0, h40, r, ht, fun q hq => .inr (List.mem_append.2 (.inr (List.mem_map.2 ⟨q, hq, rfl⟩)))⟩
    · rcases s.rng a x hx with e1 | ⟨e1, e2, e3, e4, e5⟩
      · exact .inl e1
      · exact .inr ⟨e1, e2, e3, e4, fun q hq => drop _ _ (by have := hp0 a; omega) (e5 q hq)⟩
  · rcases List.mem_append.1 hq with hq | hq
    · exact s.ways q x (by simp [hq])
    · obtain ⟨q', hq', e'⟩ := List.mem_map.1 hq
      injection e' with e1 e2; subst e1; subst e2
      have h1 := hp0 t
      have h2 := hw.tk0 t
      have h3 : G.pt t ≤ 1 := by rcases hw.on t hlt with e1 | ⟨e1, _⟩ <;> omega
      exact ⟨by omega, by omega, .step r hq'⟩
  · have h1 := miss_set e (by decide) h0
    have h2 := s.size
    have h3 := hw.two t
    simp at h2 ⊢
    omega

end Go.Proofs.YtpbkkjiikhjanaaGreatDoor.Ht

/-
  A code as a graph; small laws on rows for the walks along its ways.
-/
namespace Go.Proofs.YtpbkkjiikhjanaaGreatDoor
open Go.RowKit Exs Ht

def tkA (cs : List Cd) (s : Cd) (a : Nat) : Int := match s.ins[a]? with | some t => tkI cs t.1 t.2 | none => 0
def ptA (s : Cd) (a : Nat) : Int := match s.ins[a]? with | some t => kP t.1 | none => 0
def nxA (s : Cd) (a : Nat) : List Nat := match s.ins[a]? with | some t => (nxL t.1 t.2 a).map Int.toNat | none => []
def gr (cs : List Cd) (s : Cd) : Gr := ⟨s.ins.length, tkA cs s, ptA s, nxA s, s.rows.map fun r => r.2.2.toNat⟩

section
variable {cs : List Cd} {s : Cd} {a : Nat} {op x : Int}
theorem gr_tk (h : s.ins[a]? = some (op, x)) : (gr cs s).tk a = tkI cs op x := by simp [gr, tkA, h]
theorem gr_pt (h : s.ins[a]? = some (op, x)) : (gr cs s).pt a = kP op := by simp [gr, ptA, h]
theorem gr_nx (h : s.ins[a]? = some (op, x)) : (gr cs s).nx a = (nxL op x a).map Int.toNat := by simp [gr, nxA, h]
end

theorem kP_is (op : Int) : kP op = 0 ∨ (kP op = 1 ∧ (op = 1 ∨ op = 2 ∨ op = 4 ∨ op = 5 ∨ op = 6 ∨ op = 7)) := by
  unfold kP
  split
  · right; exact ⟨rfl, by assumption⟩
  · left; rfl
theorem kT_is (op : Int) : 0 ≤ kT op ∧ kT op ≤ 2 := by
  unfold kT
  split
  · omega
  · split <;> omega
theorem tkI_is {cs : List Cd} (hp : ∀ c ∈ cs, cdB c = true) (op x : Int) : 0 ≤ tkI cs op x ∧ tkI cs op x ≤ 2 := by
  unfold tkI
  split
  · split
    · rename_i c hc
      have := (cdB_iff c).1 (hp c (List.mem_of_getElem? hc))
      omega
    · omega
  · exact kT_is op
theorem rowsF_mem {many : Nat} : ∀ {rs : List Row3} {a : Int}, rowsF many a rs = true → ∀ r ∈ rs, 0 ≤ r.2.2 ∧ r.2.2 < many
  | [], _, _, r, h => by cases h
  | q :: rs, a, h, r, hr => by
    simp only [rowsF, Bool.and_eq_true] at h
    rcases List.mem_cons.1 hr with rfl | hr
    · have := of_decide_eq_true h.1
      omega
    · exact rowsF_mem h.2 r hr

theorem gr_wf {cs : List Cd} {s : Cd} (hp : ∀ c ∈ cs, cdB c = true) (hi : cdB s = true) (hg : goesB s = true) (hr : rowsF s.ins.length 0 s.rows = true) : Wf (gr cs s) := by
  have hs := (cdB_iff s).1 hi
  refine ⟨by show 0 < s.ins.length; omega, fun a t ha ht => ?_, fun p hp' => ?_, fun a => ?_, fun a => ?_, fun a ha => ?_, fun a => ?_⟩
  · obtain ⟨q, hq⟩ : ∃ q, s.ins[a]? = some q := ⟨_, List.getElem?_eq_getElem ha⟩
    obtain ⟨op, x⟩ := q
    rw [gr_nx hq] at ht
    obtain ⟨y, hy, rfl⟩ := List.mem_map.1 ht
    have h1 := (goesB_iff s).1 hg a _ hq
    have h2 := (within_iff _ _ _).1 (List.all_eq_true.1 h1 y hy)
    show y.toNat < s.ins.length
    omega
  · obtain ⟨r, hr', rfl⟩ := List.mem_map.1 hp'
    have := rowsF_mem hr r hr'
    show r.2.2.toNat < s.ins.length
    omega
  · show 0 ≤ tkA cs s a
    unfold tkA
    split
    · exact (tkI_is hp _ _).1
    · omega
  · show 0 ≤ ptA s a
    unfold ptA
    split
    · rename_i t _; rcases kP_is t.1 with h | ⟨h, _⟩ <;> omega
    · omega
  · obtain ⟨q, hq⟩ : ∃ q, s.ins[a]? = some q := ⟨_, List.getElem?_eq_getElem ha⟩
    obtain ⟨op, x⟩ := q
    rw [gr_pt hq, gr_nx hq]
    rcases kP_is op with h | ⟨h, ho⟩
    · exact .inl h
    · refine .inr ⟨h, ?_⟩
      rw [nxL_on (by omega) (by omega) (by unfold stops; omega)]
      simp
  · show (nxA s a).length ≤ 2
    unfold nxA
    split
    · rw [List.length_map]; exact nxL_length _ _ _
    · simp

/-- A place of a row is written over. -/
theorem Room.set {w : World} {g : Nat} {t : TypeId} {c : Nat} {k : IntKind} {xs : List Int} (h : Room w g t c k xs) {i : Nat} (hc : xs.length ≤ c) (v : Int) : Room (w.setCell ⟨g, i, none⟩ (.int k v)) g t c k (xs.set i v) := by
  obtain ⟨cs, h1, h2, h3⟩ := h
  refine ⟨cs.setIfInBounds i (.int k v), by simp [World.setCell, Array.getElem?_modify, h1], by simpa using h2, ?_⟩
  apply List.ext_getElem?
  intro j
  have e4 : (cs.toList.take xs.length)[j]? = (xs.map (Value.int k))[j]? := by rw [h3]
  simp only [List.getElem?_take, List.length_set, Array.toList_setIfInBounds, List.getElem?_set, List.map_set, List.length_map, Array.length_toList] at e4 ⊢
  by_cases hj : j < xs.length
  · rw [if_pos hj] at e4 ⊢
    by_cases hij : i = j
    · subst hij
      rw [if_pos rfl, if_pos rfl, if_pos (by omega), if_pos hj]
    · rw [if_neg hij, if_neg hij]
      exact e4
  · rw [if_neg hj]
    by_cases hij : i = j
    · subst hij
      rw [if_pos rfl, if_neg hj]
    · rw [if_neg hij, List.getElem?_eq_none (by simp; omega)]
theorem Room.at {w : World} {g : Nat} {t : TypeId} {c : Nat} {k : IntKind} {xs : List Int} (h : Room w g t c k xs) {j : Nat} {x : Int} (hx : xs[j]? = some x) : w.cell? ⟨g, j, none⟩ = some (.int k x) := by
  have hj := (List.getElem?_eq_some_iff.1 hx).1
  rw [h.cell j hj]
  simp [List.getD, hx]
/-- A row in other blocks stays. -/
theorem Nums.other {w : World} {B g i : Nat} {e : TypeId} {k : IntKind} {v u : Value} {xs : List Int} (h : Nums w B e k v xs) (hg : g < B) : Nums (w.setCell ⟨g, i, none⟩ u) B e k v xs := by
  obtain ⟨h1, h2⟩ := h
  refine ⟨h1, ?_⟩
  rcases h2 with h2 | ⟨g', cap, cur, hv, hg', hh, r⟩
  · exact Or.inl h2
  · exact Or.inr ⟨g', cap, cur, hv, hg', (Below.heap_setCell _ _ _ _ (show g' ≠ g by omega)).trans hh, r⟩
def ints (l : List Nat) : List Int := l.map fun n : Nat => (n : Int)
theorem ints_snoc (l : List Nat) (n : Nat) : ints (l ++ [n]) = ints l ++ [(n : Int)] := by simp [ints]
theorem ints_length (l : List Nat) : (ints l).length = l.length := by simp [ints]
theorem ints_at {l : List Nat} {k : Nat} {x : Int} (h : (ints l)[k]? = some x) : ∃ n : Nat, x = (n : Int) ∧ l[k]? = some n := by
  simp [ints] at h
  obtain ⟨n, h1, h2⟩ := h
  exact ⟨n, h2.symm, h1⟩
theorem toNat_at {l : List Int} {k : Nat} {x : Int} (h : l[k]? = some x) : (l.map Int.toNat)[k]? = some x.toNat := by simp [h]

end Go.Proofs.YtpbkkjiikhjanaaGreatDoor

/-
  What may raise something, what stands only where the pile is empty.
-/
namespace Go.Proofs.YtpbkkjiikhjanaaGreatDoor
open Go.RowKit Exs Ht

/-- Whether it may raise something. -/
def raisB (op : Int) : Bool := op == 4 || op == 7 || op == 13 || op == 14 || op == 16 || op == 17
theorem raisB_iff (op : Int) : raisB op = true ↔ op = 4 ∨ op = 7 ∨ op = 13 ∨ op = 14 ∨ op = 16 ∨ op = 17 := by simp [raisB, or_assoc]
/-- Whether the pile must be empty there. -/
def flatB (op : Int) : Bool := op == 18 || op == 16 || op == 14 || op == 17
theorem flatB_iff (op : Int) : flatB op = true ↔ op = 18 ∨ op = 16 ∨ op = 14 ∨ op = 17 := by simp [flatB, or_assoc]

set_option maxHeartbeats 400000 in
theorem mayRaise_any (op x : Int) (w : World) : Calls Tryz.prog 132 #[.agg #[.int .i64 op, .int .i64 x]] w fun e w' => e = .returned (.bool (raisB op)) ∧ Below w.heap.size w w' := by
  have hb := (Below.refl w.heap.size w).alloc (Nat.le_refl _) (Obj.cells #[.int .i64 op, .int .i64 x] 129)
  by_cases h : raisB op = true
  · rcases (raisB_iff op).1 h with rfl | rfl | rfl | rfl | rfl | rfl
    all_goals
      clear h
      go_enter Tryz.func132, Tryz.ntmps132
      go_wp2
      go_ret
      exact ⟨rfl, hb⟩
  · have h0 := no_of h
    rw [h0]
    have hn := fun hh => h ((raisB_iff op).2 hh)
    have a4 : (op == 4) = false := beq_of fun e => hn (by omega)
    have a7 : (op == 7) = false := beq_of fun e => hn (by omega)
    have a13 : (op == 13) = false := beq_of fun e => hn (by omega)
    have a14 : (op == 14) = false := beq_of fun e => hn (by omega)
    have a16 : (op == 16) = false := beq_of fun e => hn (by omega)
    have a17 : (op == 17) = false := beq_of fun e => hn (by omega)
    clear hn h h0
    go_enter Tryz.func132, Tryz.ntmps132
    go_wp2
    go_ret
    exact ⟨rfl, hb⟩

set_option maxHeartbeats 400000 in
theorem wantsNothing_any (op x : Int) (w : World) : Calls Tryz.prog 134 #[.agg #[.int .i64 op, .int .i64 x]] w fun e w' => e = .returned (.bool (flatB op)) ∧ Below w.heap.size w w' := by
  have hb := (Below.refl w.heap.size w).alloc (Nat.le_refl _) (Obj.cells #[.int .i64 op, .int .i64 x] 129)
  by_cases h : flatB op = true
  · rcases (flatB_iff op).1 h with rfl | rfl | rfl | rfl
    all_goals
      clear h
      go_enter Tryz.func134, Tryz.ntmps134
      go_wp2
      go_ret
      exact ⟨rfl, hb⟩
  · have h0 := no_of h
    rw [h0]
    have hn := fun hh => h ((flatB_iff op).2 hh)
    have a18 : (op == 18) = false := beq_of fun e => hn (by omega)
    have a16 : (op == 16) = false := beq_of fun e => hn (by omega)
    have a14 : (op == 14) = false := beq_of fun e => hn (by omega)
    have a17 : (op == 17) = false := beq_of fun e => hn (by omega)
    clear hn h h0
    go_enter Tryz.func134, Tryz.ntmps134
    go_wp2
    go_ret
    exact ⟨rfl, hb⟩

set_option maxHeartbeats 400000 in
theorem l5Raises_any (op : Int) (w : World) : Calls Tryz.prog 108 #[.int .i64 op] w fun e w' => e = .returned (.bool (raisB op)) ∧ w = w' := by
  by_cases h : raisB op = true
  · rcases (raisB_iff op).1 h with rfl | rfl | rfl | rfl | rfl | rfl
    all_goals
      clear h
      go_enter Tryz.func108, Tryz.ntmps108
      go_wp2
      go_ret
      exact ⟨rfl, rfl⟩
  · have h0 := no_of h
    rw [h0]
    have hn := fun hh => h ((raisB_iff op).2 hh)
    have a4 : (op == 4) = false := beq_of fun e => hn (by omega)
    have a7 : (op == 7) = false := beq_of fun e => hn (by omega)
    have a13 : (op == 13) = false := beq_of fun e => hn (by omega)
    have a14 : (op == 14) = false := beq_of fun e => hn (by omega)
    have a16 : (op == 16) = false := beq_of fun e => hn (by omega)
    have a17 : (op == 17) = false := beq_of fun e => hn (by omega)
    clear hn h h0
    go_enter Tryz.func108, Tryz.ntmps108
    go_wp2
    go_ret
    exact ⟨rfl, rfl⟩

/-- Nothing that wants an empty pile stands where it is not empty. -/
def endOk (s : Cd) (hs : List Int) : Prop := ∀ (a : Nat) (t : Token) (g : Int), s.ins[a]? = some t → hs[a]? = some g → 0 < g → flatB t.1 = false

set_option maxHeartbeats 2000000 in
set_option maxRecDepth 100000 in
theorem endsAtNothing_any (s : Cd) (A1 : Option Addr) (n1 c1 : Nat) (A2 : Option Addr) (n2 c2 : Nat) (A3 : Option Addr) (n3 c3 : Nat) (w : World) (hs : IsCd w w.heap.size s A1 n1 A2 n2 A3 n3) (hi : cdB s = true) (v : Value) (hts0 : List Int) (B : Nat) (hv : Nums w B 3 .i64 v hts0) (hlen : hts0.length = n2) :
    Calls Tryz.prog 119 #[cdV s A1 n1 c1 A2 n2 c2 A3 n3 c3, v] w fun e w' => (∃ q : Bool, e = .returned (.bool q) ∧ (q = true ↔ endOk s hts0)) ∧ Below w.heap.size w w' := by
  have hb := (Below.refl w.heap.size w).alloc (Nat.le_refl _) (Obj.cells #[.int .i64 s.params, .int .i64 s.vars, .slice A1 n1 c1, .slice A2 n2 c2, .slice A3 n3 c3] 82)
  have k2 := Keep.new w #[.int .i64 s.params, .int .i64 s.vars, .slice A1 n1 c1, .slice A2 n2 c2, .slice A3 n3 c3] 82
  have hsz := cdB_iff s |>.1 hi
  rw [hs.sites.1, hs.ins.1, hs.rows.1] at hsz
  have HSZ := put hsz
  have l2 : n2 ≤ 300 := by omega
  have E := put hs.ins.1
  have hins := hs.ins
  clear hsz hi hs
  unfold cdV
  clear HSZ k2
  obtain ⟨Av, cv, rfl, hrv⟩ := hv.reads
  rw [hlen] at hrv ⊢
  clear hv
  go_enter Tryz.func119, Tryz.ntmps119
  go_wp2
  generalize hW : w.alloc (Obj.cells #[.int .i64 s.params, .int .i64 s.vars, .slice A1 n1 c1, .slice A2 n2 c2, .slice A3 n3 c3] 82) = W0 at hb ⊢
  clear hW
  go_loopw [10] (fun i wr => ∃ k : Nat, k ≤ n2 ∧ i = .int .i64 k ∧ Hid (∀ (a : Nat) (t : Token) (g : Int), a < k → s.ins[a]? = some t → hts0[a]? = some g → 0 < g → flatB t.1 = false) ∧ Below w.heap.size w wr) (fun i _ => n2 - (intOf i).toNat)
  case atStart => exact ⟨0, Nat.zero_le _, rfl, put (fun a t g h => by omega), hb⟩
  case round =>
    clear hb
    obtain ⟨k, hk, rfl, hall, hbel⟩ := hrel
    by_cases hlt : k < n2
    · obtain ⟨b, off, op, x, rfl, hb', hc1, hc2, hxt⟩ := (hins.below hbel).at_ hlt
      have hb3 := hbel.alloc hbel.size (.cells #[.int .i64 op, .int .i64 x] 129)
      obtain ⟨bv, ov, g, rfl, hbv, eg, hg⟩ := (hrv.below hb3).at_ hlt
      have HST := put (fun (h0 : 0 < g → flatB op = false) => (show ∀ (a : Nat) (t : Token) (g : Int), a < k + 1 → s.ins[a]? = some t → hts0[a]? = some g → 0 < g → flatB t.1 = false from fun a t g' ha ht hg' hp => by
        by_cases h : a < k
        · exact hall.out a t g' h ht hg' hp
        · obtain rfl : a = k := by omega
          rw [hxt.out] at ht; injection ht with ht; subst ht
          rw [hg.out] at hg'; injection hg' with hg'; subst hg'
          exact h0 hp))
      by_cases hp : 0 < g
      · cases hf : flatB op
        · have HF := put hf
          have H2 := put (HST.out (fun _ => hf))
          clear hf HST
          go_wp2_with fail
          refine (wantsNothing_any op x _).mono ?_
          rintro e w1 ⟨rfl, hb4⟩
          rw [HF.out]
          go_wp2
          go_roundw
          case rel => exact ⟨k + 1, by omega, by go_num, H2, hb3.trans (hb4.mono hb3.size)⟩
          case measure => simp [intOf]; omega
        · have HF := put hf
          have HNO := put (show ¬ endOk s hts0 from fun h => by have := h k _ g hxt.out hg.out hp; rw [hf] at this; cases this)
          clear hf HST
          go_wp2_with fail
          refine (wantsNothing_any op x _).mono ?_
          rintro e w1 ⟨rfl, hb4⟩
          rw [HF.out]
          go_wp2
          go_ret
          exact ⟨⟨false, rfl, by simp [HNO.out]⟩, hb3.trans (hb4.mono hb3.size)⟩
      · have hp' : g ≤ 0 := by omega
        have H2 := put (HST.out (fun h => absurd h hp))
        clear hp HST
        go_wp2
        go_roundw
        case rel => exact ⟨k + 1, by omega, by go_num, H2, hb3⟩
        case measure => simp [intOf]; omega
    · have HYES := put (show endOk s hts0 from fun a t g ht hg hp => hall.out a t g (by have := (List.getElem?_eq_some_iff.1 ht).1; have := E.out; omega) ht hg hp)
      go_wp2
      go_ret
      exact ⟨⟨true, rfl, by simp [HYES.out]⟩, hbel⟩

end Go.Proofs.YtpbkkjiikhjanaaGreatDoor

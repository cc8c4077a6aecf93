/-
  Plain mathematics of heights: places that ways lead to, and both ways of following them. No program is imported here.
-/
import Derived.Laws.Small
namespace Go.Proofs.YtcpjddkhclaafaaDoor.Ht

/-- A code as a graph: how many places, what is taken and put at each, where it goes on, the pads. -/
structure Gr where
  n : Nat
  tk : Nat → Int
  pt : Nat → Int
  nx : Nat → List Nat
  pads : List Nat

structure Wf (G : Gr) : Prop where
  pos : 0 < G.n
  nx : ∀ a t, a < G.n → t ∈ G.nx a → t < G.n
  pad : ∀ p ∈ G.pads, p < G.n
  tk0 : ∀ a, 0 ≤ G.tk a
  pt0 : ∀ a, 0 ≤ G.pt a
  on : ∀ a, a < G.n → G.pt a = 0 ∨ (G.pt a = 1 ∧ G.nx a ≠ [])
  two : ∀ a, (G.nx a).length ≤ 2

/-- A way leads to this place with this height. -/
inductive Rch (G : Gr) : Nat → Int → Prop
  | zero : Rch G 0 0
  | pad {p : Nat} : p ∈ G.pads → Rch G p 0
  | step {a : Nat} {h : Int} {t : Nat} : Rch G a h → t ∈ G.nx a → Rch G t (h - G.tk a + G.pt a)

def Ok (G : Gr) : Prop := (∀ a h, Rch G a h → G.tk a ≤ h ∧ h ≤ 40) ∧ ∀ a h h', Rch G a h → Rch G a h' → h = h'

structure IsH (G : Gr) (hs : List Int) : Prop where
  len : hs.length = G.n
  ok : Ok G
  at_ : ∀ a h, hs[a]? = some h → (0 ≤ h ∧ Rch G a h) ∨ (h = -1 ∧ ¬ ∃ h', Rch G a h')

theorem Rch.lt {G : Gr} (hw : Wf G) {a : Nat} {h : Int} (r : Rch G a h) : a < G.n := by
  induction r with
  | zero => exact hw.pos
  | pad hp => exact hw.pad _ hp
  | step _ ht ih => exact hw.nx _ _ ih ht

theorem IsH.unique {G : Gr} {hs hs' : List Int} (h : IsH G hs) (h' : IsH G hs') : hs = hs' := by
  apply List.ext_getElem?
  intro i
  by_cases hi : i < G.n
  · have e1 := List.getElem?_eq_getElem (l := hs) (i := i) (by rw [h.len]; exact hi)
    have e2 := List.getElem?_eq_getElem (l := hs') (i := i) (by rw [h'.len]; exact hi)
    rw [e1, e2]
    rcases h.at_ i _ e1 with ⟨_, r1⟩ | ⟨r1, s1⟩ <;> rcases h'.at_ i _ e2 with ⟨_, r2⟩ | ⟨r2, s2⟩
    · rw [h.ok.2 _ _ _ r1 r2]
    · exact absurd ⟨_, r1⟩ s2
    · exact absurd ⟨_, r2⟩ s1
    · rw [r1, r2]
  · rw [List.getElem?_eq_none (by rw [h.len]; omega), List.getElem?_eq_none (by rw [h'.len]; omega)]

open Classical in
/-- The heights, where there are some. -/
noncomputable def hts (G : Gr) : Option (List Int) := if h : ∃ hs, IsH G hs then some (Classical.choose h) else none
theorem hts_of {G : Gr} {hs : List Int} (h : IsH G hs) : hts G = some hs := by
  have hx : ∃ hs, IsH G hs := ⟨hs, h⟩
  unfold hts
  rw [dif_pos hx, (Classical.choose_spec hx).unique h]
theorem hts_none {G : Gr} (h : ¬ Ok G) : hts G = none := by
  unfold hts
  rw [dif_neg]
  rintro ⟨hs, h'⟩
  exact h h'.ok
theorem hts_is {G : Gr} {hs : List Int} (h : hts G = some hs) : IsH G hs := by
  unfold hts at h
  split at h
  · rename_i hx
    injection h with h
    rw [← h]
    exact Classical.choose_spec hx
  · cases h

/-- How many places have no height. -/
def miss (hs : List Int) : Nat := hs.countP (fun h => decide (h < 0))
theorem miss_set {hs : List Int} {t : Nat} {h v : Int} (ht : hs[t]? = some h) (h0 : h < 0) (hv : 0 ≤ v) : miss (hs.set t v) + 1 = miss hs := by
  induction hs generalizing t with
  | nil => simp at ht
  | cons a r ih =>
    cases t with
    | zero =>
      simp at ht
      subst ht
      simp [miss, List.countP_cons, h0]
      omega
    | succ t =>
      simp at ht
      have := ih ht
      simp only [miss, List.set_cons_succ, List.countP_cons] at *
      omega
theorem miss_le (hs : List Int) : miss hs ≤ hs.length := List.countP_le_length

theorem get_set {α : Type} {l : List α} {t j : Nat} {v : α} (ht : t < l.length) : (l.set t v)[j]? = if j = t then some v else l[j]? := by
  rw [List.getElem?_set]
  by_cases h : t = j
  · subst h; simp [ht]
  · have h' : ¬ j = t := fun e => h e.symm
    simp [h, h']

/-! The reference's way: places met, one behind the other. -/
structure Sp (G : Gr) (hs : List Int) (met : List Nat) (k : Nat) : Prop where
  len : hs.length = G.n
  rng : ∀ a h, hs[a]? = some h → h = -1 ∨ (0 ≤ h ∧ h ≤ 40 ∧ Rch G a h ∧ a ∈ met)
  seen : ∀ a, a ∈ met → ∃ h, hs[a]? = some h ∧ 0 ≤ h
  zero : hs[0]? = some 0
  pad : ∀ p, p ∈ G.pads → hs[p]? = some 0
  done : ∀ j a h, j < k → met[j]? = some a → hs[a]? = some h → G.tk a ≤ h ∧ ∀ t, t ∈ G.nx a → hs[t]? = some (h - G.tk a + G.pt a)
  size : met.length + miss hs = G.n

theorem Sp.end_ {G : Gr} (hw : Wf G) {hs : List Int} {met : List Nat} {k : Nat} (s : Sp G hs met k) (hk : met.length ≤ k) : IsH G hs := by
  have cl : ∀ a h, Rch G a h → hs[a]? = some h ∧ 0 ≤ h ∧ h ≤ 40 ∧ G.tk a ≤ h ∧ ∀ t, t ∈ G.nx a → hs[t]? = some (h - G.tk a + G.pt a) := by
    have one : ∀ a h, hs[a]? = some h → 0 ≤ h → hs[a]? = some h ∧ 0 ≤ h ∧ h ≤ 40 ∧ G.tk a ≤ h ∧ ∀ t, t ∈ G.nx a → hs[t]? = some (h - G.tk a + G.pt a) := by
      intro a h e h0
      rcases s.rng _ _ e with e1 | ⟨_, h1, _, hm⟩
      · omega
      · obtain ⟨j, hj⟩ := List.getElem?_of_mem hm
        have hd := s.done j a h (by have := (List.getElem?_eq_some_iff.1 hj).1; omega) hj e
        exact ⟨e, h0, h1, hd.1, hd.2⟩
    intro a h r
    induction r with
    | zero => exact one _ _ s.zero (by omega)
    | pad hp => exact one _ _ (s.pad _ hp) (by omega)
    | step r' ht ih =>
      rename_i a h t
      exact one _ _ (ih.2.2.2.2 _ ht) (by have := hw.pt0 a; have := ih.2.2.2.1; omega)
  refine ⟨s.len, ⟨fun a h r => ⟨(cl a h r).2.2.2.1, (cl a h r).2.2.1⟩, fun a h h' r r' => ?_⟩, fun a h e => ?_⟩
  · have e1 := (cl a h r).1
    rw [(cl a h' r').1] at e1
    injection e1 with e1
    exact e1.symm
  · rcases s.rng a h e with e1 | ⟨h0, _, r, _⟩
    · refine .inr ⟨e1, fun ⟨h', r⟩ => ?_⟩
      have e2 := cl a h' r
      rw [e] at e2
      have := e2.1
      injection this with this
      have := e2.2.1
      omega
    · exact .inl ⟨h0, r⟩

/-- The first place, before the rows. -/
theorem Sp.first (n : Nat) (hn : 0 < n) : ((List.replicate n (-1 : Int)).set 0 0)[0]? = some 0 ∧ 1 + miss ((List.replicate n (-1 : Int)).set 0 0) = n := by
  have h1 : (List.replicate n (-1 : Int))[0]? = some (-1) := by simp [hn]
  refine ⟨by simp [hn], ?_⟩
  have := miss_set h1 (by decide) (show (0 : Int) ≤ 0 by decide)
  have h2 : miss (List.replicate n (-1 : Int)) = n := by unfold miss; rw [List.countP_replicate]; simp
  omega

/-- What holds while the rows are gone through: j pads done. -/
structure Sp0 (G : Gr) (hs : List Int) (met : List Nat) (j : Nat) : Prop where
  len : hs.length = G.n
  rng : ∀ a h, hs[a]? = some h → h = -1 ∨ (h = 0 ∧ Rch G a 0 ∧ a ∈ met)
  seen : ∀ a, a ∈ met → hs[a]? = some 0
  zero : hs[0]? = some 0
  pad : ∀ p, p ∈ G.pads.take j → hs[p]? = some 0
  size : met.length + miss hs = G.n
theorem Sp0.start {G : Gr} (hw : Wf G) : Sp0 G ((List.replicate G.n (-1 : Int)).set 0 0) [0] 0 := by
  obtain ⟨h1, h2⟩ := Sp.first G.n hw.pos
  refine ⟨by simp, fun a h e => ?_, fun a ha => ?_, h1, fun p hp => by simp at hp, by simpa using h2⟩
  · by_cases ha : a = 0
    · subst ha; rw [h1] at e; injection e with e; exact .inr ⟨e.symm, .zero, by simp⟩
    · rw [get_set (by simpa using hw.pos), if_neg ha] at e
      have := List.getElem?_replicate (n := G.n) (a := (-1 : Int)) (i := a)
      rw [this] at e
      split at e
      · injection e with e; exact .inl e.symm
      · cases e
  · simp at ha; subst ha; exact h1
theorem Sp0.old {G : Gr} {hs : List Int} {met : List Nat} {j p : Nat} (s : Sp0 G hs met j) (hp : G.pads[j]? = some p) {h : Int} (e : hs[p]? = some h) (h0 : 0 ≤ h) : Sp0 G (hs.set p 0) met (j + 1) := by
  have hlt : p < hs.length := (List.getElem?_eq_some_iff.1 e).1
  have hz : hs[p]? = some 0 := by
    rcases s.rng _ _ e with e1 | ⟨e1, _⟩
    · omega
    · rw [e, e1]
  have hset : hs.set p 0 = hs := by
    apply List.ext_getElem?
    intro i
    rw [get_set hlt]
    split
    · rename_i hi; rw [hi, hz]
    · rfl
  rw [hset]
  refine ⟨s.len, s.rng, s.seen, s.zero, fun q hq => ?_, s.size⟩
  rw [List.take_add_one, hp] at hq
  rcases List.mem_append.1 hq with hq | hq
  · exact s.pad q hq
  · simp at hq; subst hq; exact hz
theorem Sp0.new {G : Gr} {hs : List Int} {met : List Nat} {j p : Nat} (s : Sp0 G hs met j) (hp : G.pads[j]? = some p) {h : Int} (e : hs[p]? = some h) (h0 : h < 0) : Sp0 G (hs.set p 0) (met ++ [p]) (j + 1) := by
  have hlt : p < hs.length := (List.getElem?_eq_some_iff.1 e).1
  have g := fun i => get_set (l := hs) (t := p) (j := i) (v := (0 : Int)) hlt
  have hne : ∀ a : Nat, hs[a]? = some 0 → (hs.set p 0)[a]? = some 0 := fun a ha => by
    rw [g]
    split
    · rfl
    · exact ha
  refine ⟨by simpa using s.len, fun a h' e' => ?_, fun a ha => ?_, hne _ s.zero, fun q hq => ?_, ?_⟩
  · rw [g] at e'
    split at e'
    · rename_i hi; subst hi; injection e' with e'
      exact .inr ⟨e'.symm, .pad (List.mem_of_getElem? hp), by simp⟩
    · rcases s.rng _ _ e' with e1 | ⟨e1, r, m⟩
      · exact .inl e1
      · exact .inr ⟨e1, r, by simp [m]⟩
  · rcases List.mem_append.1 ha with ha | ha
    · exact hne _ (s.seen a ha)
    · simp at ha; subst ha; rw [g]; simp
  · rw [List.take_add_one, hp] at hq
    rcases List.mem_append.1 hq with hq | hq
    · exact hne _ (s.pad q hq)
    · simp at hq; subst hq; rw [g]; simp
  · have := miss_set e h0 (show (0 : Int) ≤ 0 by decide)
    have := s.size
    simp
    omega
theorem Sp0.sp {G : Gr} {hs : List Int} {met : List Nat} {j : Nat} (s : Sp0 G hs met j) (hj : G.pads.length ≤ j) : Sp G hs met 0 :=
  ⟨s.len, fun a h e => by
    rcases s.rng a h e with e1 | ⟨e1, r, m⟩
    · exact .inl e1
    · subst e1; exact .inr ⟨by omega, by omega, r, m⟩, fun a ha => ⟨0, s.seen a ha, by omega⟩, s.zero, fun p hp => s.pad p (by rw [List.take_of_length_le hj]; exact hp), fun j a h hj => by omega, s.size⟩

/-- Inside one round: the place a = met[k] of height h goes on to the first j of its next places. -/
structure SpIn (G : Gr) (hs : List Int) (met : List Nat) (k a : Nat) (h : Int) (j : Nat) : Prop where
  sp : Sp G hs met k
  is : met[k]? = some a
  at_ : hs[a]? = some h
  fit : G.tk a ≤ h
  most : h - G.tk a + G.pt a ≤ 40
  next : ∀ t, t ∈ (G.nx a).take j → hs[t]? = some (h - G.tk a + G.pt a)
theorem SpIn.rch {G : Gr} {hs : List Int} {met : List Nat} {k a : Nat} {h : Int} {j : Nat} (s : SpIn G hs met k a h j) (hw : Wf G) : Rch G a h ∧ 0 ≤ h := by
  have := hw.tk0 a
  have := s.fit
  rcases s.sp.rng _ _ s.at_ with e | ⟨h0, _, r, _⟩
  · omega
  · exact ⟨r, h0⟩
theorem Sp.height {G : Gr} {hs : List Int} {met : List Nat} {k a : Nat} (s : Sp G hs met k) (ha : met[k]? = some a) : ∃ h, hs[a]? = some h ∧ 0 ≤ h ∧ h ≤ 40 ∧ Rch G a h := by
  obtain ⟨h, e, h0⟩ := s.seen a (List.mem_of_getElem? ha)
  rcases s.rng _ _ e with e1 | ⟨_, h1, r, _⟩
  · omega
  · exact ⟨h, e, h0, h1, r⟩
theorem Sp.enter {G : Gr} {hs : List Int} {met : List Nat} {k a : Nat} (s : Sp G hs met k) (ha : met[k]? = some a) {h : Int} (e : hs[a]? = some h) (hf : G.tk a ≤ h) (hm : h - G.tk a + G.pt a ≤ 40) : SpIn G hs met k a h 0 :=
  ⟨s, ha, e, hf, hm, fun t ht => by simp at ht⟩
/-- Too little on the pile, or too much behind it: there are no heights. -/
theorem Sp.bad {G : Gr} (hw : Wf G) {hs : List Int} {met : List Nat} {k a : Nat} (s : Sp G hs met k) (ha : met[k]? = some a) {h : Int} (e : hs[a]? = some h) (hb : h < G.tk a ∨ 40 < h - G.tk a + G.pt a) : ¬ Ok G := by
  intro ok
  obtain ⟨h', e', h0, h1, r⟩ := s.height ha
  rw [e] at e'
  injection e' with e'
  subst e'
  have hlt : a < G.n := r.lt hw
  have h2 := (ok.1 a h r).1
  rcases hb with hb | hb
  · omega
  · have h3 := hw.tk0 a
    rcases hw.on a hlt with e1 | ⟨e1, hne⟩
    · omega
    · obtain ⟨t, ht⟩ := List.exists_mem_of_ne_nil _ hne
      have := (ok.1 _ _ (Rch.step r ht)).2
      omega
theorem SpIn.clash {G : Gr} (hw : Wf G) {hs : List Int} {met : List Nat} {k a : Nat} {h : Int} {j t : Nat} (s : SpIn G hs met k a h j) (ht : (G.nx a)[j]? = some t) {g : Int} (e : hs[t]? = some g) (hg : 0 ≤ g) (hne : g ≠ h - G.tk a + G.pt a) : ¬ Ok G := by
  intro ok
  obtain ⟨r, _⟩ := s.rch hw
  rcases s.sp.rng _ _ e with e1 | ⟨_, _, r', _⟩
  · omega
  · exact hne (ok.2 _ _ _ r' (Rch.step r (List.mem_of_getElem? ht)))
theorem SpIn.same {G : Gr} {hs : List Int} {met : List Nat} {k a : Nat} {h : Int} {j t : Nat} (s : SpIn G hs met k a h j) (ht : (G.nx a)[j]? = some t) (e : hs[t]? = some (h - G.tk a + G.pt a)) : SpIn G hs met k a h (j + 1) :=
  ⟨s.sp, s.is, s.at_, s.fit, s.most, fun q hq => by
    rw [List.take_add_one, ht] at hq
    rcases List.mem_append.1 hq with hq | hq
    · exact s.next q hq
    · simp at hq; subst hq; exact e⟩
theorem SpIn.new {G : Gr} (hw : Wf G) {hs : List Int} {met : List Nat} {k a : Nat} {h : Int} {j t : Nat} (s : SpIn G hs met k a h j) (ht : (G.nx a)[j]? = some t) {g : Int} (e : hs[t]? = some g) (hg : g < 0) : SpIn G (hs.set t (h - G.tk a + G.pt a)) (met ++ [t]) k a h (j + 1) := by
  have hlt : t < hs.length := (List.getElem?_eq_some_iff.1 e).1
  have gs := fun i => get_set (l := hs) (t := t) (j := i) (v := h - G.tk a + G.pt a) hlt
  obtain ⟨r, h0⟩ := s.rch hw
  have hp0 := hw.pt0 a
  have hfit := s.fit
  have keep : ∀ (i : Nat) (x : Int), hs[i]? = some x → 0 ≤ x → (hs.set t (h - G.tk a + G.pt a))[i]? = some x := fun i x hx h0 => by
    rw [gs]
    split
    · rename_i hi; subst hi; rw [e] at hx; injection hx with hx; omega
    · exact hx
  have hk : k < met.length := (List.getElem?_eq_some_iff.1 s.is).1
  refine ⟨⟨by simpa using s.sp.len, fun b x hx => ?_, fun b hb => ?_, keep _ _ s.sp.zero (by omega), fun p hp => keep _ _ (s.sp.pad p hp) (by omega), fun i b x hi hb hx => ?_, ?_⟩, by rw [List.getElem?_append_left hk]; exact s.is, keep _ _ s.at_ h0, s.fit, s.most, fun q hq => ?_⟩
  · rw [gs] at hx
    split at hx
    · rename_i hi; subst hi; injection hx with hx; subst hx
      exact .inr ⟨by omega, s.most, .step r (List.mem_of_getElem? ht), by simp⟩
    · rcases s.sp.rng _ _ hx with e1 | ⟨e1, e2, r1, m⟩
      · exact .inl e1
      · exact .inr ⟨e1, e2, r1, by simp [m]⟩
  · rcases List.mem_append.1 hb with hb | hb
    · obtain ⟨x, hx, h1⟩ := s.sp.seen b hb
      exact ⟨x, keep _ _ hx h1, h1⟩
    · simp at hb; subst hb; exact ⟨h - G.tk a + G.pt a, by rw [gs]; simp, by omega⟩
  · rw [List.getElem?_append_left (by omega)] at hb
    obtain ⟨y, hy, hy0⟩ := s.sp.seen b (List.mem_of_getElem? hb)
    have hxy := keep _ _ hy hy0
    rw [hx] at hxy
    injection hxy with hxy
    subst hxy
    obtain ⟨d1, d2⟩ := s.sp.done i b x hi hb hy
    exact ⟨d1, fun q hq => keep _ _ (d2 q hq) (by have := hw.pt0 b; omega)⟩
  · have := miss_set e hg (show (0 : Int) ≤ h - G.tk a + G.pt a by omega)
    have := s.sp.size
    simp
    omega
  · rw [List.take_add_one, ht] at hq
    rcases List.mem_append.1 hq with hq | hq
    · exact keep _ _ (s.next q hq) (by omega)
    · simp at hq; subst hq; rw [gs]; simp
theorem SpIn.out {G : Gr} {hs : List Int} {met : List Nat} {k a : Nat} {h : Int} {j : Nat} (s : SpIn G hs met k a h j) (hj : (G.nx a).length ≤ j) : Sp G hs met (k + 1) :=
  ⟨s.sp.len, s.sp.rng, s.sp.seen, s.sp.zero, s.sp.pad, fun i b x hi hb hx => by
    by_cases hik : i < k
    · exact s.sp.done i b x hik hb hx
    · obtain rfl : i = k := by omega
      rw [s.is] at hb
      injection hb with hb
      subst hb
      rw [s.at_] at hx
      injection hx with hx
      subst hx
      exact ⟨s.fit, fun t ht => s.next t (by rw [List.take_of_length_le hj]; exact ht)⟩, s.sp.size⟩

/-! The program's way: a pile of ways. -/
structure Im (G : Gr) (hs : List Int) (ws : List (Nat × Int)) : Prop where
  len : hs.length = G.n
  rng : ∀ a h, hs[a]? = some h → h = -1 ∨ (0 ≤ h ∧ h ≤ 40 ∧ Rch G a h ∧ G.tk a ≤ h ∧ ∀ t, t ∈ G.nx a → hs[t]? = some (h - G.tk a + G.pt a) ∨ (t, h - G.tk a + G.pt a) ∈ ws)
  ways : ∀ t h, (t, h) ∈ ws → 0 ≤ h ∧ h ≤ 41 ∧ Rch G t h
  zero : hs[0]? = some 0 ∨ (0, 0) ∈ ws
  pad : ∀ p, p ∈ G.pads → hs[p]? = some 0 ∨ (p, 0) ∈ ws
  size : 2 * miss hs + ws.length ≤ 2 * G.n + 1 + G.pads.length
theorem Im.start (G : Gr) : Im G (List.replicate G.n (-1)) ((0, 0) :: G.pads.map fun p => (p, 0)) := by
  refine ⟨by simp, fun a h e => ?_, fun t h hm => ?_, .inr (by simp), fun p hp => .inr (by simp [hp]), ?_⟩
  · rw [List.getElem?_replicate] at e
    split at e
    · injection e with e; exact .inl e.symm
    · cases e
  · rcases List.mem_cons.1 hm with e | hm
    · injection e with e1 e2; subst e1; subst e2; exact ⟨by omega, by omega, .zero⟩
    · obtain ⟨p, hp, e⟩ := List.mem_map.1 hm
      injection e with e1 e2; subst e1; subst e2; exact ⟨by omega, by omega, .pad hp⟩
  · have h2 : miss (List.replicate G.n (-1 : Int)) = G.n := by unfold miss; rw [List.countP_replicate]; simp
    rw [h2]; simp; omega
theorem Im.end_ {G : Gr} (hw : Wf G) {hs : List Int} (s : Im G hs []) : IsH G hs := by
  have cl : ∀ a h, Rch G a h → hs[a]? = some h ∧ 0 ≤ h ∧ h ≤ 40 ∧ G.tk a ≤ h ∧ ∀ t, t ∈ G.nx a → hs[t]? = some (h - G.tk a + G.pt a) := by
    have one : ∀ a h, hs[a]? = some h → 0 ≤ h → hs[a]? = some h ∧ 0 ≤ h ∧ h ≤ 40 ∧ G.tk a ≤ h ∧ ∀ t, t ∈ G.nx a → hs[t]? = some (h - G.tk a + G.pt a) := by
      intro a h e h0
      rcases s.rng _ _ e with e1 | ⟨_, h1, _, hm, hn⟩
      · omega
      · exact ⟨e, h0, h1, hm, fun t ht => (hn t ht).resolve_right (by simp)⟩
    intro a h r
    induction r with
    | zero => exact one _ _ (s.zero.resolve_right (by simp)) (by omega)
    | pad hp => exact one _ _ ((s.pad _ hp).resolve_right (by simp)) (by omega)
    | step r' ht ih =>
      rename_i a h t
      exact one _ _ (ih.2.2.2.2 _ ht) (by have := hw.pt0 a; have := ih.2.2.2.1; omega)
  refine ⟨s.len, ⟨fun a h r => ⟨(cl a h r).2.2.2.1, (cl a h r).2.2.1⟩, fun a h h' r r' => ?_⟩, fun a h e => ?_⟩
  · have e1 := (cl a h r).1
    rw [(cl a h' r').1] at e1
    injection e1 with e1
    exact e1.symm
  · rcases s.rng a h e with e1 | ⟨h0, _, r, _⟩
    · refine .inr ⟨e1, fun ⟨h', r⟩ => ?_⟩
      have e2 := cl a h' r
      rw [e] at e2
      have := e2.1
      injection this with this
      have := e2.2.1
      omega
    · exact .inl ⟨h0, r⟩
theorem Im.top {G : Gr} (hw : Wf G) {hs : List Int} {ws : List (Nat × Int)} {t : Nat} {h : Int} (s : Im G hs (ws ++ [(t, h)])) : 0 ≤ h ∧ h ≤ 41 ∧ Rch G t h ∧ t < G.n ∧ ∃ g, hs[t]? = some g ∧ -1 ≤ g ∧ g ≤ 40 := by
  obtain ⟨h0, h1, r⟩ := s.ways t h (by simp)
  have hlt := r.lt hw
  refine ⟨h0, h1, r, hlt, ?_⟩
  have e := List.getElem?_eq_getElem (l := hs) (i := t) (by rw [s.len]; exact hlt)
  refine ⟨_, e, ?_⟩
  rcases s.rng _ _ e with e1 | ⟨e1, e2, _⟩ <;> omega
theorem Im.again {G : Gr} {hs : List Int} {ws : List (Nat × Int)} {t : Nat} {h : Int} (s : Im G hs (ws ++ [(t, h)])) (e : hs[t]? = some h) : Im G hs ws := by
  have drop : ∀ (q : Nat) (x : Int), hs[q]? = some x ∨ (q, x) ∈ ws ++ [(t, h)] → hs[q]? = some x ∨ (q, x) ∈ ws := fun q x hq => by
    rcases hq with hq | hq
    · exact .inl hq
    · rcases List.mem_append.1 hq with hq | hq
      · exact .inr hq
      · simp at hq; obtain ⟨rfl, rfl⟩ := hq; exact .inl e
  refine ⟨s.len, fun a x hx => ?_, fun q x hq => s.ways q x (by simp [hq]), drop _ _ s.zero, fun p hp => drop _ _ (s.pad p hp), by have := s.size; simp at this; omega⟩
  rcases s.rng a x hx with e1 | ⟨e1, e2, e3, e4, e5⟩
  · exact .inl e1
  · exact .inr ⟨e1, e2, e3, e4, fun q hq => drop _ _ (e5 q hq)⟩
theorem Im.bad {G : Gr} (hw : Wf G) {hs : List Int} {ws : List (Nat × Int)} {t : Nat} {h g : Int} (s : Im G hs (ws ++ [(t, h)])) (e : hs[t]? = some g) (hne : g ≠ h) (hb : g ≠ -1 ∨ 40 < h ∨ h < G.tk t) : ¬ Ok G := by
  intro ok
  obtain ⟨_, _, r, _, _⟩ := s.top hw
  have := ok.1 _ _ r
  rcases hb with hb | hb | hb
  · rcases s.rng _ _ e with e1 | ⟨_, _, r', _⟩
    · exact hb e1
    · exact hne (ok.2 _ _ _ r' r)
  · omega
  · omega
theorem Im.new {G : Gr} (hw : Wf G) {hs : List Int} {ws : List (Nat × Int)} {t : Nat} {h : Int} (s : Im G hs (ws ++ [(t, h)])) (e : hs[t]? = some (-1)) (h40 : h ≤ 40) (ht : G.tk t ≤ h) : Im G (hs.set t h) (ws ++ (G.nx t).map fun q => (q, h - G.tk t + G.pt t)) := by
  obtain ⟨h0, _, r, hlt, _⟩ := s.top hw
  have hl : t < hs.length := by rw [s.len]; exact hlt
  have gs := fun i => get_set (l := hs) (t := t) (j := i) (v := h) hl
  have drop : ∀ (q : Nat) (x : Int), 0 ≤ x → hs[q]? = some x ∨ (q, x) ∈ ws ++ [(t, h)] → (hs.set t h)[q]? = some x ∨ (q, x) ∈ ws ++ (G.nx t).map fun q => (q, h - G.tk t + G.pt t) := fun q x hx hq => by
    rcases hq with hq | hq
    · refine .inl ?_
      rw [gs]
      split
      · rename_i hi; subst hi; rw [e] at hq; injection hq with hq; omega
      · exact hq
    · rcases List.mem_append.1 hq with hq | hq
      · exact .inr (List.mem_append.2 (.inl hq))
      · simp at hq; obtain ⟨rfl, rfl⟩ := hq; exact .inl (by rw [gs]; simp)
  have hp0 := hw.pt0
  refine ⟨by simpa using s.len, fun a x hx => ?_, fun q x hq => ?_, drop _ _ (by omega) s.zero, fun p hp => drop _ _ (by omega) (s.pad p hp), ?_⟩
  · rw [gs] at hx
    split at hx
    · rename_i hi; subst hi; injection hx with hx; subst hx
      exact .inr ⟨h0, h40, r, ht, fun q hq => .inr (List.mem_append.2 (.inr (List.mem_map.2 ⟨q, hq, rfl⟩)))⟩
    · rcases s.rng a x hx with e1 | ⟨e1, e2, e3, e4, e5⟩
      · exact .inl e1
      · exact .inr ⟨e1, e2, e3, e4, fun q hq => drop _ _ (by have := hp0 a; omega) (e5 q hq)⟩
  · rcases List.mem_append.1 hq with hq | hq
    · exact s.ways q x (by simp [hq])
    · obtain ⟨q', hq', e'⟩ := List.mem_map.1 hq
      injection e' with e1 e2; subst e1; subst e2
      have h1 := hp0 t
      have h2 := hw.tk0 t
      have h3 : G.pt t ≤ 1 := by rcases hw.on t hlt with e1 | ⟨e1, _⟩ <;> omega
      exact ⟨by omega, by omega, .step r hq'⟩
  · have h1 := miss_set e (by decide) h0
    have h2 := s.size
    have h3 := hw.two t
    simp at h2 ⊢
    omega

end Go.Proofs.YtcpjddkhclaafaaDoor.Ht

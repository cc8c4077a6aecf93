/-
  Texts joined: SitI Rec Sit6 LowM.
-/
import Derived.Test.YtpmpjiigmjnniaaGreatJPEq4
import Derived.Test.YtpmpjiigmjnniaaGreatJSpP
import Derived.Test.YtpmpjiigmjnniaaGreatJLow1
import Derived.Test.YtpmpjiigmjnniaaGreatJSpO
import Derived.Laws.AppendOwnNone
/-
  The program's SitesOf: its contract.
-/
namespace Go.Proofs.YtpmpjiigmjnniaaGreat
open Go.RowKit Go.Shelf Exs
attribute [local go_sem] Oper.semAt_some

def siteAns (f : Fc) : List Int × Bool := if aloneB f then (sitesL f, true) else ([], false)
theorem siteAns_len (f : Fc) : (siteAns f).1.length ≤ 1048576 := by
  unfold siteAns
  split
  · rename_i h
    have := (alone_head h).1
    have := sitesFrom_length f.stmts 0
    simp only [sitesL]; omega
  · simp

set_option maxHeartbeats 2000000 in
set_option maxRecDepth 100000 in
theorem sitesIn_any (f : Fc) (A1 : Option Addr) (n1 c1 : Nat) (A2 : Option Addr) (n2 c2 : Nat) (w : World) (hf : IsFc w w.heap.size f A1 n1 A2 n2) (hsm : SmallF f) (hgo : go f f.stmts.length f.body false 0 = some f.stmts.length) :
    Calls Tryz.prog 48 #[fcV f A1 n1 c1 A2 n2 c2] w fun e w' => ∃ v, e = .returned v ∧ Nums w' w.heap.size 3 .i64 v (sitesL f) ∧ Below w.heap.size w w' := by
  have b1 : Below w.heap.size w (w.alloc (.cells #[.int .i64 f.params, .int .i64 f.vars, .slice A1 n1 c1, .slice A2 n2 c2] 59)) := (Below.refl _ _).alloc (Nat.le_refl _) _
  have k1 := Keep.new w #[.int .i64 f.params, .int .i64 f.vars, .slice A1 n1 c1, .slice A2 n2 c2] 59
  have HGO := put hgo
  clear hgo
  have hs1 : (w.alloc (.cells #[.int .i64 f.params, .int .i64 f.vars, .slice A1 n1 c1, .slice A2 n2 c2] 59)).heap.size = w.heap.size + 1 := by simp
  unfold fcV
  refine (callsIn_wide (n := 5)).1 ?_
  refine callsIn_of_wp_marks Tryz.func48 rfl trivial ?_ rfl
  simp only [Tryz.ntmps48, List.size_toArray, List.length_cons, List.length_nil, Nat.reduceAdd, Nat.reduceSub, Array.replicate_succ, Array.replicate_zero, List.push_toArray, List.append_toArray, List.nil_append, List.cons_append]
  have hkl : w.heap.size < w.heap.size + 1 := Nat.lt_succ_self _
  have hk1 := (k1.alloc (.cells #[.slice none 0 0] 26)).alloc (.cells #[.int .i64 f.params, .int .i64 f.vars, .slice A1 n1 c1, .slice A2 n2 c2] 59)
  have hkO := (Keep.new (w.alloc (.cells #[.int .i64 f.params, .int .i64 f.vars, .slice A1 n1 c1, .slice A2 n2 c2] 59)) #[.slice none 0 0] 26).alloc (.cells #[.int .i64 f.params, .int .i64 f.vars, .slice A1 n1 c1, .slice A2 n2 c2] 59)
  have hkB := Keep.new ((w.alloc (.cells #[.int .i64 f.params, .int .i64 f.vars, .slice A1 n1 c1, .slice A2 n2 c2] 59)).alloc (.cells #[.slice none 0 0] 26)) #[.int .i64 f.params, .int .i64 f.vars, .slice A1 n1 c1, .slice A2 n2 c2] 59
  have hb0 : Below w.heap.size w (((w.alloc (.cells #[.int .i64 f.params, .int .i64 f.vars, .slice A1 n1 c1, .slice A2 n2 c2] 59)).alloc (.cells #[.slice none 0 0] 26)).alloc (.cells #[.int .i64 f.params, .int .i64 f.vars, .slice A1 n1 c1, .slice A2 n2 c2] 59)) := (b1.alloc b1.size _).alloc (by simp; omega) _
  have hsz : (((w.alloc (.cells #[.int .i64 f.params, .int .i64 f.vars, .slice A1 n1 c1, .slice A2 n2 c2] 59)).alloc (.cells #[.slice none 0 0] 26)).alloc (.cells #[.int .i64 f.params, .int .i64 f.vars, .slice A1 n1 c1, .slice A2 n2 c2] 59)).heap.size = (w.heap.size + 1) + 2 := by simp
  rw [World.size_alloc, hs1] at hkB
  rw [hs1] at hkO
  gi_wp2_with fail
  refine ⟨trivial, (placesIn_in Fence.wide _ trivial rfl f A1 n1 c1 A2 n2 c2 _).mono ?_⟩
  rintro e w' ⟨rfl, rfl⟩
  gi_wp2
  have hnil : Nums (((w.alloc (.cells #[.int .i64 f.params, .int .i64 f.vars, .slice A1 n1 c1, .slice A2 n2 c2] 59)).alloc (.cells #[.slice none 0 0] 26)).alloc (.cells #[.int .i64 f.params, .int .i64 f.vars, .slice A1 n1 c1, .slice A2 n2 c2] 59)) (((w.alloc (.cells #[.int .i64 f.params, .int .i64 f.vars, .slice A1 n1 c1, .slice A2 n2 c2] 59)).alloc (.cells #[.slice none 0 0] 26)).alloc (.cells #[.int .i64 f.params, .int .i64 f.vars, .slice A1 n1 c1, .slice A2 n2 c2] 59)).heap.size 3 .i64 (.slice none 0 0) (sitesFrom 0 (f.stmts.take 0)) := Nums.nil _ _ _ _
  generalize ((w.alloc (.cells #[.int .i64 f.params, .int .i64 f.vars, .slice A1 n1 c1, .slice A2 n2 c2] 59)).alloc (.cells #[.slice none 0 0] 26)).alloc (.cells #[.int .i64 f.params, .int .i64 f.vars, .slice A1 n1 c1, .slice A2 n2 c2] 59) = W0 at hk1 hkO hkB hb0 hsz hnil ⊢
  have hlen := hf.stmts.1
  refine range_steps (Adm := fun k (x : Int × Bool) => okAt f k x.1 x.2 = true ∨ False) (next := stepTo f) (s0 := 0) (res := go f f.stmts.length f.body false 0) (Qw := fun W => (w.heap.size + 1) < W.heap.size ∧ ∀ g n c, W.cell? ⟨(w.heap.size + 1), 0, none⟩ = some (.slice (some ⟨g, 0, none⟩) n c) → g < W.heap.size) (Kp := KeepsBut w.heap.size (MineC w.heap.size (W0.heap.size + 2) (w.heap.size + 1))) rfl (by omega) (gf := 85) (lb := #[.pointer (some ⟨(w.heap.size + 1) + 1, 0, none⟩)]) rfl trivial (enters_of Tryz.func85 (by kernel_rfl) rfl)
    (fun h k => h.trans k) ?hKb
    (places_steps Fence.wide rfl _ trivial trivial rfl ((w.heap.size + 1) + 1) w.heap.size _ _ f A1 n1 c1 A2 n2 c2 False W0 (fun W o g _ h => MineC.alloc W o g h) ?hMf hb0.size hsm hkB (hf.below hb0) (fun h => by rw [HGO.out] at h; cases h)) (fun _ => rfl)
    (fun k W => Keep W w.heap.size #[.int .i64 f.params, .int .i64 f.vars, .slice A1 n1 c1, .slice A2 n2 c2] 59 ∧ (∃ v, Keep W (w.heap.size + 1) #[v] 26 ∧ Nums W W0.heap.size 3 .i64 v (sitesFrom 0 (f.stmts.take k))) ∧ W0.heap.size ≤ W.heap.size ∧ k ≤ f.stmts.length ∧ Below w.heap.size w W)
    (fun _ => True)
    ?hI (fun _ _ _ _ _ _ _ => trivial) ⟨hk1, ⟨_, hkO, hnil⟩, Nat.le_refl _, Nat.zero_le _, hb0⟩ ?hQ (fun x => { tmps := #[Value.agg #[.int .i64 f.params, .int .i64 f.vars, .slice A1 n1 c1, .slice A2 n2 c2], .pointer (some ⟨w.heap.size, 0, none⟩), .slice none 0 0, .pointer (some ⟨w.heap.size + 1, 0, none⟩), .int .i64 x.1, .agg #[.int .i64 f.params, .int .i64 f.vars, .slice A1 n1 c1, .slice A2 n2 c2], .func (.func 85) #[] #[.pointer (some ⟨w.heap.size + 1 + 1, 0, none⟩)], .int .i64 x.1, .bool x.2, undef, undef, undef, undef, undef, undef, undef, undef, undef, undef, undef, undef], defers := [] }) ?assign ?body ?done ?stop
  case hKb =>
    intro W o o' hl ho
    refine ⟨(Below.refl _ W).grown (grownBy_putObj' W _ o') (by have := (Array.getElem?_eq_some_iff.1 hl).1; omega) (fun k e => by cases e; omega), fun g _ hm => ⟨World.putObj_heap_other (fun e => hm (.inl (by omega))), MineC.putObj W _ o' g (by omega) hm⟩⟩
  case hMf =>
    rintro W o h ⟨hq1, hq2⟩ (h' | h' | ⟨n, c, h'⟩)
    · omega
    · simp at h'; omega
    · rw [show (W.alloc o).cell? ⟨(w.heap.size + 1), 0, none⟩ = W.cell? ⟨(w.heap.size + 1), 0, none⟩ from World.cell?_of_block (w := W) (Below.heap_alloc _ _ _ hq1)] at h'
      have := hq2 _ _ _ h'
      omega
  case hQ =>
    rintro k W ⟨h1, ⟨v, h2, h3⟩, hW0s, h4, h5⟩
    refine ⟨h2.lt, fun g n c hc => ?_⟩
    rw [h2.cell 0] at hc
    simp at hc
    subst hc
    exact (World.ownsRow.lt h3 g rfl).2
  case hI =>
    rintro k W W' row ⟨h1, ⟨v, h2, h3⟩, hW0s, h4, h5⟩ hg hr
    exact ⟨h1.own hg hr, ⟨v, h2.own hg hr, h3.grownOther hg hr⟩, Nat.le_trans hW0s hg.size, h4, h5.grown hg h5.size (fun k e => by have := (hr k e).1; omega)⟩
  case assign =>
    intro l x W K hK
    gi_wp2
    exact hK
  case body =>
    rintro l k ⟨x, b⟩ W ⟨h1, ⟨v, h2, h3⟩, hW0s, h4, h5⟩ hadm
    have hok : okAt f k x b = true := by rcases hadm with h | h; exact h; exact h.elim
    have HS := put (show stepTo f k (x, b) = some (k + 1) by simp [stepTo, hok])
    obtain ⟨hx, s, hs, hbk⟩ := okAt_some hok
    have hkl2 := (List.getElem?_eq_some_iff.1 hs).1
    subst hx
    have yO := h2.cell 0
    have fO := h2.frozen 0
    simp at yO
    have y3 := h1.cell 3
    simp at y3
    obtain ⟨b2, off2, s', B1, m1, d1, B2, m2, d2, B3, m3, d3, hA2, hbb2, g0, g1, g2, g3, g4, r1, r2, r3, hx2⟩ := (hf.below h5).stmts.at_ (j := k) (by omega)
    obtain rfl : s = s' := by have := hx2.out; rw [hs] at this; injection this
    subst hA2
    have hlk : (f.stmts.take k).length = k := by rw [List.length_take]; omega
    have hnext := put (show sitesFrom 0 (f.stmts.take (k + 1)) = sitesFrom 0 (f.stmts.take k) ++ (if s.kind = 3 then [(k : Int)] else []) by rw [takeA_more hs, sitesFrom_snoc, hlk, Nat.zero_add])
    have hrl := put (show (sitesFrom 0 (f.stmts.take k)).length ≤ k by have := sitesFrom_length (f.stmts.take k) 0; omega)
    have hsl := put hsm.2.1
    have hkn : k < n2 := by omega
    have HBK := put hbk
    clear hok hadm hlk r1 r2 r3 g1 g2 g3 g4 hbk hx2
    generalize sitesFrom 0 (f.stmts.take k) = xs at h3 hnext hrl
    obtain ⟨i0, hi, hz0, hz1, hz2⟩ := info_parts Tryz.info3
    by_cases hk3 : s.kind = 3
    · rw [if_pos hk3] at hnext
      rw [hk3] at g0
      clear hk3
      gi_wp2_with (gi_at_builtin; refine wpListIn_append_own_at _ rfl _ _ 26 rfl W0.heap.size 3 i0 (.int .i64 0) 1 8 Tryz.underlying26 hi hz0 hz1 hz2 rfl (by decide) v xs.length _ rfl (Nums.alloc h3 _) ⟨W.heap.size, 0, none⟩ 1 1 [.int .i64 (k : Int)] rfl rfl (cell_one_new _ _ _) (by simp [Value.oneCell']) (by have := hrl.out; have := hsl.out; unfold maxLen; omega) (by have := hrl.out; have := hsl.out; omega) (by simp; omega) ?_; intro v' w3 hown' hgrow _ hat; have hn' : Nums w3 W0.heap.size 3 .i64 v' (xs ++ [(k : Int)]) := (by unfold Nums; simpa using hown'); obtain ⟨q1, q2, q3, q4, q5, q6, q7⟩ := collect_step (hi := W0.heap.size + 2) h5 h2 h3 (Nat.le_of_lt hkl) (by omega) (by omega) hn' hgrow (by simpa using hat); obtain ⟨A', m', c', hv'⟩ : ∃ A' m' c', v' = .slice A' m' c' := (by obtain ⟨A, c, h, _⟩ := hn'.reads; exact ⟨A, _, c, h⟩); subst hv'; have yO3 := q1.cell 0; have fO3 := q1.frozen 0; simp at yO3; clear hown' hgrow hat hn')
      exact ⟨k + 1, HS.out, q2, q3, q7 _ _ _ (by omega) (by omega) h1, ⟨_, q4, by rw [hnext.out]; exact q5⟩, Nat.le_trans hW0s q3.1.size, hkl2, q6⟩
    · rw [if_neg hk3, List.append_nil] at hnext
      have hk3' := beq_of hk3
      gi_wp2
      exact ⟨k + 1, HS.out, KeepsOthers.refl _, ⟨Below.refl _ _, fun g _ hm => ⟨rfl, hm⟩⟩, h1, ⟨_, h2, by rw [hnext.out]; exact h3⟩, hW0s, hkl2, h5⟩
  case done =>
    rintro D k W hD hres ⟨h1, ⟨v, h2, h3⟩, hW0s, h4, h5⟩ hK
    have hkk : f.stmts.length = k := by rw [HGO.out] at hres; injection hres
    subst hkk
    rw [List.take_length] at h3
    have yO := h2.cell 0
    simp at yO
    clear hres
    gi_wp2
    refine ⟨by simp, .inl ⟨_, _, rfl, run_takeDeferred hK, ?_⟩⟩
    exact ⟨v, by simp [results, Tryz.results48, go_sem], v, rfl, (h3.grownOther (grownBy_putObj' W D _) (fun r e => ⟨Nat.zero_le _, by cases e; exact ⟨_, hK, rfl⟩⟩)).more hb0.size, h5.trans (belowK_b (w := w) (Nat.le_refl _) _ D _ _ (by omega) hK rfl rfl)⟩
  case stop =>
    rintro D W hD hres _ hK
    rw [HGO.out] at hres
    cases hres


end Go.Proofs.YtpmpjiigmjnniaaGreat

/-
  MayRecover on both sides: contracts.
-/
namespace Go.Proofs.YtpmpjiigmjnniaaGreat
open Go.RowKit Exs

def tokR (t : Token) : Bool := decide (t.1 = 10)
def stR (s : St) : Bool := s.ex.any tokR
def recB (f : Fc) : Bool := f.stmts.any stR
def hasF (fs : List Fc) (fn : Int) : Bool := decide (0 ≤ fn ∧ fn < fs.length) && progB fs
def recAns (fs : List Fc) (fn : Int) : Bool × Bool := if hasF fs fn then (match fs[fn.toNat]? with | some f => recB f | none => false, true) else (false, false)
theorem any_none {α : Type} {p : α → Bool} {xs : List α} {k : Nat} {x : α} (h : xs[k]? = some x) (ha : (xs.take k).any p = false) (hx : p x = false) : (xs.take (k + 1)).any p = false := by
  rw [takeA_more h]; simp [List.any_append, ha, hx]
theorem any_yes {α : Type} {p : α → Bool} {xs : List α} {k : Nat} {x : α} (h : xs[k]? = some x) (hx : p x = true) : xs.any p = true := by
  rw [List.any_eq_true]; exact ⟨x, mem_of_at h, hx⟩
theorem retB2 {a a' b b' : Bool} (h : (a, b) = (a', b')) : Ending.returned (.tuple #[.bool a, .bool b]) = .returned (.tuple #[.bool a', .bool b']) := by cases h; rfl

set_option maxHeartbeats 1000000 in
theorem hasFunc_any (A : Option Addr) (n c : Nat) (fs : List Fc) (fn : Int) (w : World) (hr : ReadsF w w.heap.size A n fs) (hs : SmallP fs) :
    Calls Tryz.prog 24 #[.agg #[.slice A n c], .int .i64 fn] w fun e w' => e = .returned (.bool (hasF fs fn)) ∧ Below w.heap.size w w' := by
  have hl := hr.1
  have hb0 : Below w.heap.size w (w.alloc (.cells #[.slice A n c] 35)) := (Below.refl _ _).alloc (Nat.le_refl _) _
  rcases (show fn < 0 ∨ (0 ≤ fn ∧ (n : Int) ≤ fn) ∨ (0 ≤ fn ∧ fn < (n : Int)) by omega) with h | ⟨h0, h1⟩ | ⟨h0, h1⟩
  · have hf := put (show hasF fs fn = false by unfold hasF; rw [hl]; simp; omega)
    clear hl
    go_enter Tryz.func24, Tryz.ntmps24
    go_wp2
    go_ret
    exact ⟨ret_bool hf.out.symm, hb0⟩
  · have hf := put (show hasF fs fn = false by unfold hasF; rw [hl]; simp; omega)
    clear hl
    go_enter Tryz.func24, Tryz.ntmps24
    go_wp2
    go_ret
    exact ⟨ret_bool hf.out.symm, hb0⟩
  · have hf := put (show hasF fs fn = progB fs by unfold hasF; rw [hl]; simp [h0, h1])
    clear hl
    go_enter Tryz.func24, Tryz.ntmps24
    go_wp2_with fail
    refine (goodProg_any A n c fs _ (hr.now hb0) hs).mono ?_
    rintro e w1 ⟨rfl, hb1⟩
    go_wp2
    go_ret
    exact ⟨ret_bool hf.out.symm, hb0.trans (hb1.mono hb0.size)⟩

end Go.Proofs.YtpmpjiigmjnniaaGreat

/-
  The number of a statement's site: both sides.
-/
namespace Go.Proofs.YtpmpjiigmjnniaaGreat
open Go.RowKit Exs

/-- The first place of a number in a list, -1 where it is not in it. -/
def ixOf : List Int → Int → Int
  | [], _ => -1
  | y :: r, x => if y = x then 0 else if ixOf r x < 0 then -1 else ixOf r x + 1
theorem ixOf_at : ∀ {l : List Int} {k : Nat} {x : Int}, (∀ y ∈ l.take k, y ≠ x) → l[k]? = some x → ixOf l x = (k : Int)
  | [], _, _, _, h => by simp at h
  | y :: r, 0, x, _, h => by simp at h; simp [ixOf, h]
  | y :: r, k + 1, x, hn, h => by
    have h1 := ixOf_at (l := r) (k := k) (x := x) (fun z hz => hn z (by simp [hz])) (by simpa using h)
    have h2 : y ≠ x := hn y (by simp)
    unfold ixOf
    rw [if_neg h2, h1, if_neg (by omega)]
    omega
theorem ixOf_no : ∀ {l : List Int} {x : Int}, (∀ y ∈ l, y ≠ x) → ixOf l x = -1
  | [], _, _ => rfl
  | y :: r, x, hn => by
    have h1 := ixOf_no (l := r) (x := x) (fun z hz => hn z (by simp [hz]))
    unfold ixOf
    rw [if_neg (hn y (by simp)), h1]
    rfl
theorem ixOf_bounds : ∀ (l : List Int) (x : Int), -1 ≤ ixOf l x ∧ ixOf l x < l.length ∨ ixOf l x = -1
  | [], _ => .inr rfl
  | y :: r, x => by
    have h1 := ixOf_bounds r x
    unfold ixOf
    split
    · left; constructor <;> simp <;> omega
    · split
      · exact .inr rfl
      · left; simp only [List.length_cons]; omega
theorem no_more {l : List Int} {k : Nat} {x y : Int} (h : ∀ z ∈ l.take k, z ≠ x) (hk : l[k]? = some y) (hy : y ≠ x) : ∀ z ∈ l.take (k + 1), z ≠ x := fun z hz => by
  rw [takeA_more hk] at hz
  rcases List.mem_append.1 hz with hz | hz
  · exact h z hz
  · simp at hz; subst hz; exact hy

set_option maxHeartbeats 1000000 in
set_option maxRecDepth 100000 in
theorem index_any (A : Option Addr) (n c : Nat) (l : List Int) (x : Int) (w : World) (hr : Reads w w.heap.size .i64 A n l) (hn : n ≤ 1048576) :
    Calls Tryz.prog 89 #[.slice A n c, .int .i64 x] w fun e w' => e = .returned (.int .i64 (ixOf l x)) ∧ w = w' := by
  have HL := put hr.1
  go_enter Tryz.func89, Tryz.ntmps89
  go_wp2
  go_loopw [8] (fun i wr => ∃ k : Nat, k ≤ n ∧ i = .int .i64 k ∧ Hid (∀ y ∈ l.take k, y ≠ x) ∧ wr = w) (fun i _ => n - (intOf i).toNat)
  case atStart => exact ⟨0, Nat.zero_le _, rfl, put (fun t h => by simp at h), rfl⟩
  case round =>
    obtain ⟨k, hk, rfl, hall, rfl⟩ := hrel
    by_cases hlt : k < n
    · obtain ⟨b, off, y, rfl, hb', hc1, hyt⟩ := hr.at_ hlt
      by_cases hy : y = x
      · subst hy
        have HA := put (ixOf_at hall.out hyt.out)
        go_wp2
        go_ret
        exact ⟨ret_int HA.out.symm, rfl⟩
      · have H2 := put (no_more hall.out hyt.out hy)
        have hy1 := beq_of hy
        have hy2 := beq_of (Ne.symm hy)
        clear hy
        go_wp2
        go_roundw
        case rel => exact ⟨k + 1, by omega, by go_num, H2, trivial⟩
        case measure => simp [intOf]; omega
    · have hfin := put (show l.take k = l from List.take_of_length_le (by have := HL.out; omega))
      have HA := put (ixOf_no (l := l) (x := x) (by have := hall.out; rwa [hfin.out] at this))
      go_wp2
      go_ret
      exact ⟨ret_int HA.out.symm, rfl⟩

set_option maxHeartbeats 1000000 in
set_option maxRecDepth 100000 in
theorem l6Site_any (f : Fc) (A1 : Option Addr) (n1 c1 : Nat) (A2 : Option Addr) (n2 c2 : Nat) (x : Int) (w : World) (hf : IsFc w w.heap.size f A1 n1 A2 n2) (hn : n2 ≤ 1000000) :
    Calls Tryz.prog 83 #[fcV f A1 n1 c1 A2 n2 c2, .int .i64 x] w fun e w' => e = .returned (.int .i64 (ixOf (sitesL f) x)) ∧ Below w.heap.size w w' := by
  have hb0 : Below w.heap.size w (w.alloc (.cells #[.int .i64 f.params, .int .i64 f.vars, .slice A1 n1 c1, .slice A2 n2 c2] 59)) := (Below.refl _ _).alloc (Nat.le_refl _) _
  have HL := put (show (sitesL f).length ≤ 1000000 by have := sitesFrom_length f.stmts 0; have := hf.stmts.1; unfold sitesL; omega)
  have H1 := put (l3Sites_any f A1 n1 c1 A2 n2 c2 _ (hf.now hb0) hn)
  unfold fcV at H1 ⊢
  clear hf
  generalize sitesL f = l at H1 HL ⊢
  go_enter Tryz.func83, Tryz.ntmps83
  go_wp2_with fail
  refine H1.out.mono ?_
  rintro e w1 ⟨v, rfl, nu, hb1⟩
  have b1 : Below w.heap.size w w1 := hb0.trans (hb1.mono hb0.size)
  obtain ⟨A, c, rfl, hr⟩ := nu.reads
  obtain ⟨n, hn0⟩ : ∃ n, l.length = n := ⟨_, rfl⟩
  rw [hn0] at hr ⊢
  have HN := put hn0
  have hn1 : n ≤ 1000000 := by have := HL.out; omega
  clear nu H1 hb0 hb1 hn0
  go_wp2
  go_loopw [10] (fun i wr => ∃ k : Nat, k ≤ n ∧ i = .int .i64 k ∧ Hid (∀ y ∈ l.take k, y ≠ x) ∧ wr = w1) (fun i _ => n - (intOf i).toNat)
  case atStart => exact ⟨0, Nat.zero_le _, rfl, put (fun t h => by simp at h), rfl⟩
  case round =>
    obtain ⟨k, hk, rfl, hall, rfl⟩ := hrel
    by_cases hlt : k < n
    · obtain ⟨b, off, y, rfl, hb', hc1, hyt⟩ := hr.at_ hlt
      by_cases hy : y = x
      · subst hy
        have HA := put (ixOf_at hall.out hyt.out)
        go_wp2
        go_ret
        exact ⟨ret_int HA.out.symm, b1⟩
      · have H2 := put (no_more hall.out hyt.out hy)
        have hy1 := beq_of hy
        clear hy
        go_wp2
        go_roundw
        case rel => exact ⟨k + 1, by omega, by go_num, H2, trivial⟩
        case measure => simp [intOf]; omega
    · have hfin := put (show l.take k = l from List.take_of_length_le (by have := HN.out; omega))
      have HA := put (ixOf_no (l := l) (x := x) (by have := hall.out; rwa [hfin.out] at this))
      go_wp2
      go_ret
      exact ⟨ret_int HA.out.symm, b1⟩

theorem prog_go {fs : List Fc} (h : progB fs = true) {f : Fc} (hf : f ∈ fs) : go f f.stmts.length f.body false 0 = some f.stmts.length := by
  simp only [progB, Bool.and_eq_true, decide_eq_true_eq, List.all_eq_true] at h
  have hb := h.2 f hf
  simp only [funcB, shapeB, Bool.and_eq_true] at hb
  have h2 := hb.1.2
  unfold placesB at h2
  simpa using h2
theorem prog_stmts {fs : List Fc} (h : progB fs = true) {f : Fc} (hf : f ∈ fs) : f.stmts.length ≤ 16 := by
  simp only [progB, Bool.and_eq_true, decide_eq_true_eq, List.all_eq_true] at h
  have hb := h.2 f hf
  simp only [funcB, shapeB, headB, Bool.and_eq_true, decide_eq_true_eq] at hb
  omega

def soAns (fs : List Fc) (k st : Int) : Int × Bool := if hasF fs k then (match fs[k.toNat]? with | some f => if ixOf (sitesL f) st < 0 then (0, false) else (ixOf (sitesL f) st, true) | none => (0, false)) else (0, false)
theorem soAns_no {fs : List Fc} {k st : Int} (h : hasF fs k = false) : soAns fs k st = (0, false) := by simp [soAns, h]
theorem soAns_at {fs : List Fc} {q : Nat} {st : Int} {f : Fc} (h : hasF fs (q : Int) = true) (hf : fs[q]? = some f) : soAns fs (q : Int) st = if ixOf (sitesL f) st < 0 then (0, false) else (ixOf (sitesL f) st, true) := by
  unfold soAns
  rw [if_pos h, Int.toNat_natCast, hf]

end Go.Proofs.YtpmpjiigmjnniaaGreat

/-
  The code of a block, as plain mathematics; a row of instructions appended to another.
-/
namespace Go.Proofs.YtpmpjiigmjnniaaGreat
open Go.RowKit Exs

/-- The code of one statement, given that of blocks. -/
def stmtL (f : Fc) (rec : List Int → Int → List Token) (s : St) (n at_ : Int) : List Token :=
  if s.kind = 1 then lowE s.ex ++ [(3, s.n)] else if s.kind = 2 then lowE s.ex ++ [(8, 0)] else if s.kind = 9 then lowE s.ex ++ [(9, 0)] else if s.kind = 4 then lowE s.ex ++ [(13, 0)] else
  if s.kind = 5 then lowE s.ex ++ [(15, 0), (16, 0)] else if s.kind = 6 then [(14, 0)] else if s.kind = 3 then [(12, ixOf (sitesL f) n)] else
  if s.kind = 8 then
    lowE s.ex ++ [(11, at_ + s.ex.length + 1 + (rec s.th (at_ + s.ex.length + 1)).length + 1)] ++ rec s.th (at_ + s.ex.length + 1) ++ [(10, at_)]
  else
    lowE s.ex ++ [(11, at_ + s.ex.length + 1 + (rec s.th (at_ + s.ex.length + 1)).length + 1)] ++ rec s.th (at_ + s.ex.length + 1) ++
      [(10, at_ + s.ex.length + 1 + (rec s.th (at_ + s.ex.length + 1)).length + 1 + (rec s.el (at_ + s.ex.length + 1 + (rec s.th (at_ + s.ex.length + 1)).length + 1)).length)] ++ rec s.el (at_ + s.ex.length + 1 + (rec s.th (at_ + s.ex.length + 1)).length + 1)
def lowB (st : Int → Int → List Token) : List Int → Int → List Token
  | [], _ => []
  | n :: r, a => st n a ++ lowB st r (a + (st n a).length)
/-- The code of a statement that begins at a place, with fuel for its blocks. -/
def lowSt (f : Fc) : Nat → Int → Int → List Token
  | 0, _, _ => []
  | g + 1, n, a => match f.stmts[n.toNat]? with | some s => stmtL f (lowB (lowSt f g)) s n a | none => []
theorem lowSt_at {f : Fc} {g : Nat} {q : Nat} {a : Int} {s : St} (hs : f.stmts[q]? = some s) : lowSt f (g + 1) (q : Int) a = stmtL f (lowB (lowSt f g)) s q a := by simp [lowSt, hs]
theorem lowB_snoc (st : Int → Int → List Token) (n : Int) : ∀ (l : List Int) (a : Int), lowB st (l ++ [n]) a = lowB st l a ++ st n (a + (lowB st l a).length)
  | [], a => by simp [lowB]
  | m :: r, a => by
    simp only [List.cons_append, lowB, lowB_snoc st n r]
    rw [List.append_assoc, List.length_append]
    congr 3
    omega
theorem lowB_append (st : Int → Int → List Token) : ∀ (l m : List Int) (a : Int), ∃ b, lowB st (l ++ m) a = lowB st l a ++ lowB st m b
  | [], m, a => ⟨a, rfl⟩
  | n :: r, m, a => by
    obtain ⟨b, hb⟩ := lowB_append st r m (a + (st n a).length)
    exact ⟨b, by simp only [List.cons_append, lowB, hb, List.append_assoc]⟩
/-- No statement's expression is longer than twelve. -/
def Ex12 (f : Fc) : Prop := ∀ (j : Nat) (s : St), f.stmts[j]? = some s → s.ex.length ≤ 12
theorem stmtL_len {f : Fc} {rec : List Int → Int → List Token} {s : St} {n a : Int} {p q : Nat} (he : s.ex.length ≤ 12) (h1 : ∀ b, (rec s.th b).length ≤ p) (h2 : ∀ b, (rec s.el b).length ≤ q) : (stmtL f rec s n a).length ≤ 14 + p + q := by
  have hl := lowE_length s.ex
  unfold stmtL
  split
  · simp; omega
  split
  · simp; omega
  split
  · simp; omega
  split
  · simp; omega
  split
  · simp; omega
  split
  · simp; omega
  split
  · simp; omega
  split
  · have := h1 (a + s.ex.length + 1)
    simp; omega
  · have := h1 (a + s.ex.length + 1)
    have := h2 (a + s.ex.length + 1 + (rec s.th (a + s.ex.length + 1)).length + 1)
    simp; omega
theorem lowB_len {f : Fc} (he : Ex12 f) : ∀ (g : Nat) (l : List Int) (a : Int), (∀ n ∈ l, 0 ≤ n ∧ n < f.stmts.length) → Nest f → (lowB (lowSt f g) l a).length ≤ 14 * (ord f g l).length
  | 0, [], _, _, _ => by simp [lowB]
  | 0, n :: r, a, h, hn => by
    have := lowB_len he 0 r (a + (lowSt f 0 n a).length) (fun m hm => h m (by simp [hm])) hn
    have h0 : ord f 0 r = [] := by cases r <;> (unfold ord; rfl)
    have h1 : ord f 0 (n :: r) = [] := by unfold ord; rfl
    rw [h0] at this
    simp [lowB, lowSt, h1] at this ⊢
    exact this
  | g + 1, [], _, _, _ => by simp [lowB]
  | g + 1, n :: r, a, h, hn => by
    have hin := h n (by simp)
    obtain ⟨q, rfl⟩ : ∃ q : Nat, n = q := ⟨n.toNat, by omega⟩
    obtain ⟨s, hs⟩ := at_of_range (f := f) (n := (q : Int)) (by omega) hin.2
    have hs' : f.stmts[q]? = some s := by simpa using hs
    rw [ord_cons hs]
    have hnest := hn q s hs'
    have h1 : ∀ b, (lowB (lowSt f g) s.th b).length ≤ 14 * (ord f g s.th).length := fun b => lowB_len he g s.th b (fun m hm => by have := hnest m (.inl hm); omega) hn
    have h2 : ∀ b, (lowB (lowSt f g) s.el b).length ≤ 14 * (ord f g s.el).length := fun b => lowB_len he g s.el b (fun m hm => by have := hnest m (.inr hm); omega) hn
    have h3 := stmtL_len (f := f) (n := (q : Int)) (a := a) (he q s hs') h1 h2
    have h4 := lowB_len he (g + 1) r (a + (lowSt f (g + 1) q a).length) (fun m hm => h m (by simp [hm])) hn
    simp only [lowB, lowSt_at hs', List.length_append, List.length_cons] at h4 ⊢
    omega
  termination_by g l => (g, l.length)
theorem stmtL_one {f : Fc} {rec : List Int → Int → List Token} {s : St} {n a : Int} {x : Token} (h : (s.kind = 1 ∧ x = (3, s.n)) ∨ (s.kind = 2 ∧ x = (8, 0)) ∨ (s.kind = 9 ∧ x = (9, 0)) ∨ (s.kind = 4 ∧ x = (13, 0))) : stmtL f rec s n a = lowE s.ex ++ [x] := by
  unfold stmtL
  rcases h with ⟨h, rfl⟩ | ⟨h, rfl⟩ | ⟨h, rfl⟩ | ⟨h, rfl⟩ <;> simp [h]

/-- 'append(out, ys...)', ys a row of instructions of the call's own. -/
theorem wpList_append_inss {w : World} {ops : Array Oper} {rest : List Oper} {o : Oper} {a : Act} {Q : Exit → Act → World → Prop} (hgd : o.guard = none) (s x : Operand)
    (ho : o.op = .call { callee := .builtin .append, args := #[s, x], argTypes := #[27, 27] }) (B : Nat) (v : Value) (ts : List Token) (hs : a.eval s = v) (w0 : World) (hbel : Below B w0 w) (hB : B ≤ w.heap.size) (hown : Inss w B v ts)
    (B' : Nat) (u : Value) (us : List Token) (hx : a.eval x = u) (hu : Inss w B' u us) (hlen : ts.length ≤ 1000000) (hlen' : us.length ≤ 1000000)
    (h : ∀ v' w', Inss w' B v' (ts ++ us) → Below B w0 w' → wpList Tryz.prog ops Q rest (a.put o.dst v') w') : wpList Tryz.prog ops Q (o :: rest) a w := by
  obtain ⟨i0, hi, hz0, hz1, hz2⟩ := info_parts Tryz.info83
  rcases hu.2 with ⟨rfl, h0⟩ | ⟨g, cap, cur, rfl, _⟩
  · obtain rfl : us = [] := List.eq_nil_of_length_eq_zero h0
    exact wpList_append_own_none hgd s x 27 ho B 83 i0 2 Tryz.underlying27 hi v ts.length _ hs hown hx (h _ _ (by simpa using hown) hbel)
  · refine wpList_append_own w hgd s x 27 ho B 83 i0 (.agg #[.int .i64 0, .int .i64 0]) 2 16 Tryz.underlying27 hi hz0 hz1 hz2 rfl (by decide) v ts.length _ hs hown ⟨g, 0, none⟩ us.length cap ((flat us).map (Value.int .i64)) hx (by rw [List.length_map, flat_length]; omega) ?_ ?_ ?_ ?_ hB ?_
    · intro j y hj
      have hadd : (⟨g, 0, none⟩ : Addr).add j = ⟨g, j, none⟩ := by unfold Addr.add; split <;> simp_all
      have hjl : j < us.length * 2 := by have := (List.getElem?_eq_some_iff.1 hj).1; rw [List.length_map, flat_length] at this; omega
      rw [hadd, World.ownsRow.cellAt hu j hjl, hj]
    · intro y hy
      obtain ⟨z, _, rfl⟩ := List.mem_map.1 hy
      rfl
    · unfold maxLen; omega
    · omega
    · intro v' w' h1 h2 _
      refine h v' w' ?_ (hbel.grown h2 hB fun j hj => (World.ownsRow.lt hown j hj).1)
      unfold Inss
      have e : flat (ts ++ us) = flat ts ++ flat us := by simp [flat]
      rw [e, List.map_append, List.length_append]
      exact h1

end Go.Proofs.YtpmpjiigmjnniaaGreat

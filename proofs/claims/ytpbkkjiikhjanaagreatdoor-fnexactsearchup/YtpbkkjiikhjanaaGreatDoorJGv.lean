/-
  Texts joined: Gv Wt Up Ww Uw.
-/
import Derived.Test.YtpbkkjiikhjanaaGreatDoorJCda4
import Derived.Test.YtpbkkjiikhjanaaGreatDoorJCoSz
import Derived.Test.YtpbkkjiikhjanaaGreatDoorJKit
/-
  A good machine, in plain words: what a frame must be, and what it must be to the one above it.
-/
namespace Go.Proofs.YtpbkkjiikhjanaaGreatDoor
open Go.RowKit Exs Ht

def allB (xs : List Int) : Bool := xs.all bound
theorem allB_iff (xs : List Int) : allB xs = true ↔ ∀ x ∈ xs, -2147483648 ≤ x ∧ x ≤ 2147483647 := by
  unfold allB
  rw [List.all_eq_true]
  exact forall_congr' fun x => forall_congr' fun _ => bound_iff x
/-- A frame fits its code, but for its pile's height. -/
structure FrOk (cs : List Cd) (f : Fr) (s : Cd) : Prop where
  at_ : cs[f.fn.toNat]? = some s
  fn0 : 0 ≤ f.fn
  pla0 : 0 ≤ f.pla
  pla1 : f.pla < (s.ins.length : Int)
  vars : (f.vars.length : Int) = s.vars
  flags : f.flags.length = s.sites.length
  mode : 0 ≤ f.mode ∧ f.mode ≤ 3
  base : f.base = 1 ∨ f.base = 3
  ide : bound f.ide = true
  result : bound f.result = true
  value : bound f.value = true
  pile : allB f.pile = true
  vrs : allB f.vars = true
/-- It is at a call of the one above it. -/
def CallOk (s : Cd) (f g : Fr) : Prop := ∃ op x, s.ins[f.pla.toNat]? = some (op, x) ∧ ((op = 7 ∧ g.fn = x ∧ g.off = false) ∨ (op = 17 ∧ s.sites[x.toNat]? = some g.fn ∧ g.off = true))
/-- How high its pile is where its place has height h. -/
def lowH (cs : List Cd) (op x h : Int) : Option Fr → Int
  | none => h
  | some _ => h - tkI cs op x
/-- Its pile is as high as it must be. -/
def HighOk (cs : List Cd) (s : Cd) (f : Fr) (ab : Option Fr) : Prop := ∃ hs h t, hts (gr cs s) = some hs ∧ hs[f.pla.toNat]? = some h ∧ s.ins[f.pla.toNat]? = some t ∧ (f.pile.length : Int) = lowH cs t.1 t.2 h ab
def FrGd (cs : List Cd) (f : Fr) (ab : Option Fr) : Prop := ∃ s, FrOk cs f s ∧ (∀ g, ab = some g → CallOk s f g) ∧ HighOk cs s f ab
structure FrsGd (cs : List Cd) (fs : List Fr) : Prop where
  off : ∀ f, fs[0]? = some f → f.off = false
  all : ∀ j f, fs[j]? = some f → FrGd cs f fs[j + 1]?
structure RestGd (m : Mc) : Prop where
  used : 0 ≤ m.used ∧ m.used ≤ 10
  code : 0 ≤ m.code ∧ m.code ≤ 4
  made : 0 ≤ m.made ∧ m.made ≤ 1000000
  value : bound m.value = true
  trace : allB m.trace = true
def EndGd (m : Mc) : Prop := (m.code = 0 → 0 < m.frames.length) ∧ (m.code ≠ 0 → m.code ≠ 4 → m.frames.length = 0)
open Classical in
noncomputable def frB (cs : List Cd) (f : Fr) : Bool := decide (∃ s, FrOk cs f s)
open Classical in
noncomputable def callB (s : Cd) (f g : Fr) : Bool := decide (CallOk s f g)
open Classical in
noncomputable def frgB (cs : List Cd) (f : Fr) (ab : Option Fr) : Bool := decide (FrGd cs f ab)
open Classical in
noncomputable def frsB (cs : List Cd) (fs : List Fr) : Bool := decide (FrsGd cs fs)
open Classical in
noncomputable def restB (m : Mc) : Bool := decide (RestGd m)
open Classical in
noncomputable def endB (m : Mc) : Bool := decide (EndGd m)
open Classical in
noncomputable def gvB (cs : List Cd) (m : Mc) : Bool := @decide (giB cs = true ∧ RestGd m ∧ EndGd m ∧ FrsGd cs m.frames) (Classical.propDecidable _)
theorem frB_iff (cs : List Cd) (f : Fr) : frB cs f = true ↔ ∃ s, FrOk cs f s := by unfold frB; exact @decide_eq_true_iff _ (Classical.propDecidable _)
theorem callB_iff (s : Cd) (f g : Fr) : callB s f g = true ↔ CallOk s f g := by unfold callB; exact @decide_eq_true_iff _ (Classical.propDecidable _)
theorem frgB_iff (cs : List Cd) (f : Fr) (ab : Option Fr) : frgB cs f ab = true ↔ FrGd cs f ab := by unfold frgB; exact @decide_eq_true_iff _ (Classical.propDecidable _)
theorem frsB_iff (cs : List Cd) (fs : List Fr) : frsB cs fs = true ↔ FrsGd cs fs := by unfold frsB; exact @decide_eq_true_iff _ (Classical.propDecidable _)
theorem restB_iff (m : Mc) : restB m = true ↔ RestGd m := by unfold restB; exact @decide_eq_true_iff _ (Classical.propDecidable _)
theorem endB_iff (m : Mc) : endB m = true ↔ EndGd m := by unfold endB; exact @decide_eq_true_iff _ (Classical.propDecidable _)
theorem gvB_iff (cs : List Cd) (m : Mc) : gvB cs m = true ↔ giB cs = true ∧ RestGd m ∧ EndGd m ∧ FrsGd cs m.frames := by unfold gvB; exact @decide_eq_true_iff _ (Classical.propDecidable _)
/-- The codes of a good image have heights, and more. -/
theorem good_code {cs : List Cd} (h : giB cs = true) {s : Cd} (hs : s ∈ cs) : namedB cs s = true ∧ sitesB cs s = true ∧ goesB s = true ∧ rowsF s.ins.length 0 s.rows = true ∧ ∃ hh, hts (gr cs s) = some hh ∧ raisOk s hh ∧ endOk s hh := by
  have h0 := ((giB_iff cs).1 h).2.2 s hs
  cases h1 : namedB cs s
  · rw [cdAns_1 h1] at h0; omega
  cases h2 : sitesB cs s
  · rw [cdAns_2 h1 h2] at h0; omega
  cases h3 : goesB s
  · rw [cdAns_3 h1 h2 h3] at h0; omega
  cases h4 : rowsF s.ins.length 0 s.rows
  · rw [cdAns_4 h1 h2 h3 h4] at h0; omega
  obtain ⟨a5, a6⟩ := cdAns_on h1 h2 h3 h4
  cases h5 : hts (gr cs s) with
  | none => rw [a5 h5] at h0; omega
  | some hh =>
    obtain ⟨b1, b2, _⟩ := a6 hh h5
    by_cases r : raisOk s hh
    · by_cases q : endOk s hh
      · exact ⟨rfl, rfl, rfl, rfl, hh, rfl, r, q⟩
      · rw [b2 r q] at h0; omega
    · rw [b1 r] at h0; omega

end Go.Proofs.YtpbkkjiikhjanaaGreatDoor

/-
  What a frame waits for: the numbers of its flags that are set, the greatest first.
-/
namespace Go.Proofs.YtpbkkjiikhjanaaGreatDoor
open Go.RowKit

/-- The numbers of the flags that are set from place k on, the greatest first. -/
def wtF (fl : List Bool) (k : Nat) : List Int := ((List.range' k (fl.length - k)).filter fun j => fl[j]? == some true).reverse.map fun j : Nat => (j : Int)
def wtL (fl : List Bool) : List Int := wtF fl 0
theorem wtF_end {fl : List Bool} {k : Nat} (h : fl.length ≤ k) : wtF fl k = [] := by
  unfold wtF
  rw [show fl.length - k = 0 by omega]
  rfl
theorem wtF_set {fl : List Bool} {k : Nat} (h : fl[k]? = some true) : wtF fl k = wtF fl (k + 1) ++ [(k : Int)] := by
  have hl := (List.getElem?_eq_some_iff.1 h).1
  unfold wtF
  rw [show fl.length - k = fl.length - (k + 1) + 1 by omega, List.range'_succ, List.filter_cons_of_pos (by rw [h]; rfl)]
  simp
theorem wtF_not {fl : List Bool} {k : Nat} (h : fl[k]? = some false) : wtF fl k = wtF fl (k + 1) := by
  have hl := (List.getElem?_eq_some_iff.1 h).1
  unfold wtF
  rw [show fl.length - k = fl.length - (k + 1) + 1 by omega, List.range'_succ, List.filter_cons_of_neg (by rw [h]; decide)]
theorem wtF_mem {fl : List Bool} {k : Nat} {x : Int} (h : x ∈ wtF fl k) : ∃ j : Nat, x = (j : Int) ∧ j < fl.length ∧ fl[j]? = some true := by
  unfold wtF at h
  simp only [List.mem_map, List.mem_reverse, List.mem_filter, beq_iff_eq] at h
  obtain ⟨j, ⟨_, h1⟩, rfl⟩ := h
  exact ⟨j, rfl, (List.getElem?_eq_some_iff.1 h1).1, h1⟩
theorem wtF_length (fl : List Bool) (k : Nat) : (wtF fl k).length ≤ fl.length := by
  unfold wtF
  rw [List.length_map, List.length_reverse]
  have := List.length_filter_le (fun j => fl[j]? == some true) (List.range' k (fl.length - k))
  rw [List.length_range'] at this
  omega

end Go.Proofs.YtpbkkjiikhjanaaGreatDoor

/-
  Unwinding, in plain words: what a frame waits for, which frame may stop a panic, the pads of frames, whether one is raised.
-/
namespace Go.Proofs.YtpbkkjiikhjanaaGreatDoor
open Go.RowKit Exs Ht

/-- There is a recover in a code. -/
def recB (c : Cd) : Bool := c.ins.any fun t => t.1 == 6
def recAt (cs : List Cd) (g : Int) : Bool := match cs[g.toNat]? with | some c => recB c | none => false
def siteRec (cs : List Cd) (s : Cd) (q : Int) : Bool := match s.sites[q.toNat]? with | some g => recAt cs g | none => false
/-- The frame above is off, and its code has one. -/
def aboveB (cs : List Cd) : Option Fr → Bool
  | some g => g.off && recAt cs g.fn
  | none => false
def ownB (cs : List Cd) (f : Fr) : Bool := match cs[f.fn.toNat]? with | some s => (wtL f.flags).any (siteRec cs s) | none => false
def mayF (cs : List Cd) (f : Fr) (ab : Option Fr) : Bool := ownB cs f || aboveB cs ab
def mayK (cs : List Cd) (fs : List Fr) (k : Nat) : Bool := match fs[k]? with | some f => mayF cs f fs[k + 1]? | none => false
theorem mayK_at {cs : List Cd} {fs : List Fr} {k : Nat} {f : Fr} (h : fs[k]? = some f) : mayK cs fs k = mayF cs f fs[k + 1]? := by unfold mayK; rw [h]
theorem ownB_at {cs : List Cd} {f : Fr} {s : Cd} (h : cs[f.fn.toNat]? = some s) : ownB cs f = (wtL f.flags).any (siteRec cs s) := by unfold ownB; rw [h]
/-- The last frame of those below k that may stop it. -/
def suK (cs : List Cd) (fs : List Fr) : Nat → Option Nat
  | 0 => none
  | k + 1 => if mayK cs fs k then some k else suK cs fs k
noncomputable def mayAns (cs : List Cd) (m : Mc) (fr : Int) : Bool × Bool := if gvB cs m = true ∧ 0 ≤ fr ∧ fr < (m.frames.length : Int) then (mayK cs m.frames fr.toNat, true) else (false, false)
noncomputable def suAns (cs : List Cd) (m : Mc) : Int × Bool := if gvB cs m = true then (match suK cs m.frames m.frames.length with | some k => ((k : Int), true) | none => (0, false)) else (0, false)
/-- The pad of a place: of the first row that it is in. -/
def InRw (a : Int) (r : Row3) : Bool := decide (r.1 ≤ a ∧ a < r.2.1)
def padR (rs : List Row3) (a : Int) : Option Int := (rs.find? (InRw a)).map fun r => r.2.2
def padFr (cs : List Cd) (f : Fr) : Option Int := match cs[f.fn.toNat]? with | some s => padR s.rows f.pla | none => none
/-- The pads of the frames from k on, the last one first. -/
def puF (cs : List Cd) (fs : List Fr) (k : Nat) : List (List Int) := ((List.range' k (fs.length - k)).reverse).map fun j : Nat => [(j : Int), ((fs[j]?.bind (padFr cs)).getD 0)]
theorem puF_end {cs : List Cd} {fs : List Fr} {k : Nat} (h : fs.length ≤ k) : puF cs fs k = [] := by
  unfold puF
  rw [show fs.length - k = 0 by omega]
  rfl
theorem puF_at {cs : List Cd} {fs : List Fr} {k : Nat} {f : Fr} {p : Int} (h : fs[k]? = some f) (hp : padFr cs f = some p) : puF cs fs k = puF cs fs (k + 1) ++ [[(k : Int), p]] := by
  have hl := (List.getElem?_eq_some_iff.1 h).1
  unfold puF
  rw [show fs.length - k = fs.length - (k + 1) + 1 by omega, List.range'_succ]
  simp [h, hp]
theorem puF_length (cs : List Cd) (fs : List Fr) (k : Nat) : (puF cs fs k).length = fs.length - k := by unfold puF; simp
/-- Each frame has one. -/
def padsB (cs : List Cd) (fs : List Fr) : Bool := fs.all fun f => (padFr cs f).isSome
theorem padsB_no {cs : List Cd} {fs : List Fr} {f : Fr} (h : f ∈ fs) (hp : padFr cs f = none) : padsB cs fs = false := by
  rw [← Bool.not_eq_true]
  intro h'
  have := List.all_eq_true.1 h' f h
  rw [hp] at this
  cases this
/-- The last frame is about to raise a panic. -/
def raiseT (t : Token) (pile : List Int) : Bool := t.1 == 13 || (t.1 == 4 && t.2 == 6 && pile[pile.length - 1]? == some 0)
def raiseF (cs : List Cd) (f : Fr) : Bool := match cs[f.fn.toNat]? with | some s => (match s.ins[f.pla.toNat]? with | some t => raiseT t f.pile | none => false) | none => false
def raiseM (cs : List Cd) (m : Mc) : Bool := m.code == 0 && (match m.frames[m.frames.length - 1]? with | some f => raiseF cs f | none => false)
noncomputable def irAns (cs : List Cd) (m : Mc) : Bool × Bool := if gvB cs m = true then (raiseM cs m, true) else (false, false)
noncomputable def puAns (cs : List Cd) (m : Mc) : List (List Int) × Bool := if gvB cs m = true ∧ padsB cs m.frames = true then (puF cs m.frames 0, true) else ([], false)
/-- A frame of a good machine fits its code, and the code's sites are there. -/
def GdF (cs : List Cd) (f : Fr) : Prop := ∃ s, FrOk cs f s ∧ sitesB cs s = true
theorem gdF_of {cs : List Cd} {m : Mc} (h : gvB cs m = true) : ∀ f ∈ m.frames, GdF cs f := fun f hf => by
  obtain ⟨hg, _, _, hfs⟩ := (gvB_iff cs m).1 h
  obtain ⟨j, hj, rfl⟩ := List.getElem_of_mem hf
  obtain ⟨s, h1, _⟩ := hfs.all j _ (List.getElem?_eq_getElem hj)
  exact ⟨s, h1, (good_code hg (List.mem_of_getElem? h1.at_)).2.1⟩
theorem GdF.code {cs : List Cd} {f : Fr} (h : GdF cs f) : ∃ (j : Nat) (s : Cd), f.fn = (j : Int) ∧ cs[j]? = some s ∧ f.flags.length = s.sites.length ∧ ∀ (q : Nat) (b : Bool), f.flags[q]? = some b → ∃ (g : Nat) (s' : Cd), s.sites[q]? = some (g : Int) ∧ cs[g]? = some s' := by
  obtain ⟨s, h1, h2⟩ := h
  refine ⟨f.fn.toNat, s, (Int.toNat_of_nonneg h1.fn0).symm, h1.at_, h1.flags, fun q b hq => ?_⟩
  have hl := (List.getElem?_eq_some_iff.1 hq).1
  have hs : s.sites[q]? = some (s.sites[q]'(by rw [← h1.flags]; exact hl)) := List.getElem?_eq_getElem _
  have hm := (sitesB_iff cs s).1 h2 _ (List.mem_of_getElem? hs)
  generalize s.sites[q]'(by rw [← h1.flags]; exact hl) = y at hs hm
  have hr : 0 ≤ y ∧ y ≤ (cs.length : Int) - 1 := Classical.byContradiction fun h' => by rw [stB_neg h'] at hm; cases hm
  exact ⟨y.toNat, cs[y.toNat]'(by omega), by rw [Int.toNat_of_nonneg hr.1]; exact hs, List.getElem?_eq_getElem _⟩
theorem ownB_go {cs : List Cd} {f : Fr} {s : Cd} {j : Nat} (h1 : f.fn = (j : Int)) (h2 : cs[j]? = some s) : ownB cs f = (wtL f.flags).any (siteRec cs s) := ownB_at (by rw [h1]; exact h2)
theorem siteRec_go {cs : List Cd} {s s' : Cd} {q g : Nat} (h1 : s.sites[q]? = some (g : Int)) (h2 : cs[g]? = some s') : siteRec cs s (q : Int) = recB s' := by
  unfold siteRec recAt
  simp [h1, h2]
theorem aboveB_go {cs : List Cd} {g : Fr} {s : Cd} {j : Nat} (h1 : g.fn = (j : Int)) (h2 : cs[j]? = some s) : aboveB cs (some g) = (g.off && recB s) := by
  unfold aboveB recAt
  simp [h1, h2]
theorem any_no {α : Type} {p : α → Bool} {l : List α} (h : ∀ x ∈ l, p x = false) : l.any p = false := by
  rw [← Bool.not_eq_true]
  intro h'
  obtain ⟨x, h1, h2⟩ := List.any_eq_true.1 h'
  rw [h x h1] at h2
  cases h2
theorem no_more {α : Type} {p : α → Bool} {l : List α} {k : Nat} {t : α} (h : ∀ x ∈ l.take k, p x = false) (ht : l[k]? = some t) (hp : p t = false) : ∀ x ∈ l.take (k + 1), p x = false := fun x hx => by
  rw [takeA_more ht] at hx
  rcases List.mem_append.1 hx with hx | hx
  · exact h x hx
  · simp at hx; subst hx; exact hp
end Go.Proofs.YtpbkkjiikhjanaaGreatDoor

/-
  What a frame waits for, as the reference has it.
-/
namespace Go.Proofs.YtpbkkjiikhjanaaGreatDoor
open Go.RowKit Go.Deep Exs

/-- 'append(out, x)': as wpList_append_one, of rows up to twice as long. -/
theorem wpList_append_oneM {P : Program} {w : World} {ops : Array Oper} {rest : List Oper} {o : Oper} {a : Act} {Q : Exit → Act → World → Prop} (hgd : o.guard = none) (s x : Operand) (t : TypeId)
    (ho : o.op = .call { callee := .builtin .append, args := #[s, x], argTypes := #[t, t] })
    (B : Nat) (e : TypeId) (k : IntKind) (bytes : Nat) (hinfo : (P.info? e).map (fun i => (i.zero, i.size, i.bytes)) = some (some (.int k 0), 1, bytes)) (ht : P.underlying t = some (.slice e)) (hby : bytes ≤ 8)
    (v : Value) (xs : List Int) (hs : a.eval s = v) (w0 : World) (hbel : Below B w0 w) (hB : B ≤ w.heap.size) (hown : Nums w B e k v xs)
    (g : Nat) (b : Int) (hx : a.eval x = .slice (some ⟨g, 0, none⟩) 1 1) (hcell : w.cell? ⟨g, 0, none⟩ = some (.int k b)) (hlen : xs.length ≤ 2000000)
    (h : ∀ v' w', Nums w' B e k v' (xs ++ [b]) → Below B w0 w' → w.heap.size ≤ w'.heap.size → wpList P ops Q rest (a.put o.dst v') w') : wpList P ops Q (o :: rest) a w := by
  obtain ⟨i0, hi, hz0, hz1, hz2⟩ := info_parts hinfo
  refine wpList_append_own w hgd s x t ho B e i0 (.int k 0) 1 bytes ht hi hz0 hz1 hz2 rfl (by decide) v xs.length _ hs hown ⟨g, 0, none⟩ 1 1 [.int k b] hx rfl ?_ ?_ ?_ ?_ hB ?_
  · intro j u hj
    match j, hj with
    | 0, hj => simp at hj; subst hj; simpa [Addr.add] using hcell
  · intro u hu; simp at hu; subst hu; rfl
  · unfold maxLen; omega
  · have : (xs.length + 1) * bytes ≤ (xs.length + 1) * 8 := Nat.mul_le_mul_left _ hby
    omega
  · intro v' w' h1 h2 _
    refine h v' w' (by unfold Nums; simpa using h1) (hbel.grown h2 hB fun j hj => (hown.lt j hj).1) h2.size

set_option maxHeartbeats 4000000 in
set_option maxRecDepth 100000 in
theorem l9Waiting_any (ide fn pla result mode value base : Int) (off : Bool) (A1 : Option Addr) (n1 c1 : Nat) (A2 : Option Addr) (n2 c2 : Nat) (A3 : Option Addr) (n3 c3 : Nat) (flags : List Bool) (w : World) (hr : ReadsB w w.heap.size A3 n3 flags) (hn : n3 ≤ 1048576) :
    Calls Tryz.prog 53 #[.agg #[.int .i64 ide, .int .i64 fn, .int .i64 pla, .slice A1 n1 c1, .slice A2 n2 c2, .slice A3 n3 c3, .int .i64 result, .int .i64 mode, .int .i64 value, .int .i64 base, .bool off]] w fun e w' => ∃ v, e = .returned v ∧ Nums w' w.heap.size 3 .i64 v (wtL flags) ∧ Below w.heap.size w w' := by
  have HLN := put hr.1
  have hb0 : Below w.heap.size w (w.alloc (.cells #[.int .i64 ide, .int .i64 fn, .int .i64 pla, .slice A1 n1 c1, .slice A2 n2 c2, .slice A3 n3 c3, .int .i64 result, .int .i64 mode, .int .i64 value, .int .i64 base, .bool off] 78)) := (Below.refl _ _).alloc (Nat.le_refl _) _
  have k0 := Keep.new w #[.int .i64 ide, .int .i64 fn, .int .i64 pla, .slice A1 n1 c1, .slice A2 n2 c2, .slice A3 n3 c3, .int .i64 result, .int .i64 mode, .int .i64 value, .int .i64 base, .bool off] 78
  have hsz : (w.alloc (.cells #[.int .i64 ide, .int .i64 fn, .int .i64 pla, .slice A1 n1 c1, .slice A2 n2 c2, .slice A3 n3 c3, .int .i64 result, .int .i64 mode, .int .i64 value, .int .i64 base, .bool off] 78)).heap.size = w.heap.size + 1 := by simp
  have hw0 : IntKind.i64.wrap ((n3 : Int) - 1) = (n3 : Int) - 1 := IntWalk.i64_in _ ⟨by omega, by omega⟩
  have hlen : (wtF flags n3) = [] := wtF_end (by have := HLN.out; omega)
  have HE := put hlen
  have RR := put (hr.now hb0)
  clear hr hlen
  go_enter Tryz.func53, Tryz.ntmps53
  go_wp2
  generalize hW : w.alloc (.cells #[.int .i64 ide, .int .i64 fn, .int .i64 pla, .slice A1 n1 c1, .slice A2 n2 c2, .slice A3 n3 c3, .int .i64 result, .int .i64 mode, .int .i64 value, .int .i64 base, .bool off] 78) = W0 at hb0 k0 hsz RR ⊢
  clear hW
  have hlt0 : w.heap.size < W0.heap.size := by omega
  go_loopw [3, 4] (fun v i wr => ∃ (k : Nat) (u : Value), k ≤ n3 ∧ u = v ∧ i = .int .i64 ((k : Int) - 1) ∧ Nums wr W0.heap.size 3 .i64 u (wtF flags k) ∧ Below W0.heap.size W0 wr) (fun _ i _ => (intOf i + 1).toNat)
  case atStart => exact ⟨n3, _, Nat.le_refl _, rfl, rfl, by rw [HE.out]; exact Nums.nil _ _ _ _, Below.refl _ _⟩
  case round =>
    obtain ⟨k, u, hk, rfl, rfl, nu, bw⟩ := hrel
    have kb := k0.below bw
    have y5 := kb.cell 5
    simp at y5
    have hbw : Below w.heap.size w wr := hb0.trans (bw.mono hb0.size)
    cases k with
    | zero =>
      have HF := put nu
      clear nu k0 kb y5
      go_wp2
      go_ret
      exact ⟨u, rfl, (HF.out).more hb0.size, hbw⟩
    | succ k =>
      have e1 : ((k + 1 : Nat) : Int) - 1 = (k : Int) := by omega
      rw [e1]
      have hlt : k < n3 := by omega
      have hwk : IntKind.i64.wrap ((k : Int) - 1) = (k : Int) - 1 := IntWalk.i64_in _ ⟨by omega, by omega⟩
      obtain ⟨b, off', x, rfl, hb', hc, hx⟩ := (RR.out.below bw).at_ hlt
      have hkI : (k : Int) < (n3 : Int) := by omega
      have hk0 : (0 : Int) ≤ (k : Int) := by omega
      have hxl : (wtF flags (k + 1)).length ≤ 2000000 := by have h1 := wtF_length flags (k + 1); have h2 := HLN.out; omega
      cases x
      · have HS := put (wtF_not hx.out)
        clear hx hxl e1
        go_wp2
        go_roundw
        case rel => exact ⟨k, _, by omega, rfl, by go_num, by rw [HS.out]; exact nu, bw⟩
        case measure => simp [intOf]
      · have HS := put (wtF_set hx.out)
        have nuA := Nums.alloc nu (.cells #[.int .i64 (k : Int)] 3)
        have bwA := bw.alloc bw.size (.cells #[.int .i64 (k : Int)] 3)
        have hsA : W0.heap.size ≤ wr.heap.size + 1 := by have := bw.size; omega
        clear hx e1
        go_wp2_with (at_builtin; refine wpList_append_oneM rfl _ _ 26 rfl W0.heap.size 3 .i64 8 Tryz.info3 Tryz.underlying26 (by decide) u (wtF flags (k + 1)) rfl W0 bwA (by simpa using hsA) nuA wr.heap.size (k : Int) rfl (by simp) hxl ?_; intro v2 w2 hn2 hb2 hs2)
        go_roundw
        case rel => exact ⟨k, _, by omega, rfl, by go_num, by rw [HS.out]; exact hn2, hb2⟩
        case measure => simp [intOf]

end Go.Proofs.YtpbkkjiikhjanaaGreatDoor

/-
  Whether a code has a recover, as the reference has it.
-/
namespace Go.Proofs.YtpbkkjiikhjanaaGreatDoor
open Go.RowKit Go.Deep Exs Ht

set_option maxHeartbeats 2000000 in
set_option maxRecDepth 100000 in
theorem l9Recovers_any (A : Option Addr) (n c : Nat) (cs : List Cd) (j : Nat) (s : Cd) (w : World) (hr : ReadsC w w.heap.size A n cs) (hj : cs[j]? = some s) (hsm : s.ins.length ≤ 1048576) :
    Calls Tryz.prog 54 #[.agg #[.slice A n c], .int .i64 (j : Int)] w fun e w' => e = .returned (.bool (recB s)) ∧ Below w.heap.size w w' := by
  have hjn : j < n := by rw [← hr.1]; exact (List.getElem?_eq_some_iff.1 hj).1
  have hb0 : Below w.heap.size w (w.alloc (.cells #[.slice A n c] 36)) := (Below.refl _ _).alloc (Nat.le_refl _) _
  obtain ⟨b, o, s', A4, n4, c4, A5, n5, c5, A6, n6, c6, rfl, hb', g0, g1, g2, g3, g4, r1, r2, r3, hx⟩ := hr.at_ hjn
  obtain rfl : s = s' := by have := hx.out; rw [hj] at this; injection this with this
  have q3 := (hb0.cell (p := ⟨b, o + j * 5 + 3, none⟩) hb').trans g3
  have HR := put r2
  have HLN := put r2.1
  have hn5 : n5 ≤ 1048576 := by rw [r2.1] at hsm; exact hsm
  have hjI : (j : Int) < (n : Int) := by omega
  have hj0 : (0 : Int) ≤ (j : Int) := by omega
  clear g0 g1 g2 g3 g4 r1 r2 r3 hx hj hr
  go_enter Tryz.func54, Tryz.ntmps54
  go_wp2
  go_loopw [14] (fun i wr => ∃ k : Nat, k ≤ n5 ∧ i = .int .i64 k ∧ Hid (∀ t ∈ s.ins.take k, (t.1 == 6) = false) ∧ Below w.heap.size w wr) (fun i _ => n5 - (intOf i).toNat)
  case atStart => exact ⟨0, Nat.zero_le _, rfl, put (fun t h => by simp at h), hb0⟩
  case round =>
    obtain ⟨k, hk, rfl, hall, bw⟩ := hrel
    clear q3 hb0
    by_cases hlt : k < n5
    · obtain ⟨b5, o5, op, x, rfl, hb5, i0, i1, hxt⟩ := (HR.out.below bw).at_ hlt
      have bw2 := bw.alloc bw.size (.cells #[.int .i64 op, .int .i64 x] 129)
      cases q : (op == 6)
      · have hall2 := put (all_more (p := fun t : Token => !(t.1 == 6)) (fun t h => by rw [hall.out t h]; rfl) hxt.out (by simp [q]))
        clear hxt
        go_wp2
        go_roundw
        case rel => exact ⟨k + 1, by omega, by go_num, put (fun t h => by have := hall2.out t h; simpa using this), bw2⟩
        case measure => simp [intOf]; omega
      · have HY := put (show recB s = true from List.any_eq_true.2 ⟨_, mem_of_at hxt.out, q⟩)
        clear hxt
        go_wp2
        go_ret
        exact ⟨ret_bool HY.out.symm, bw2⟩
    · have hfin : s.ins.take k = s.ins := List.take_of_length_le (by have := HLN.out; omega)
      have HN := put (show recB s = false from by rw [← Bool.not_eq_true]; intro h'; obtain ⟨t, h1, h2⟩ := List.any_eq_true.1 h'; have := hall.out t (by rw [hfin]; exact h1); rw [this] at h2; cases h2)
      clear hfin
      go_wp2
      go_ret
      exact ⟨ret_bool HN.out.symm, bw⟩

end Go.Proofs.YtpbkkjiikhjanaaGreatDoor

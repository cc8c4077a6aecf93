/-
  The program's tests of expressions and of calls put off, and the Params of a program: contracts.
-/
import Derived.Test.YtaogdaoiijmmhaaImpA0
namespace Go.Proofs.Ytaogdaoiijmmhaa
open Go.RowKit Exs

/-- Whether the first ones, all of them. -/
theorem all_more {α : Type} {p : α → Bool} {xs : List α} {k : Nat} {x : α} (h : xs[k]? = some x) (ha : (xs.take k).all p = true) (hx : p x = true) : (xs.take (k + 1)).all p = true := by
  rw [takeA_more h]; simp [List.all_append, ha, hx]
theorem all_no {α : Type} {p : α → Bool} {xs : List α} {k : Nat} {x : α} (h : xs[k]? = some x) (hx : p x = false) : xs.all p = false := by
  rw [List.all_eq_false]; exact ⟨x, mem_of_at h, by simp [hx]⟩

def exB (vars : Int) (ps : List Int) (s : St) : Bool := !hasEx s || ge s.ex vars ps
def exprsB (f : Fc) (ps : List Int) : Bool := f.stmts.all (exB f.vars ps)

set_option maxHeartbeats 1000000 in
set_option maxRecDepth 100000 in
theorem goodExprs_any (f : Fc) (A1 : Option Addr) (n1 c1 : Nat) (A2 : Option Addr) (n2 c2 : Nat) (A' : Option Addr) (m c' : Nat) (ps : List Int) (w : World) (hr : IsFc w w.heap.size f A1 n1 A2 n2) (hs : SmallF f) (hp : Reads w w.heap.size .i64 A' m ps) (hm : m ≤ 1048576) :
    Calls Try.prog 36 #[fcV f A1 n1 c1 A2 n2 c2, .slice A' m c'] w fun e w' => e = .returned (.bool (exprsB f ps)) ∧ Below w.heap.size w w' := by
  obtain ⟨l1, l2, l3⟩ := hs
  rw [hr.stmts.1] at l2
  unfold fcV
  have hb0 : Below w.heap.size w (w.alloc (.cells #[.int .i64 f.params, .int .i64 f.vars, .slice A1 n1 c1, .slice A2 n2 c2] 51)) := (Below.refl _ _).alloc (Nat.le_refl _) _
  have hk0 := Keep.new w #[.int .i64 f.params, .int .i64 f.vars, .slice A1 n1 c1, .slice A2 n2 c2] 51
  go_enter Try.func36, Try.ntmps36
  go_wp2
  go_loopw [10] (fun i wr => ∃ k : Nat, k ≤ n2 ∧ i = .int .i64 k ∧ Hid ((f.stmts.take k).all (exB f.vars ps) = true) ∧ Keep wr w.heap.size #[.int .i64 f.params, .int .i64 f.vars, .slice A1 n1 c1, .slice A2 n2 c2] 51 ∧ Below w.heap.size w wr) (fun i _ => n2 - (intOf i).toNat)
  case atStart => exact ⟨0, Nat.zero_le _, rfl, put (by simp), hk0, hb0⟩
  case round =>
    obtain ⟨k, hk, rfl, hall, hkeep, hbel⟩ := hrel
    clear hk0 hb0
    by_cases hlt : k < n2
    · obtain ⟨b, off, s, B1, m1, d1, B2, m2, d2, B3, m3, d3, hA, hb, g0, g1, g2, g3, g4, r1, r2, r3, hx⟩ := (hr.stmts.below hbel).at_ hlt
      subst hA
      have hsm := l3 _ (mem_of_at hx.out)
      have q1 := hkeep.cell 1
      simp at q1
      go_wp2_with fail
      have hbA := hbel.alloc hbel.size (.cells #[.int .i64 s.kind, .int .i64 s.n, .slice B1 m1 d1, .slice B2 m2 d2, .slice B3 m3 d3] 68)
      have hkA := Keep.new wr #[.int .i64 s.kind, .int .i64 s.n, .slice B1 m1 d1, .slice B2 m2 d2, .slice B3 m3 d3] 68
      have hkB := hkeep.alloc (.cells #[.int .i64 s.kind, .int .i64 s.n, .slice B1 m1 d1, .slice B2 m2 d2, .slice B3 m3 d3] 68)
      refine (hasExpr_any s _ _ _ _ _ _ _ _ _ _).mono ?_
      rintro e W1 ⟨rfl, hb1⟩
      have hb1' : Below w.heap.size w W1 := hbA.trans (hb1.mono hbA.size)
      replace hkA := hkA.below hb1
      replace hkB := hkB.below hb1
      have p2 := hkA.cell 2
      have p1 := hkB.cell 1
      simp at p1 p2
      cases hh : hasEx s with
      | false =>
        have hy := put (show exB f.vars ps s = true by simp [exB, hh])
        clear hh
        go_wp2
        go_roundw
        case rel => exact ⟨k + 1, by omega, by go_num, put (all_more hx.out hall.out hy.out), hkB, hb1'⟩
        case measure => simp [intOf]; omega
      | true =>
        have he := put (show exB f.vars ps s = ge s.ex f.vars ps by simp [exB, hh])
        clear hh
        have hwW : Below w.heap.size wr W1 := ((Below.refl _ wr).alloc hbel.size _).trans (hb1.mono (by have := hbel.size; simp; omega))
        have hm1 : m1 ≤ 1048576 := by have := hsm.1; rw [r1.1] at this; exact this
        have hr1 := (r1.below hwW).more hb1'.size
        clear r1 r2 r3 g0 g1 g2 g3 g4 hwW
        go_wp2_with fail
        refine (goodExpr_any B1 m1 d1 s.ex f.vars A' m c' ps W1 hr1 (hp.now hb1') hm1 hm).mono ?_
        rintro e W2 ⟨rfl, hb2⟩
        have hb2' : Below w.heap.size w W2 := hb1'.trans (hb2.mono hb1'.size)
        replace hkB := hkB.below hb2
        rw [show (highAns s.ex f.vars ps).2 = ge s.ex f.vars ps from rfl]
        cases hg : ge s.ex f.vars ps with
        | true =>
          have hy := put (he.out.trans hg)
          clear hg he
          go_wp2
          go_roundw
          case rel => exact ⟨k + 1, by omega, by go_num, put (all_more hx.out hall.out hy.out), hkB, hb2'⟩
          case measure => simp [intOf]; omega
        | false =>
          have hn := put (all_no hx.out (he.out.trans hg))
          clear hg he
          go_wp2
          go_ret
          exact ⟨ret_bool hn.out.symm, hb2'⟩
    · have hfin := put (show f.stmts.all (exB f.vars ps) = true by have := hall.out; rwa [List.take_of_length_le (by rw [hr.stmts.1]; omega)] at this)
      go_wp2
      go_ret
      exact ⟨ret_bool hfin.out.symm, hbel⟩

def putB (ps : List Int) (s : St) : Bool := decide (s.kind = 3 → s.n < ps.length ∧ ps.getD s.n.toNat 0 = 0)
def putsB (f : Fc) (ps : List Int) : Bool := f.stmts.all (putB ps)

set_option maxHeartbeats 1000000 in
set_option maxRecDepth 100000 in
theorem goodPutsOff_any (f : Fc) (A1 : Option Addr) (n1 c1 : Nat) (A2 : Option Addr) (n2 c2 : Nat) (A' : Option Addr) (m c' : Nat) (ps : List Int) (w : World) (hr : IsFc w w.heap.size f A1 n1 A2 n2) (hs : SmallF f) (hp : Reads w w.heap.size .i64 A' m ps)
    (hpos : ∀ s ∈ f.stmts, s.kind = 3 → 0 ≤ s.n) :
    Calls Try.prog 37 #[fcV f A1 n1 c1 A2 n2 c2, .slice A' m c'] w fun e w' => e = .returned (.bool (putsB f ps)) ∧ Below w.heap.size w w' := by
  obtain ⟨l1, l2, l3⟩ := hs
  rw [hr.stmts.1] at l2
  unfold fcV
  have hb0 : Below w.heap.size w (w.alloc (.cells #[.int .i64 f.params, .int .i64 f.vars, .slice A1 n1 c1, .slice A2 n2 c2] 51)) := (Below.refl _ _).alloc (Nat.le_refl _) _
  go_enter Try.func37, Try.ntmps37
  go_wp2
  go_loopw [10] (fun i wr => ∃ k : Nat, k ≤ n2 ∧ i = .int .i64 k ∧ Hid ((f.stmts.take k).all (putB ps) = true) ∧ Below w.heap.size w wr) (fun i _ => n2 - (intOf i).toNat)
  case atStart => exact ⟨0, Nat.zero_le _, rfl, put (by simp), hb0⟩
  case round =>
    obtain ⟨k, hk, rfl, hall, hbel⟩ := hrel
    clear hb0
    by_cases hlt : k < n2
    · obtain ⟨b, off, s, B1, m1, d1, B2, m2, d2, B3, m3, d3, hA, hb, g0, g1, g2, g3, g4, r1, r2, r3, hx⟩ := (hr.stmts.below hbel).at_ hlt
      subst hA
      have hps := put (hpos _ (mem_of_at hx.out))
      have hbA := hbel.alloc hbel.size (.cells #[.int .i64 s.kind, .int .i64 s.n, .slice B1 m1 d1, .slice B2 m2 d2, .slice B3 m3 d3] 68)
      clear r1 r2 r3 hpos
      have HD := put (show putB ps s = decide (s.kind = 3 → s.n < ps.length ∧ ps.getD s.n.toNat 0 = 0) from rfl)
      have HM := put (fun h => all_more hx.out hall.out (p := putB ps) h)
      have HN := put (fun h => all_no hx.out (p := putB ps) h)
      generalize putB ps s = pb at HD HM HN
      clear hx hall
      obtain ⟨kd, nn, ex, th, el⟩ := s
      simp only at HD hps hbA g0 g1 g2 g3 g4
      by_cases h3 : kd = 3
      · subst h3
        have hn0 := hps.out rfl
        clear hps
        by_cases hlen : nn < m
        · obtain ⟨j, rfl⟩ : ∃ j : Nat, nn = j := ⟨nn.toNat, by omega⟩
          obtain ⟨b', off', x, hA', hb', hcx, hxx⟩ := (hp.below hbel).at_ (j := j) (by omega)
          subst hA'
          have hv := put (show ps[j]?.getD 0 = x by rw [hxx.out]; rfl)
          have hcx' : (wr.alloc (.cells #[.int .i64 3, .int .i64 j, .slice B1 m1 d1, .slice B2 m2 d2, .slice B3 m3 d3] 68)).cell? ⟨b', off' + j, none⟩ = some (.int .i64 x) := by
            rw [← hcx]; exact ((Below.refl _ wr).alloc hbel.size _).cell hb'
          clear hxx
          by_cases h0 : x = 0
          · subst h0
            have hy := put (HM.out (by rw [HD.out]; simp [hv.out]; rw [hp.1]; omega))
            clear HD HM HN hv
            go_wp2
            go_roundw
            case rel => exact ⟨k + 1, by omega, by go_num, hy, hbA⟩
            case measure => simp [intOf]; omega
          · have hn := put (HN.out (by rw [HD.out]; simp [hv.out, h0]))
            have h0' := bne_of h0
            clear HD HM HN hv
            go_wp2
            go_ret
            exact ⟨ret_bool hn.out.symm, hbA⟩
        · have hn := put (HN.out (by rw [HD.out]; simp; intro h; rw [hp.1] at h; omega))
          have hle : (m : Int) ≤ nn := by omega
          clear HD HM HN
          go_wp2
          go_ret
          exact ⟨ret_bool hn.out.symm, hbA⟩
      · have hy := put (HM.out (by rw [HD.out]; simp [h3]))
        have h3' := beq_of h3
        clear HD HM HN
        go_wp2
        go_roundw
        case rel => exact ⟨k + 1, by omega, by go_num, hy, hbA⟩
        case measure => simp [intOf]; omega
    · have hfin := put (show f.stmts.all (putB ps) = true by have := hall.out; rwa [List.take_of_length_le (by rw [hr.stmts.1]; omega)] at this)
      go_wp2
      go_ret
      exact ⟨ret_bool hfin.out.symm, hbel⟩

def paramsL (fs : List Fc) : List Int := fs.map Fc.params

set_option maxHeartbeats 1000000 in
set_option maxRecDepth 100000 in
theorem paramsIn_any (A : Option Addr) (n c : Nat) (fs : List Fc) (w : World) (hr : ReadsF w w.heap.size A n fs) (hn : n ≤ 1048576) :
    Calls Try.prog 34 #[.agg #[.slice A n c]] w fun e w' => ∃ g, e = .returned (.slice (some ⟨g, 0, none⟩) n n) ∧ w.heap.size ≤ g ∧ Room w' g 3 n .i64 (paramsL fs) ∧ Below w.heap.size w w' := by
  have hmk := fun W => run_make_row' (P := Try.prog) 22 3 (.int .i64 0) 8 Try.underlying22 Try.info3 rfl .i64 .i64 n (by omega) (by omega) W
  have hb0 : Below w.heap.size w (w.alloc (.cells #[.slice A n c] 39)) := (Below.refl _ _).alloc (Nat.le_refl _) _
  have hroom0 := Room.made (w.alloc (.cells #[.slice A n c] 39)) 3 n .i64
  rw [World.size_alloc] at hroom0
  go_enter Try.func34, Try.ntmps34
  go_wp2
  go_loopw [13] (fun i wr => ∃ k : Nat, k ≤ n ∧ i = .int .i64 k ∧ Room wr (w.heap.size + 1) 3 n .i64 (paramsL (fs.take k)) ∧ Below w.heap.size w wr) (fun i _ => n - (intOf i).toNat)
  case atStart => exact ⟨0, Nat.zero_le _, rfl, hroom0, hb0.alloc (by simp) _⟩
  case round =>
    obtain ⟨k, hk, rfl, hroom, hbel⟩ := hrel
    clear hmk hroom0 hb0
    by_cases hlt : k < n
    · obtain ⟨b, off, f, B1, m1, d1, B2, m2, d2, hA, hb, g0, g1, g2, g3, r1, r2, hx⟩ := (hr.below hbel).at_ hlt
      subst hA
      have hlen : (paramsL (fs.take k)).length = k := by simp [paramsL]; rw [hr.1]; omega
      have hroomA := hroom.same (SameFrom.of_below ((Below.refl _ wr).alloc (Nat.le_refl _) (.cells #[.int .i64 f.params, .int .i64 f.vars, .slice B1 m1 d1, .slice B2 m2 d2] 51)))
      obtain ⟨x0, hx0⟩ := hroomA.at_ k hlt
      have hf0 := hroomA.frozen k
      have hpush := (hroom.push (by rw [hlen]; exact hlt) f.params).same (SameFrom.of_below ((Below.refl _ _).alloc (Nat.le_refl _) (.cells #[.int .i64 f.params, .int .i64 f.vars, .slice B1 m1 d1, .slice B2 m2 d2] 51)))
      rw [hlen, show paramsL (fs.take k) ++ [f.params] = paramsL (fs.take (k + 1)) by rw [takeA_more hx.out]; simp [paramsL]] at hpush
      have HP := put hpush
      have hlt' := hroom.lt
      clear hpush hlen hroomA hroom r1 r2
      go_wp2
      go_roundw
      case rel => exact ⟨k + 1, by omega, by go_num, HP.out, (hbel.setCell (by simp) _).alloc (by rw [size_set]; exact hbel.size) _⟩
      case measure => simp [intOf]; omega
    · have hfin := put (show fs.take k = fs from List.take_of_length_le (by rw [hr.1]; omega))
      go_wp2
      go_ret
      exact ⟨_, rfl, by omega, by rw [hfin.out] at hroom; exact hroom, hbel⟩

end Go.Proofs.Ytaogdaoiijmmhaa

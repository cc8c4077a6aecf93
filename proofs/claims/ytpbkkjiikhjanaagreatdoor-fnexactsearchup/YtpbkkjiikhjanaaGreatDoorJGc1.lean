/-
  The reference's checks of a code ahead of its heights: names, sites, ways, rows.
-/
import Derived.Test.YtpbkkjiikhjanaaGreatDoorJTk
namespace Go.Proofs.YtpbkkjiikhjanaaGreatDoor
open Go.RowKit Exs

/-- What an instruction names is there. -/
def nmB (cs : List Cd) (s : Cd) (t : Token) : Bool := if t.1 = 2 ∨ t.1 = 3 then decide (t.2 < s.vars) else if t.1 = 12 ∨ t.1 = 17 then decide (t.2 < s.sites.length) else if t.1 = 7 then decide (t.2 < cs.length) else true
def namedB (cs : List Cd) (s : Cd) : Bool := s.ins.all (nmB cs s)
theorem namedB_iff (cs : List Cd) (s : Cd) : namedB cs s = true ↔ ∀ t ∈ s.ins, nmB cs s t = true := by unfold namedB; rw [List.all_eq_true]
theorem nmB_other {cs : List Cd} {s : Cd} {op x : Int} (h : ¬ (op = 2 ∨ op = 3 ∨ op = 12 ∨ op = 17 ∨ op = 7)) : nmB cs s (op, x) = true := by
  unfold nmB
  rw [if_neg (by simp; omega), if_neg (by simp; omega), if_neg (by simp; omega)]
/-- A site is the number of a code without parameters. -/
def stB (cs : List Cd) (x : Int) : Bool := decide (0 ≤ x) && (match cs[x.toNat]? with | some c => c.params == 0 | none => false)
def sitesB (cs : List Cd) (s : Cd) : Bool := s.sites.all (stB cs)
theorem sitesB_iff (cs : List Cd) (s : Cd) : sitesB cs s = true ↔ ∀ t ∈ s.sites, stB cs t = true := by unfold sitesB; rw [List.all_eq_true]
theorem stB_neg {cs : List Cd} {x : Int} (h : ¬ (0 ≤ x ∧ x ≤ (cs.length : Int) - 1)) : stB cs x = false := by
  unfold stB
  by_cases h0 : 0 ≤ x
  · rw [List.getElem?_eq_none (by omega)]; simp
  · simp [h0]
theorem stB_at {cs : List Cd} {j : Nat} {c : Cd} (h : cs[j]? = some c) : stB cs (j : Int) = (c.params == 0) := by simp [stB, h]
/-- All places that an instruction goes on at are there. -/
def goB (many : Nat) (a : Nat) (t : Token) : Bool := (nxL t.1 t.2 a).all fun x => within x 0 ((many : Int) - 1)
def goesB (s : Cd) : Bool := (List.range s.ins.length).all fun a => match s.ins[a]? with | some t => goB s.ins.length a t | none => true
theorem goesB_iff (s : Cd) : goesB s = true ↔ ∀ a t, s.ins[a]? = some t → goB s.ins.length a t = true := by
  unfold goesB
  rw [List.all_eq_true]
  constructor
  · intro h a t ht
    have h1 := h a (by simp; exact (List.getElem?_eq_some_iff.1 ht).1)
    simpa [ht] using h1
  · intro h a _
    split
    · rename_i t ht; exact h a t ht
    · rfl
/-- Rows one behind the other. -/
def rowB (many : Nat) (at_ : Int) (r : Row3) : Bool := decide (at_ ≤ r.1 ∧ r.1 < r.2.1 ∧ r.2.1 ≤ many ∧ 0 ≤ r.2.2 ∧ r.2.2 < many)
def rowsF (many : Nat) : Int → List Row3 → Bool
  | _, [] => true
  | a, r :: rs => rowB many a r && rowsF many r.2.1 rs
def lastTo (a : Int) : List Row3 → Int
  | [] => a
  | r :: rs => lastTo r.2.1 rs
theorem rowsF_snoc (many : Nat) (r : Row3) : ∀ (rs : List Row3) (a : Int), rowsF many a (rs ++ [r]) = (rowsF many a rs && rowB many (lastTo a rs) r)
  | [], a => by simp [rowsF, lastTo]
  | q :: rs, a => by simp [rowsF, lastTo, rowsF_snoc many r rs, Bool.and_assoc]
theorem lastTo_snoc (r : Row3) : ∀ (rs : List Row3) (a : Int), lastTo a (rs ++ [r]) = r.2.1
  | [], a => rfl
  | q :: rs, a => by simp [lastTo, lastTo_snoc r rs]
theorem rowsF_append (many : Nat) (q : List Row3) : ∀ (rs : List Row3) (a : Int), rowsF many a (rs ++ q) = true → rowsF many a rs = true
  | [], a, _ => rfl
  | r :: rs, a, h => by
    simp only [List.cons_append, rowsF, Bool.and_eq_true] at h ⊢
    exact ⟨h.1, rowsF_append many q rs _ h.2⟩
theorem rowsF_no {many : Nat} {rs : List Row3} {k : Nat} {r : Row3} {a : Int} (h : rs[k]? = some r) (hb : rowB many (lastTo a (rs.take k)) r = false) : rowsF many a rs = false := no_of fun ht => by
  rw [← List.take_append_drop (k + 1) rs] at ht
  have := rowsF_append _ _ _ _ ht
  rw [takeA_more h, rowsF_snoc, hb] at this
  simp at this

set_option maxHeartbeats 2000000 in
set_option maxRecDepth 100000 in
theorem l5Named_any (A : Option Addr) (n c : Nat) (cs : List Cd) (s : Cd) (A1 : Option Addr) (n1 c1 : Nat) (A2 : Option Addr) (n2 c2 : Nat) (A3 : Option Addr) (n3 c3 : Nat) (w : World) (hr : ReadsC w w.heap.size A n cs) (hs : IsCd w w.heap.size s A1 n1 A2 n2 A3 n3) (_ : n ≤ 5) (hi : cdB s = true) :
    Calls Tryz.prog 103 #[.agg #[.slice A n c], cdV s A1 n1 c1 A2 n2 c2 A3 n3 c3] w fun e w' => e = .returned (.bool (namedB cs s)) ∧ Below w.heap.size w w' := by
  have hb := ((Below.refl w.heap.size w).alloc (Nat.le_refl _) (Obj.cells #[.slice A n c] 36)).alloc (by simp) (Obj.cells #[.int .i64 s.params, .int .i64 s.vars, .slice A1 n1 c1, .slice A2 n2 c2, .slice A3 n3 c3] 82)
  have k1 := (Keep.new w #[.slice A n c] 36).alloc (Obj.cells #[.int .i64 s.params, .int .i64 s.vars, .slice A1 n1 c1, .slice A2 n2 c2, .slice A3 n3 c3] 82)
  have k2 := Keep.new (w.alloc (Obj.cells #[.slice A n c] 36)) #[.int .i64 s.params, .int .i64 s.vars, .slice A1 n1 c1, .slice A2 n2 c2, .slice A3 n3 c3] 82
  rw [World.size_alloc] at k2
  have hsz := cdB_iff s |>.1 hi
  rw [hs.sites.1, hs.ins.1, hs.rows.1] at hsz
  have HSZ := put hsz
  have l1 : n1 ≤ 4 := by omega
  have l2 : n2 ≤ 300 := by omega
  have l3 : n3 ≤ 300 := by omega
  clear hsz hi
  unfold cdV
  have E := put (show s.sites.length = n1 ∧ cs.length = n from ⟨hs.sites.1, hr.1⟩)
  have hins := hs.ins
  clear hr hs
  go_enter Tryz.func103, Tryz.ntmps103
  go_wp2
  generalize hW : (w.alloc (Obj.cells #[.slice A n c] 36)).alloc (Obj.cells #[.int .i64 s.params, .int .i64 s.vars, .slice A1 n1 c1, .slice A2 n2 c2, .slice A3 n3 c3] 82) = W0 at hb k1 k2 ⊢
  clear hW
  have hbw := hb
  clear hb
  go_loopw [10] (fun i wr => ∃ k : Nat, k ≤ n2 ∧ i = .int .i64 k ∧ Hid (∀ t ∈ s.ins.take k, nmB cs s t = true) ∧ Below W0.heap.size W0 wr) (fun i _ => n2 - (intOf i).toNat)
  case atStart => exact ⟨0, Nat.zero_le _, rfl, put (fun t h => by simp at h), Below.refl _ _⟩
  case round =>
    obtain ⟨k, hk, rfl, hall, hbel⟩ := hrel
    by_cases hlt : k < n2
    · obtain ⟨b, off, op, x, rfl, hb', hc1, hc2, hxt⟩ := (hins.below (hbw.trans (hbel.mono hbw.size))).at_ hlt
      have hb3 := hbel.alloc hbel.size (.cells #[.int .i64 op, .int .i64 x] 129)
      have y0 := ((k1.below hbel).alloc (.cells #[.int .i64 op, .int .i64 x] 129)).cell 0
      have z1 := ((k2.below hbel).alloc (.cells #[.int .i64 op, .int .i64 x] 129)).cell 1
      have z2 := ((k2.below hbel).alloc (.cells #[.int .i64 op, .int .i64 x] 129)).cell 2
      simp at y0 z1 z2
      by_cases o2 : op = 2
      · subst o2
        by_cases hx : x < s.vars
        · have hall2 := put (all_more (p := nmB cs s) hall.out hxt.out (show decide _ = true from decide_eq_true (by have := E.out; omega)))
          go_wp2
          go_roundw
          case rel => exact ⟨k + 1, by omega, by go_num, hall2, hb3⟩
          case measure => simp [intOf]; omega
        · have hx' : s.vars ≤ x := by omega
          have HNO := put (show namedB cs s = false from no_of fun h => by have h1 := (namedB_iff cs s).1 h _ (mem_of_at hxt.out); have h2 := of_decide_eq_true (show decide _ = true from h1); have := E.out; omega)
          clear hx
          go_wp2
          go_ret
          exact ⟨ret_bool HNO.out.symm, hbw.trans (hb3.mono hbw.size)⟩
      by_cases o3 : op = 3
      · subst o3
        by_cases hx : x < s.vars
        · have hall2 := put (all_more (p := nmB cs s) hall.out hxt.out (show decide _ = true from decide_eq_true (by have := E.out; omega)))
          go_wp2
          go_roundw
          case rel => exact ⟨k + 1, by omega, by go_num, hall2, hb3⟩
          case measure => simp [intOf]; omega
        · have hx' : s.vars ≤ x := by omega
          have HNO := put (show namedB cs s = false from no_of fun h => by have h1 := (namedB_iff cs s).1 h _ (mem_of_at hxt.out); have h2 := of_decide_eq_true (show decide _ = true from h1); have := E.out; omega)
          clear hx
          go_wp2
          go_ret
          exact ⟨ret_bool HNO.out.symm, hbw.trans (hb3.mono hbw.size)⟩
      by_cases o12 : op = 12
      · subst o12
        by_cases hx : x < (n1 : Int)
        · have hall2 := put (all_more (p := nmB cs s) hall.out hxt.out (show decide _ = true from decide_eq_true (by have := E.out; omega)))
          go_wp2
          go_roundw
          case rel => exact ⟨k + 1, by omega, by go_num, hall2, hb3⟩
          case measure => simp [intOf]; omega
        · have hx' : (n1 : Int) ≤ x := by omega
          have HNO := put (show namedB cs s = false from no_of fun h => by have h1 := (namedB_iff cs s).1 h _ (mem_of_at hxt.out); have h2 := of_decide_eq_true (show decide _ = true from h1); have := E.out; omega)
          clear hx
          go_wp2
          go_ret
          exact ⟨ret_bool HNO.out.symm, hbw.trans (hb3.mono hbw.size)⟩
      by_cases o17 : op = 17
      · subst o17
        by_cases hx : x < (n1 : Int)
        · have hall2 := put (all_more (p := nmB cs s) hall.out hxt.out (show decide _ = true from decide_eq_true (by have := E.out; omega)))
          go_wp2
          go_roundw
          case rel => exact ⟨k + 1, by omega, by go_num, hall2, hb3⟩
          case measure => simp [intOf]; omega
        · have hx' : (n1 : Int) ≤ x := by omega
          have HNO := put (show namedB cs s = false from no_of fun h => by have h1 := (namedB_iff cs s).1 h _ (mem_of_at hxt.out); have h2 := of_decide_eq_true (show decide _ = true from h1); have := E.out; omega)
          clear hx
          go_wp2
          go_ret
          exact ⟨ret_bool HNO.out.symm, hbw.trans (hb3.mono hbw.size)⟩
      by_cases o7 : op = 7
      · subst o7
        by_cases hx : x < (n : Int)
        · have hall2 := put (all_more (p := nmB cs s) hall.out hxt.out (show decide _ = true from decide_eq_true (by have := E.out; omega)))
          go_wp2
          go_roundw
          case rel => exact ⟨k + 1, by omega, by go_num, hall2, hb3⟩
          case measure => simp [intOf]; omega
        · have hx' : (n : Int) ≤ x := by omega
          have HNO := put (show namedB cs s = false from no_of fun h => by have h1 := (namedB_iff cs s).1 h _ (mem_of_at hxt.out); have h2 := of_decide_eq_true (show decide _ = true from h1); have := E.out; omega)
          clear hx
          go_wp2
          go_ret
          exact ⟨ret_bool HNO.out.symm, hbw.trans (hb3.mono hbw.size)⟩
      have hall2 := put (all_more (p := nmB cs s) hall.out hxt.out (nmB_other (by omega)))
      have q2 := beq_of o2
      have q3 := beq_of o3
      have q12 := beq_of o12
      have q17 := beq_of o17
      have q7 := beq_of o7
      clear o2 o3 o12 o17 o7
      go_wp2
      go_roundw
      case rel => exact ⟨k + 1, by omega, by go_num, hall2, hb3⟩
      case measure => simp [intOf]; omega
    · have hfin := put (show s.ins.take k = s.ins from List.take_of_length_le (by rw [hins.1]; omega))
      have HYES := put ((namedB_iff cs s).2 (by have := hall.out; rwa [hfin.out] at this))
      go_wp2
      go_ret
      exact ⟨ret_bool HYES.out.symm, hbw.trans (hbel.mono hbw.size)⟩

set_option maxHeartbeats 2000000 in
set_option maxRecDepth 100000 in
theorem l5SitesGood_any (A : Option Addr) (n c : Nat) (cs : List Cd) (s : Cd) (A1 : Option Addr) (n1 c1 : Nat) (A2 : Option Addr) (n2 c2 : Nat) (A3 : Option Addr) (n3 c3 : Nat) (w : World) (hr : ReadsC w w.heap.size A n cs) (hs : IsCd w w.heap.size s A1 n1 A2 n2 A3 n3) (hn : n ≤ 5) (hi : cdB s = true) :
    Calls Tryz.prog 104 #[.agg #[.slice A n c], cdV s A1 n1 c1 A2 n2 c2 A3 n3 c3] w fun e w' => e = .returned (.bool (sitesB cs s)) ∧ Below w.heap.size w w' := by
  have hb := ((Below.refl w.heap.size w).alloc (Nat.le_refl _) (Obj.cells #[.slice A n c] 36)).alloc (by simp) (Obj.cells #[.int .i64 s.params, .int .i64 s.vars, .slice A1 n1 c1, .slice A2 n2 c2, .slice A3 n3 c3] 82)
  have k1 := (Keep.new w #[.slice A n c] 36).alloc (Obj.cells #[.int .i64 s.params, .int .i64 s.vars, .slice A1 n1 c1, .slice A2 n2 c2, .slice A3 n3 c3] 82)
  have k2 := Keep.new (w.alloc (Obj.cells #[.slice A n c] 36)) #[.int .i64 s.params, .int .i64 s.vars, .slice A1 n1 c1, .slice A2 n2 c2, .slice A3 n3 c3] 82
  rw [World.size_alloc] at k2
  have hsz := cdB_iff s |>.1 hi
  rw [hs.sites.1, hs.ins.1, hs.rows.1] at hsz
  have HSZ := put hsz
  have l1 : n1 ≤ 4 := by omega
  have l2 : n2 ≤ 300 := by omega
  have l3 : n3 ≤ 300 := by omega
  clear hsz hi
  unfold cdV
  have E := put hr.1
  have hst := hs.sites
  clear hs
  go_enter Tryz.func104, Tryz.ntmps104
  go_wp2
  generalize hW : (w.alloc (Obj.cells #[.slice A n c] 36)).alloc (Obj.cells #[.int .i64 s.params, .int .i64 s.vars, .slice A1 n1 c1, .slice A2 n2 c2, .slice A3 n3 c3] 82) = W0 at hb k1 k2 ⊢
  clear hW
  have y0 := k1.cell 0
  simp at y0
  go_loopw [10] (fun i wr => ∃ k : Nat, k ≤ n1 ∧ i = .int .i64 k ∧ Hid (∀ t ∈ s.sites.take k, stB cs t = true) ∧ wr = W0) (fun i _ => n1 - (intOf i).toNat)
  case atStart => exact ⟨0, Nat.zero_le _, rfl, put (fun t h => by simp at h), rfl⟩
  case round =>
    obtain ⟨k, hk, rfl, hall, rfl⟩ := hrel
    by_cases hlt : k < n1
    · obtain ⟨b, off, x, rfl, hb', hc1, hxt⟩ := (hst.below hb).at_ hlt
      by_cases hx : 0 ≤ x ∧ x ≤ (n : Int) - 1
      · have q := within_yes hx
        obtain ⟨j, rfl⟩ : ∃ j : Nat, x = (j : Int) := ⟨x.toNat, by omega⟩
        obtain ⟨b2, off2, d, B1, m1, d1, B2, m2, d2, B3, m3, d3, rfl, hb2', g0, g1, g2, g3, g4, r1, r2, r3, hd⟩ := (hr.below hb).at_ (show j < n by omega)
        have hv := stB_at hd.out
        have hjn : j < n := by omega
        clear g1 g2 g3 g4 r1 r2 r3 hx
        by_cases hp : d.params = 0
        · rw [hp] at hv g0
          have hall2 := put (all_more (p := stB cs) hall.out hxt.out (by rw [hv]; rfl))
          clear hv
          go_wp2_with fail
          refine (l1In_any (j : Int) 0 ((n : Int) - 1) _).mono ?_
          rintro e w1 ⟨rfl, rfl⟩
          rw [q]
          go_wp2
          go_roundw
          case rel => exact ⟨k + 1, by omega, by go_num, hall2, trivial⟩
          case measure => simp [intOf]; omega
        · have hp' := beq_of hp
          have HNO := put (show sitesB cs s = false from no_of fun h => by have h1 := (sitesB_iff cs s).1 h _ (mem_of_at hxt.out); rw [hv, hp'] at h1; cases h1)
          clear hv
          go_wp2_with fail
          refine (l1In_any (j : Int) 0 ((n : Int) - 1) _).mono ?_
          rintro e w1 ⟨rfl, rfl⟩
          rw [q]
          go_wp2
          go_ret
          exact ⟨ret_bool HNO.out.symm, hb⟩
      · have q := within_no hx
        have HNO := put (show sitesB cs s = false from no_of fun h => by have h1 := (sitesB_iff cs s).1 h _ (mem_of_at hxt.out); rw [stB_neg (by rw [E.out]; exact hx)] at h1; cases h1)
        clear hx
        go_wp2_with fail
        refine (l1In_any x 0 ((n : Int) - 1) _).mono ?_
        rintro e w1 ⟨rfl, rfl⟩
        rw [q]
        go_wp2
        go_ret
        exact ⟨ret_bool HNO.out.symm, hb⟩
    · have hfin := put (show s.sites.take k = s.sites from List.take_of_length_le (by rw [hst.1]; omega))
      have HYES := put ((sitesB_iff cs s).2 (by have := hall.out; rwa [hfin.out] at this))
      go_wp2
      go_ret
      exact ⟨ret_bool HYES.out.symm, hb⟩

set_option maxHeartbeats 1000000 in
set_option maxRecDepth 100000 in
theorem l1All_any (v : Value) (xs : List Int) (lo hi : Int) (B : Nat) (w : World) (h : Nums w B 3 .i64 v xs) (hn : xs.length ≤ 1048576) :
    Calls Tryz.prog 109 #[v, .int .i64 lo, .int .i64 hi] w fun e w' => e = .returned (.bool (xs.all fun x => within x lo hi)) ∧ w = w' := by
  obtain ⟨A, c, rfl, hr⟩ := h.reads
  clear h
  obtain ⟨m, hm⟩ : ∃ m, xs.length = m := ⟨_, rfl⟩
  rw [hm] at hr hn ⊢
  go_enter Tryz.func109, Tryz.ntmps109
  go_wp2
  go_loopw [11] (fun i wr => ∃ k : Nat, k ≤ m ∧ i = .int .i64 k ∧ Hid (∀ t ∈ xs.take k, within t lo hi = true) ∧ wr = w) (fun i _ => m - (intOf i).toNat)
  case atStart => exact ⟨0, Nat.zero_le _, rfl, put (fun t h => by simp at h), rfl⟩
  case round =>
    obtain ⟨k, hk, rfl, hall, rfl⟩ := hrel
    by_cases hlt : k < m
    · obtain ⟨b, off, x, rfl, hb', hc1, hxt⟩ := hr.at_ hlt
      cases q : within x lo hi
      · have HNO := put (show (xs.all fun x => within x lo hi) = false from no_of fun h => by have h1 := List.all_eq_true.1 h _ (mem_of_at hxt.out); rw [q] at h1; cases h1)
        go_wp2_with fail
        refine (l1In_any x lo hi _).mono ?_
        rintro e w1 ⟨rfl, rfl⟩
        rw [q]
        go_wp2
        go_ret
        exact ⟨ret_bool HNO.out.symm, rfl⟩
      · have hall2 := put (all_more (p := fun x => within x lo hi) hall.out hxt.out q)
        go_wp2_with fail
        refine (l1In_any x lo hi _).mono ?_
        rintro e w1 ⟨rfl, rfl⟩
        rw [q]
        go_wp2
        go_roundw
        case rel => exact ⟨k + 1, by omega, by go_num, hall2, trivial⟩
        case measure => simp [intOf]; omega
    · have hfin := put (show xs.take k = xs from List.take_of_length_le (by omega))
      have HYES := put (show (xs.all fun x => within x lo hi) = true from List.all_eq_true.2 (by have := hall.out; rwa [hfin.out] at this))
      go_wp2
      go_ret
      exact ⟨ret_bool HYES.out.symm, rfl⟩

end Go.Proofs.YtpbkkjiikhjanaaGreatDoor

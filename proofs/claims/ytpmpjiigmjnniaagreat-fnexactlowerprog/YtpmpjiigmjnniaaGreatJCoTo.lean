/-
  Texts joined: CoTo CoTo2 LowC.
-/
import Derived.Test.YtpmpjiigmjnniaaGreatJLowT
import Derived.Test.YtpmpjiigmjnniaaGreatJTokMem
import Derived.Test.YtpmpjiigmjnniaaGreatJPrgTo2
import Derived.Test.YtpmpjiigmjnniaaGreatJAppN
/-
  The laws' copying of images: what is copied lies in blocks of its own.
-/
namespace Go.Proofs.YtpmpjiigmjnniaaGreat
open Go.RowKit Exs

def MToksI (w : World) (L : Nat) (A : Option Addr) (n : Nat) (ts : List Token) : Prop := ∃ g, A = some ⟨g, 0, none⟩ ∧ L ≤ g ∧ Room w g 83 (2 * n) .i64 (flat ts) ∧ ts.length = n
theorem MToksI.same {w w' : World} {L : Nat} {A : Option Addr} {n : Nat} {xs : List Token} (h : MToksI w L A n xs) (hs : SameFrom L w w') : MToksI w' L A n xs := by
  obtain ⟨g, e, hg, r, hl⟩ := h; exact ⟨g, e, hg, r.same (hs.mono hg), hl⟩
theorem MToksI.from {w : World} {L L' : Nat} {A : Option Addr} {n : Nat} {xs : List Token} (h : MToksI w L A n xs) (hL : L' ≤ L) : MToksI w L' A n xs := by
  obtain ⟨g, e, hg, r, hl⟩ := h; exact ⟨g, e, by omega, r, hl⟩
theorem MToksI.reads {w : World} {L : Nat} {A : Option Addr} {n : Nat} {xs : List Token} (h : MToksI w L A n xs) : ReadsT w w.heap.size A n xs := by
  obtain ⟨g, rfl, _, r, hl⟩ := h; exact r.readsT hl

def MRows (w : World) (L : Nat) (A : Option Addr) (n : Nat) (ts : List Row3) : Prop := ∃ g, A = some ⟨g, 0, none⟩ ∧ L ≤ g ∧ Room w g 85 (3 * n) .i64 (flat3 ts) ∧ ts.length = n
theorem MRows.same {w w' : World} {L : Nat} {A : Option Addr} {n : Nat} {xs : List Row3} (h : MRows w L A n xs) (hs : SameFrom L w w') : MRows w' L A n xs := by
  obtain ⟨g, e, hg, r, hl⟩ := h; exact ⟨g, e, hg, r.same (hs.mono hg), hl⟩
theorem MRows.from {w : World} {L L' : Nat} {A : Option Addr} {n : Nat} {xs : List Row3} (h : MRows w L A n xs) (hL : L' ≤ L) : MRows w L' A n xs := by
  obtain ⟨g, e, hg, r, hl⟩ := h; exact ⟨g, e, by omega, r, hl⟩
theorem Room.readsR {w : World} {g : Nat} {t : TypeId} {n : Nat} {ts : List Row3} (h : Room w g t (3 * n) .i64 (flat3 ts)) (hn : ts.length = n) : ReadsR w w.heap.size (some ⟨g, 0, none⟩) n ts :=
  ⟨hn, h.reads (by rw [flat3_length, hn])⟩
theorem MRows.reads {w : World} {L : Nat} {A : Option Addr} {n : Nat} {xs : List Row3} (h : MRows w L A n xs) : ReadsR w w.heap.size A n xs := by
  obtain ⟨g, rfl, _, r, hl⟩ := h; exact r.readsR hl
structure MCd (w : World) (L : Nat) (s : Cd) (A1 : Option Addr) (n1 : Nat) (A2 : Option Addr) (n2 : Nat) (A3 : Option Addr) (n3 : Nat) : Prop where
  sites : MInts w L A1 n1 s.sites
  ins : MToksI w L A2 n2 s.ins
  rows : MRows w L A3 n3 s.rows
theorem MCd.same {w w' : World} {L : Nat} {s : Cd} {A1 : Option Addr} {n1 : Nat} {A2 : Option Addr} {n2 : Nat} {A3 : Option Addr} {n3 : Nat} (h : MCd w L s A1 n1 A2 n2 A3 n3) (hs : SameFrom L w w') : MCd w' L s A1 n1 A2 n2 A3 n3 := ⟨h.sites.same hs, h.ins.same hs, h.rows.same hs⟩
theorem MCd.from {w : World} {L L' : Nat} {s : Cd} {A1 : Option Addr} {n1 : Nat} {A2 : Option Addr} {n2 : Nat} {A3 : Option Addr} {n3 : Nat} (h : MCd w L s A1 n1 A2 n2 A3 n3) (hL : L' ≤ L) : MCd w L' s A1 n1 A2 n2 A3 n3 := ⟨h.sites.from hL, h.ins.from hL, h.rows.from hL⟩

/-- Block g is a row of n codes of which the first ones are ss; what they lead to lies in later blocks. -/
def RoomC (w : World) (g n : Nat) (ss : List Cd) : Prop :=
  ∃ cs : Array Value, w.heap[g]? = some (.cells cs 30 (0, 0)) ∧ cs.size = n * 5 ∧ ∀ (j : Nat) (s : Cd), ss[j]? = some s → ∃ A1 n1 c1 A2 n2 c2 A3 n3 c3,
    cs[j * 5]? = some (.int .i64 s.params) ∧ cs[j * 5 + 1]? = some (.int .i64 s.vars) ∧ cs[j * 5 + 2]? = some (.slice A1 n1 c1) ∧ cs[j * 5 + 3]? = some (.slice A2 n2 c2) ∧ cs[j * 5 + 4]? = some (.slice A3 n3 c3) ∧ MCd w (g + 1) s A1 n1 A2 n2 A3 n3
theorem RoomC.lt {w : World} {g n : Nat} {ss : List Cd} (h : RoomC w g n ss) : g < w.heap.size := by
  obtain ⟨cs, h1, _⟩ := h; exact (Array.getElem?_eq_some_iff.1 h1).1
theorem RoomC.same {w w' : World} {g n : Nat} {ss : List Cd} (h : RoomC w g n ss) (hs : SameFrom g w w') : RoomC w' g n ss := by
  have hl := h.lt
  obtain ⟨cs, h1, h2, h3⟩ := h
  refine ⟨cs, (hs g (Nat.le_refl _) hl).trans h1, h2, fun j s hj => ?_⟩
  obtain ⟨A1, n1, c1, A2, n2, c2, A3, n3, c3, g0, g1, g2, g3, g4, m⟩ := h3 j s hj
  exact ⟨A1, n1, c1, A2, n2, c2, A3, n3, c3, g0, g1, g2, g3, g4, m.same (hs.mono (by omega))⟩
theorem RoomC.at_ {w : World} {g n : Nat} {ss : List Cd} (h : RoomC w g n ss) (j : Nat) (hj : j < n * 5) : ∃ v, w.cell? ⟨g, j, none⟩ = some v := by
  obtain ⟨cs, h1, h2, _⟩ := h
  exact ⟨cs[j], by rw [cell_of_row w g j cs 30 (0, 0) h1]; exact Array.getElem?_eq_getElem (by omega)⟩
theorem RoomC.frozen {w : World} {g n : Nat} {ss : List Cd} (h : RoomC w g n ss) (j : Nat) : w.frozen? ⟨g, j, none⟩ = false := by
  obtain ⟨cs, h1, _⟩ := h
  simp [World.frozen?, h1]
theorem RoomC.push {w : World} {g n : Nat} {ss : List Cd} (h : RoomC w g n ss) (hc : ss.length < n) (s : Cd) (A1 : Option Addr) (n1 c1 : Nat) (A2 : Option Addr) (n2 c2 : Nat) (A3 : Option Addr) (n3 c3 : Nat) (hm : MCd w (g + 1) s A1 n1 A2 n2 A3 n3) :
    RoomC (((((w.setCell ⟨g, ss.length * 5, none⟩ (.int .i64 s.params)).setCell ⟨g, ss.length * 5 + 1, none⟩ (.int .i64 s.vars)).setCell ⟨g, ss.length * 5 + 2, none⟩ (.slice A1 n1 c1)).setCell ⟨g, ss.length * 5 + 3, none⟩ (.slice A2 n2 c2)).setCell ⟨g, ss.length * 5 + 4, none⟩ (.slice A3 n3 c3)) g n (ss ++ [s]) := by
  have hsame : SameFrom (g + 1) w (((((w.setCell ⟨g, ss.length * 5, none⟩ (.int .i64 s.params)).setCell ⟨g, ss.length * 5 + 1, none⟩ (.int .i64 s.vars)).setCell ⟨g, ss.length * 5 + 2, none⟩ (.slice A1 n1 c1)).setCell ⟨g, ss.length * 5 + 3, none⟩ (.slice A2 n2 c2)).setCell ⟨g, ss.length * 5 + 4, none⟩ (.slice A3 n3 c3)) := by
    intro k hk _
    rw [Below.heap_setCell _ _ _ _ (show k ≠ g by omega), Below.heap_setCell _ _ _ _ (show k ≠ g by omega), Below.heap_setCell _ _ _ _ (show k ≠ g by omega), Below.heap_setCell _ _ _ _ (show k ≠ g by omega), Below.heap_setCell _ _ _ _ (show k ≠ g by omega)]
  obtain ⟨cs, h1, h2, h3⟩ := h
  refine ⟨_, heap_set (heap_set (heap_set (heap_set (heap_set h1)))), by simpa using h2, fun j s' hj => ?_⟩
  by_cases hl : j < ss.length
  · rw [List.getElem?_append_left hl] at hj
    obtain ⟨B1, m1, d1, B2, m2, d2, B3, m3, d3, g0, g1, g2, g3, g4, m⟩ := h3 j s' hj
    refine ⟨B1, m1, d1, B2, m2, d2, B3, m3, d3, ?_, ?_, ?_, ?_, ?_, m.same hsame⟩ <;> (simp only [Array.getElem?_setIfInBounds]; (repeat rw [if_neg (by omega)]); assumption)
  · have hj2 : j = ss.length := by
      have := (List.getElem?_eq_some_iff.1 hj).1
      simp at this; omega
    subst hj2
    rw [List.getElem?_append_right (Nat.le_refl _)] at hj
    simp at hj
    subst hj
    refine ⟨A1, n1, c1, A2, n2, c2, A3, n3, c3, ?_, ?_, ?_, ?_, ?_, hm.same hsame⟩ <;> (simp only [Array.getElem?_setIfInBounds, Array.size_setIfInBounds]; (repeat rw [if_neg (by omega)]); rw [if_pos trivial, if_pos (by omega)])
theorem RoomC.reads {w : World} {g n : Nat} {ss : List Cd} (h : RoomC w g n ss) (hn : ss.length = n) : ReadsC w w.heap.size (some ⟨g, 0, none⟩) n ss := by
  have hl := h.lt
  obtain ⟨cs, h1, h2, h3⟩ := h
  refine ⟨hn, fun _ => ⟨g, 0, rfl, hl, fun j s hj => ?_⟩⟩
  obtain ⟨A1, n1, c1, A2, n2, c2, A3, n3, c3, g0, g1, g2, g3, g4, m⟩ := h3 j s hj
  have hc := fun i => cell_of_row w g i cs 30 (0, 0) h1
  refine ⟨A1, n1, c1, A2, n2, c2, A3, n3, c3, ?_, ?_, ?_, ?_, ?_, m.sites.reads, m.ins.reads, m.rows.reads⟩ <;> (rw [Nat.zero_add, hc]; assumption)

def MCds (w : World) (L : Nat) (A : Option Addr) (n : Nat) (ss : List Cd) : Prop := ∃ g, A = some ⟨g, 0, none⟩ ∧ L ≤ g ∧ RoomC w g n ss ∧ ss.length = n
theorem MCds.same {w w' : World} {L : Nat} {A : Option Addr} {n : Nat} {xs : List Cd} (h : MCds w L A n xs) (hs : SameFrom L w w') : MCds w' L A n xs := by
  obtain ⟨g, e, hg, r, hl⟩ := h; exact ⟨g, e, hg, r.same (hs.mono hg), hl⟩
theorem MCds.from {w : World} {L L' : Nat} {A : Option Addr} {n : Nat} {xs : List Cd} (h : MCds w L A n xs) (hL : L' ≤ L) : MCds w L' A n xs := by
  obtain ⟨g, e, hg, r, hl⟩ := h; exact ⟨g, e, by omega, r, hl⟩
theorem MCds.reads {w : World} {L : Nat} {A : Option Addr} {n : Nat} {xs : List Cd} (h : MCds w L A n xs) : ReadsC w w.heap.size A n xs := by
  obtain ⟨g, rfl, _, r, hl⟩ := h; exact r.reads hl


end Go.Proofs.YtpmpjiigmjnniaaGreat

/-
  The laws' copying of images: contracts.
-/
namespace Go.Proofs.YtpmpjiigmjnniaaGreat
open Go.RowKit Exs

section
variable {w w' : World} {g g' i : Nat} {cs : Array Value} {t : TypeId} {v : Value}
end

theorem Tryz.info85 : (Tryz.prog.info? 85).map (fun i => (i.zero, i.size, i.bytes)) = some (some (.agg #[.int .i64 0, .int .i64 0, .int .i64 0]), 3, 24) := by kernel_rfl
theorem Tryz.info30 : (Tryz.prog.info? 30).map (fun i => (i.zero, i.size, i.bytes)) = some (some (.agg #[.int .i64 0, .int .i64 0, .slice none 0 0, .slice none 0 0, .slice none 0 0]), 5, 88) := by kernel_rfl

theorem Room.madeR (w : World) (t : TypeId) (n : Nat) (z : Array Value) (m : Nat) (hm : m = n * 3) : Room (w.alloc (.cells (madeCells z m) t)) w.heap.size t (3 * n) .i64 (flat3 []) :=
  ⟨_, heap_alloc_new _ _, by rw [size_madeCells]; omega, rfl⟩
theorem Room.pushR {w : World} {g : Nat} {t : TypeId} {n : Nat} {ts : List Row3} (h : Room w g t (3 * n) .i64 (flat3 ts)) (hc : ts.length < n) (x y z : Int) :
    Room (((w.setCell ⟨g, ts.length * 3, none⟩ (.int .i64 x)).setCell ⟨g, ts.length * 3 + 1, none⟩ (.int .i64 y)).setCell ⟨g, ts.length * 3 + 2, none⟩ (.int .i64 z)) g t (3 * n) .i64 (flat3 (ts ++ [(x, y, z)])) := by
  have hl := flat3_length ts
  have h1 := h.push (by omega) x
  have h2 := h1.push (by simp; omega) y
  have h3 := h2.push (by simp; omega) z
  rw [List.length_append, List.length_append, hl] at h3
  rw [List.length_append, hl] at h3
  rw [flat3_snoc]
  simpa [Nat.mul_comm] using h3

theorem RoomC.made (w : World) (n : Nat) (z : Array Value) (m : Nat) (hm : m = n * 5) : RoomC (w.alloc (.cells (madeCells z m) 30)) w.heap.size n [] :=
  ⟨_, heap_alloc_new _ _, by rw [size_madeCells]; omega, fun j s hj => by simp at hj⟩

end Go.Proofs.YtpmpjiigmjnniaaGreat

/-
  A function's code, plain; rows of a code in a row of the call's own; what the reference holds while it makes a code.
-/
namespace Go.Proofs.YtpmpjiigmjnniaaGreat
open Go.RowKit Exs

/-- What each site calls. -/
def siteN (f : Fc) (n : Int) : Int := match f.stmts[n.toNat]? with | some s => s.n | none => 0
def offsTo (K : Nat) : Nat → List Token
  | 0 => []
  | m + 1 => offsTo K m ++ [(17, (K : Int) - 1 - m)]
def rowsTo (pad : Int) : Nat → List Row3
  | 0 => []
  | m + 1 => rowsTo pad m ++ [(pad + m, pad + m + 1, pad + m + 1)]
theorem offsTo_length (K : Nat) : ∀ m, (offsTo K m).length = m
  | 0 => rfl
  | m + 1 => by simp [offsTo, offsTo_length K m]
theorem rowsTo_length (p : Int) : ∀ m, (rowsTo p m).length = m
  | 0 => rfl
  | m + 1 => by simp [rowsTo, rowsTo_length p m]
def lowIs (f : Fc) : List Token := lowB (lowSt f f.stmts.length) f.body 0 ++ [(16, 0)]
/-- The code of a function. -/
def lowC (f : Fc) : Cd := ⟨f.params, f.vars, (sitesL f).map (siteN f), lowIs f ++ offsTo (sitesL f).length (sitesL f).length ++ [(18, 0)], (0, ((lowIs f).length : Int), ((lowIs f).length : Int)) :: rowsTo (lowIs f).length (sitesL f).length⟩

/-- Rows in a row of the call's own. -/
def Rws (w : World) (B : Nat) (v : Value) (rs : List Row3) : Prop := w.ownsRow B 85 3 v rs.length ((flat3 rs).map (Value.int .i64))
theorem Rws.nil (w : World) (B : Nat) : Rws w B (.slice none 0 0) [] := World.ownsRow_nil _ _ _ _
theorem Rws.below {w w' : World} {B : Nat} {v : Value} {rs : List Row3} (h : Rws w B v rs) (hb : Below w.heap.size w w') : Rws w' B v rs := by
  refine ⟨h.1, ?_⟩
  rcases h.2 with h0 | ⟨g, cap, cur, hv, hB, hg, hc, hmx, hs, ht⟩
  · exact .inl h0
  · exact .inr ⟨g, cap, cur, hv, hB, (hb.block g (Array.getElem?_eq_some_iff.1 hg).1).trans hg, hc, hmx, hs, ht⟩
theorem Rws.under {w : World} {B B' : Nat} {v : Value} {rs : List Row3} (h : Rws w B v rs) (hB : B' ≤ B) : Rws w B' v rs := by
  refine ⟨h.1, ?_⟩
  rcases h.2 with h0 | ⟨g, cap, cur, hv, hg, r⟩
  · exact .inl h0
  · exact .inr ⟨g, cap, cur, hv, by omega, r⟩
theorem Rws.reads {w : World} {B : Nat} {v : Value} {rs : List Row3} (h : Rws w B v rs) : ∃ A c, v = .slice A rs.length c ∧ ReadsR w w.heap.size A rs.length rs := by
  rcases h.2 with ⟨rfl, h0⟩ | ⟨g, cap, cur, rfl, hB, hg, hc, hm, _⟩
  · rw [h0]
    exact ⟨none, 0, rfl, h0, by rw [flat3_length, h0], fun hn => absurd hn (by omega)⟩
  · refine ⟨some ⟨g, 0, none⟩, cap, rfl, rfl, flat3_length rs, fun hn => ⟨g, 0, rfl, (Array.getElem?_eq_some_iff.1 hg).1, fun j x hx => ?_⟩⟩
    have hj : j < (flat3 rs).length := (List.getElem?_eq_some_iff.1 hx).1
    rw [flat3_length] at hj
    rw [Nat.zero_add, World.ownsRow.cellAt h j (by omega)]
    simp [hx]
theorem Rws.lit (w : World) (a b c : Int) : Rws (w.alloc (.cells #[.int .i64 a, .int .i64 b, .int .i64 c] 85)) w.heap.size (.slice (some ⟨w.heap.size, 0, none⟩) 1 1) [(a, b, c)] :=
  World.ownsRow_lit w #[.int .i64 a, .int .i64 b, .int .i64 c] 1 (Nat.le_refl _) (by unfold maxLen; omega) rfl
theorem run_append_row (w : World) (B : Nat) (v : Value) (rs : List Row3) (h : Rws w B v rs) (hB : B ≤ w.heap.size) (g : Nat) (x y z : Int) (hc : w.cell? ⟨g, 0, none⟩ = some (.int .i64 x)) (hc1 : w.cell? ⟨g, 1, none⟩ = some (.int .i64 y)) (hc2 : w.cell? ⟨g, 2, none⟩ = some (.int .i64 z)) (hlen : rs.length ≤ 1000000) (ty : TypeId) :
    ∃ v' w', (Builtin.append_ #[28, 28] ty #[v, .slice (some ⟨g, 0, none⟩) 1 1]).run Tryz.prog w = .ok v' w' ∧ Rws w' B v' (rs ++ [(x, y, z)]) ∧ w.grownBy w' v.ownBlock := by
  obtain ⟨i0, hi, hz0, hz1, hz2⟩ := info_parts Tryz.info85
  have hnews : ∀ j u, [Value.int .i64 x, .int .i64 y, .int .i64 z][j]? = some u → w.cell? ((⟨g, 0, none⟩ : Addr).add j) = some u := by
    intro j u hj
    match j, hj with
    | 0, hj => simp at hj; subst hj; simpa [Addr.add] using hc
    | 1, hj => simp at hj; subst hj; simpa [Addr.add] using hc1
    | 2, hj => simp at hj; subst hj; simpa [Addr.add] using hc2
  have h1 : ∀ u ∈ [Value.int .i64 x, .int .i64 y, .int .i64 z], u.oneCell' = true := by intro u hu; simp at hu; rcases hu with rfl | rfl | rfl <;> rfl
  obtain ⟨v', w', hr, hown, hgr, _⟩ := run_append_own (P := Tryz.prog) w B 28 ty 85 i0 (.agg #[.int .i64 0, .int .i64 0, .int .i64 0]) 3 24 Tryz.underlying28 hi hz0 hz1 hz2 rfl (by decide) v rs.length _ h ⟨g, 0, none⟩ 1 1 [.int .i64 x, .int .i64 y, .int .i64 z] rfl hnews h1 (by unfold maxLen; omega) (by omega) hB
  refine ⟨v', w', hr, ?_, hgr⟩
  unfold Rws
  rw [flat3_snoc]
  simpa using hown
theorem wpList_append_row {w : World} {ops : Array Oper} {rest : List Oper} {o : Oper} {a : Act} {Q : Exit → Act → World → Prop} (hgd : o.guard = none) (s x : Operand) (ho : o.op = .call { callee := .builtin .append, args := #[s, x], argTypes := #[28, 28] }) (B : Nat) (v : Value) (rs : List Row3) (hs : a.eval s = v) (hB : B ≤ w.heap.size) (hown : Rws w B v rs)
    (g : Nat) (p y z : Int) (hx : a.eval x = .slice (some ⟨g, 0, none⟩) 1 1) (hc : w.cell? ⟨g, 0, none⟩ = some (.int .i64 p)) (hc1 : w.cell? ⟨g, 1, none⟩ = some (.int .i64 y)) (hc2 : w.cell? ⟨g, 2, none⟩ = some (.int .i64 z)) (hlen : rs.length ≤ 1000000)
    (h : ∀ v' w', Rws w' B v' (rs ++ [(p, y, z)]) → w.grownBy w' v.ownBlock → wpList Tryz.prog ops Q rest (a.put o.dst v') w') : wpList Tryz.prog ops Q (o :: rest) a w := by
  obtain ⟨v', w', hr, h2, h3⟩ := run_append_row w B v rs hown hB g p y z hc hc1 hc2 hlen o.type
  refine wpList_plain hgd fun K hK => ?_
  unfold Oper.wp execOp
  simp only [ho, resolve, invoke, builtin, Sem.run_bind, Sem.run_pure, Result.andThen_ok, List.map_toArray, List.map_cons, List.map_nil, hs, hx, hr]
  exact hK _ _ (h v' w' h2 h3)

/-- A block of another type than a row's is not where that row lies. -/
theorem apart {w : World} {B e size n : Nat} {v : Value} {xs : List Value} (h : w.ownsRow B e size v n xs) {g : Nat} {cs : Array Value} {t : TypeId} {fz : Nat × Nat} (hg : w.heap[g]? = some (.cells cs t fz)) (ht : t ≠ e) : some g ≠ v.ownBlock := by
  rcases h.2 with ⟨rfl, _⟩ | ⟨g', cap, cur, rfl, _, hh, _⟩
  · exact fun e => by cases e
  · intro e1
    have e2 : g = g' := by injection e1
    subst e2
    rw [hg] at hh
    injection hh with hh
    injection hh with _ hh _
    exact ht hh
theorem Keep.apart {w w' : World} {B e size n : Nat} {v : Value} {xs : List Value} {g : Nat} {cs : Array Value} {t : TypeId} (h : Keep w g cs t) (hg : w.grownBy w' v.ownBlock) (ho : w.ownsRow B e size v n xs) (ht : t ≠ e) : Keep w' g cs t := (hg.block g h.lt (Go.Proofs.YtpmpjiigmjnniaaGreat.apart ho h ht)).trans h
theorem ownsRow_apart {w w' : World} {B e size n B' e' size' n' : Nat} {v v' : Value} {xs xs' : List Value} (h : w.ownsRow B e size v n xs) (hg : w.grownBy w' v'.ownBlock) (ho : w.ownsRow B' e' size' v' n' xs') (ht : e ≠ e') : w'.ownsRow B e size v n xs := by
  refine ⟨h.1, ?_⟩
  rcases h.2 with h0 | ⟨g, cap, cur, hv, hB, hh, r⟩
  · exact .inl h0
  · exact .inr ⟨g, cap, cur, hv, hB, (hg.block g (Array.getElem?_eq_some_iff.1 hh).1 (apart ho hh ht)).trans hh, r⟩

theorem row_other {w : World} {B e size n g i : Nat} {v u : Value} {xs : List Value} (h : w.ownsRow B e size v n xs) (hg : g < B) : (w.setCell ⟨g, i, none⟩ u).ownsRow B e size v n xs := by
  refine ⟨h.1, ?_⟩
  rcases h.2 with h0 | ⟨g', cap, cur, hv, hB, hh, r⟩
  · exact .inl h0
  · exact .inr ⟨g', cap, cur, hv, hB, (Below.heap_setCell w ⟨g, i, none⟩ u g' (show g' ≠ g by omega)).trans hh, r⟩
/-- A code in the making: its box, and the rows that it names. -/
structure CSt (W : World) (B C : Nat) (pa va : Int) (vs vi vr : Value) (xs : List Int) (is : List Token) (rs : List Row3) : Prop where
  box : Keep W C #[.int .i64 pa, .int .i64 va, vs, vi, vr] 30
  sites : Nums W B 3 .i64 vs xs
  ins : Inss W B vi is
  rows : Rws W B vr rs
/-- A code whose rows are the call's own. -/
structure OwnCd (W : World) (B : Nat) (C : Cd) (vs vi vr : Value) : Prop where
  sites : Nums W B 3 .i64 vs C.sites
  ins : Inss W B vi C.ins
  rows : Rws W B vr C.rows
theorem OwnCd.under {W : World} {B B' : Nat} {C : Cd} {vs vi vr : Value} (h : OwnCd W B C vs vi vr) (hB : B' ≤ B) : OwnCd W B' C vs vi vr := ⟨h.sites.more hB, h.ins.under hB, h.rows.under hB⟩
theorem OwnCd.below {W W' : World} {B : Nat} {C : Cd} {vs vi vr : Value} (h : OwnCd W B C vs vi vr) (hb : Below W.heap.size W W') : OwnCd W' B C vs vi vr := ⟨h.sites.belowNew hb, h.ins.below hb, h.rows.below hb⟩
theorem OwnCd.is {W : World} {B : Nat} {C : Cd} {vs vi vr : Value} (h : OwnCd W B C vs vi vr) : ∃ A1 n1 c1 A2 n2 c2 A3 n3 c3, vs = .slice A1 n1 c1 ∧ vi = .slice A2 n2 c2 ∧ vr = .slice A3 n3 c3 ∧ IsCd W W.heap.size C A1 n1 A2 n2 A3 n3 := by
  obtain ⟨A1, c1, e1, r1⟩ := h.sites.reads
  obtain ⟨A2, c2, e2, r2⟩ := h.ins.reads
  obtain ⟨A3, c3, e3, r3⟩ := h.rows.reads
  exact ⟨A1, _, c1, A2, _, c2, A3, _, c3, e1, e2, e3, ⟨r1, r2, r3⟩⟩
section
variable {W W' : World} {B C : Nat} {pa va : Int} {vs vi vr v' : Value} {xs xs' : List Int} {is is' : List Token} {rs rs' : List Row3}
theorem CSt.below (h : CSt W B C pa va vs vi vr xs is rs) (hb : Below W.heap.size W W') : CSt W' B C pa va vs vi vr xs is rs := ⟨h.box.below hb, h.sites.belowNew hb, h.ins.below hb, h.rows.below hb⟩
theorem CSt.grownS (h : CSt W B C pa va vs vi vr xs is rs) (hC : C < B) (hg : W.grownBy W' vs.ownBlock) (hn : Nums W' B 3 .i64 v' xs') : CSt (W'.setCell ⟨C, 2, none⟩ v') B C pa va v' vi vr xs' is rs := by
  have hx : W.ownsRow B 3 1 vs xs.length (xs.map (Value.int .i64)) := h.sites
  have hi := ownsRow_apart h.ins hg hx (by decide)
  have hr := ownsRow_apart h.rows hg hx (by decide)
  have hk := (h.box.apart hg hx (by decide)).set 2 v'
  exact ⟨by simpa using hk, row_other (show W'.ownsRow B 3 1 v' xs'.length (xs'.map (Value.int .i64)) from hn) hC, row_other hi hC, row_other hr hC⟩
theorem CSt.grownI (h : CSt W B C pa va vs vi vr xs is rs) (hC : C < B) (hg : W.grownBy W' vi.ownBlock) (hn : Inss W' B v' is') : CSt (W'.setCell ⟨C, 3, none⟩ v') B C pa va vs v' vr xs is' rs := by
  have hx := ownsRow_apart (show W.ownsRow B 3 1 vs xs.length (xs.map (Value.int .i64)) from h.sites) hg h.ins (by decide)
  have hr := ownsRow_apart h.rows hg h.ins (by decide)
  have hk := (h.box.apart hg h.ins (by decide)).set 3 v'
  exact ⟨by simpa using hk, row_other hx hC, row_other hn hC, row_other hr hC⟩
theorem CSt.grownR (h : CSt W B C pa va vs vi vr xs is rs) (hC : C < B) (hg : W.grownBy W' vr.ownBlock) (hn : Rws W' B v' rs') : CSt (W'.setCell ⟨C, 4, none⟩ v') B C pa va vs vi v' xs is rs' := by
  have hx := ownsRow_apart (show W.ownsRow B 3 1 vs xs.length (xs.map (Value.int .i64)) from h.sites) hg h.rows (by decide)
  have hi := ownsRow_apart h.ins hg h.rows (by decide)
  have hk := (h.box.apart hg h.rows (by decide)).set 4 v'
  exact ⟨by simpa using hk, row_other hx hC, row_other hi hC, row_other hn hC⟩
theorem CSt.putI (h : CSt W B C pa va vs vi vr xs is rs) (hC : C < B) (hn : Inss W B v' is') : CSt (W.setCell ⟨C, 3, none⟩ v') B C pa va vs v' vr xs is' rs :=
  h.grownI hC (World.grownBy.refl _ _) hn
theorem CSt.putR (h : CSt W B C pa va vs vi vr xs is rs) (hC : C < B) (hn : Rws W B v' rs') : CSt (W.setCell ⟨C, 4, none⟩ v') B C pa va vs vi v' xs is rs' :=
  h.grownR hC (World.grownBy.refl _ _) hn
end

end Go.Proofs.YtpmpjiigmjnniaaGreat

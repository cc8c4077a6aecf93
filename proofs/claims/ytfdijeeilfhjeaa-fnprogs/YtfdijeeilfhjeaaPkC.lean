/-
  Contracts of the reference's cursor, from which the laws draw their inputs: whatever it gives, it gives something within bounds, and turns nothing but itself.
  Contracts of the reference's drawn numbers.
  Contracts of the reference's cursor where it draws expressions: whatever it gives, it gives some tokens in a row of its own.
  Contracts of the reference's cursor where it draws expressions.
-/
import Derived.Test.YtfdijeeilfhjeaaPkA
import Derived.Test.YtfdijeeilfhjeaaRows
import Derived.Deep.QuietTactic
import Derived.BigQuiet
namespace Go.Proofs.Ytfdijeeilfhjeaa
open Go.RowKit

/-- Block g is a cursor over the bytes of a slice that lies ahead of it; it stands at most at place T. -/
def Cur (w : World) (g : Nat) (A : Option Addr) (n c T : Nat) : Prop :=
  ∃ (t z : Int) (bs : List Int), w.heap[g]? = some (.cells #[.slice A n c, .int .i64 t, .int .u64 z] 100 (0, 0)) ∧ 0 ≤ t ∧ t ≤ T ∧ 0 ≤ z ∧ z ≤ 18446744073709551615 ∧
    Reads w g .u8 A n bs ∧ (∀ x ∈ bs, 0 ≤ x ∧ x ≤ 255) ∧ n ≤ 1048576

/-- What a cursor's function gives: an int within bounds. -/
def Gives (k : IntKind) (lo hi : Int) (g : Nat) (A : Option Addr) (n c T : Nat) (w : World) (e : Ending) (w' : World) : Prop :=
  ∃ x : Int, lo ≤ x ∧ x ≤ hi ∧ e = .returned (.int k x) ∧ Cur w' g A n c T ∧ w.grownBy w' (some g)

theorem wrap_u64_range (y : Int) : 0 ≤ IntKind.u64.wrap y ∧ IntKind.u64.wrap y ≤ 18446744073709551615 := by rw [IntKind.wrap_u64]; omega
theorem and255 (y : Int) (h0 : 0 ≤ y) (h1 : y ≤ 18446744073709551615) : 0 ≤ wrap64 (bits .and .u64 y 255) ∧ wrap64 (bits .and .u64 y 255) ≤ 255 := by
  have e := u64_and y 255 h0 (by omega) (by decide) (by decide)
  rw [show (255 : Int).toNat = 255 from rfl, nat_mask8] at e
  rw [e, IntWalk.wrap64_in _ (by omega)]
  omega

theorem grownBy_drewN {a w : World} {row : Option Nat} (h : a.grownBy w row) (n : Nat) : a.grownBy (w.drewN n) row := ⟨h.os, h.tape, h.output, h.size, h.block⟩
theorem grownBy_put {a w : World} {g : Nat} (h : a.grownBy w (some g)) (j : Nat) (u : Value) : a.grownBy (w.setCell ⟨g, j, none⟩ u) (some g) :=
  ⟨h.os, h.tape, h.output, by simpa [World.setCell] using h.size, fun i hi hne => (Below.heap_setCell w ⟨g, j, none⟩ u i (fun e => hne (by rw [e]))).trans (h.block i hi hne)⟩

/-- Behind writes to its own block, and new blocks, a cursor reads the same slice. -/
theorem Reads.grown {w w' : World} {g : Nat} {k : IntKind} {A : Option Addr} {n : Nat} {xs : List Int} (h : Reads w g k A n xs) (hg : w.grownBy w' (some g)) (hlt : g ≤ w.heap.size) : Reads w' g k A n xs :=
  ⟨h.1, fun hn => by
    obtain ⟨b, off, rfl, hB, hc⟩ := h.2 hn
    exact ⟨b, off, rfl, hB, fun j x hx => (World.cell?_of_block (a := ⟨b, off + j, none⟩) (hg.block b (by omega) (fun e => by injection e with e; omega))).trans (hc j x hx)⟩⟩

/-- A step of the cursor. -/
theorem Cur.step {w : World} {g : Nat} {A : Option Addr} {n c T : Nat} {t z : Int} {bs : List Int} (hg : w.heap[g]? = some (.cells #[.slice A n c, .int .i64 t, .int .u64 z] 100 (0, 0)))
    (hr : Reads w g .u8 A n bs) (hbs : ∀ x ∈ bs, 0 ≤ x ∧ x ≤ 255) (hn : n ≤ 1048576) (p q : Nat) (t' z' : Int) (h1 : 0 ≤ t') (h2 : t' ≤ T) (h3 : 0 ≤ z' ∧ z' ≤ 18446744073709551615) :
    Cur ((((w.drewN p).setCell ⟨g, 1, none⟩ (.int .i64 t')).setCell ⟨g, 2, none⟩ (.int .u64 z')).drewN q) g A n c T ∧
      w.grownBy ((((w.drewN p).setCell ⟨g, 1, none⟩ (.int .i64 t')).setCell ⟨g, 2, none⟩ (.int .u64 z')).drewN q) (some g) := by
  have hgr : w.grownBy ((((w.drewN p).setCell ⟨g, 1, none⟩ (.int .i64 t')).setCell ⟨g, 2, none⟩ (.int .u64 z')).drewN q) (some g) :=
    grownBy_drewN (grownBy_put (grownBy_put (grownBy_drewN (World.grownBy.refl _ _) p) 1 _) 2 _) q
  have hlt : g < w.heap.size := (Array.getElem?_eq_some_iff.1 hg).1
  refine ⟨⟨t', z', bs, ?_, h1, h2, h3.1, h3.2, hr.grown hgr (Nat.le_of_lt hlt), hbs, hn⟩, hgr⟩
  have hg' : (w.drewN p).heap[g]? = some (.cells #[.slice A n c, .int .i64 t, .int .u64 z] 100 (0, 0)) := hg
  have e1 : ((w.drewN p).setCell ⟨g, 1, none⟩ (.int .i64 t')).heap[g]? = some (.cells #[.slice A n c, .int .i64 t', .int .u64 z] 100 (0, 0)) := by
    simp only [World.setCell, Array.getElem?_modify, hg']
    rfl
  show (((w.drewN p).setCell ⟨g, 1, none⟩ (.int .i64 t')).setCell ⟨g, 2, none⟩ (.int .u64 z')).heap[g]? = _
  generalize (w.drewN p).setCell ⟨g, 1, none⟩ (.int .i64 t') = w1 at e1
  simp only [World.setCell, Array.getElem?_modify, e1]
  rfl

set_option maxHeartbeats 400000 in
set_option maxRecDepth 100000 in
theorem next_any (g : Nat) (A : Option Addr) (n c T : Nat) (w : World) (hc : Cur w g A n c T) (hT : T ≤ 1000000) :
    Calls Try.prog 94 #[.pointer (some ⟨g, 0, none⟩)] w (Gives .i64 0 255 g A n c (T + 1) w) := by
  obtain ⟨t, z, bs, hg, ht0, htT, hz0, hz1, hr, hbs, hn⟩ := hc
  have c0 : w.cell? ⟨g, 0, none⟩ = some (.slice A n c) := by rw [cell_of_row w g 0 _ 100 (0, 0) hg]; rfl
  have c1 : w.cell? ⟨g, 1, none⟩ = some (.int .i64 t) := by rw [cell_of_row w g 1 _ 100 (0, 0) hg]; rfl
  have c2 : w.cell? ⟨g, 2, none⟩ = some (.int .u64 z) := by rw [cell_of_row w g 2 _ 100 (0, 0) hg]; rfl
  have f1 : w.frozen? ⟨g, 1, none⟩ = false := by simp [World.frozen?, hg]
  have f2 : w.frozen? ⟨g, 2, none⟩ = false := by simp [World.frozen?, hg]
  have HG := put hg; clear hg
  by_cases hlt : t < n
  · obtain ⟨j, rfl⟩ := Int.eq_ofNat_of_zero_le ht0
    obtain ⟨b, off, x, rfl, hb, hx, hxx⟩ := hr.at_ (j := j) (by omega)
    have hx1 := hbs x (List.mem_of_getElem? hxx.out)
    go_enter Try.func94, Try.ntmps94
    go_wp2
    go_quiet (fail)
    go_wp2
    go_quiet (fail)
    go_wp2
    go_quiet (fail)
    go_wp2
    go_ret
    have hst := Cur.step HG.out hr hbs hn (T := T + 1)
    exact ⟨x, hx1.1, hx1.2, rfl, hst _ _ _ _ (by omega) (by omega) (wrap_u64_range _)⟩
  · go_enter Try.func94, Try.ntmps94
    go_wp2
    go_quiet (fail)
    go_wp2
    go_quiet (fail)
    go_wp2
    go_ret
    have hst := Cur.step HG.out hr hbs hn (T := T + 1)
    have hv := and255 (IntKind.u64.wrap (IntKind.u64.wrap (IntKind.u64.wrap (z * 6364136223846793005)) + 1442695040888963407) / 1099511627776) (by have := wrap_u64_range (IntKind.u64.wrap (IntKind.u64.wrap (z * 6364136223846793005)) + 1442695040888963407); omega) (by have := wrap_u64_range (IntKind.u64.wrap (IntKind.u64.wrap (z * 6364136223846793005)) + 1442695040888963407); omega)
    exact ⟨_, hv.1, hv.2, rfl, hst _ _ _ _ (by omega) (by omega) (wrap_u64_range _)⟩

theorem Cur.more {w : World} {g : Nat} {A : Option Addr} {n c T T' : Nat} (h : Cur w g A n c T) (hT : T ≤ T') : Cur w g A n c T' := by
  obtain ⟨t, z, bs, h1, h2, h3, h4⟩ := h
  exact ⟨t, z, bs, h1, h2, by omega, h4⟩
theorem Cur.lt {w : World} {g : Nat} {A : Option Addr} {n c T : Nat} (h : Cur w g A n c T) : g < w.heap.size := by
  obtain ⟨t, z, bs, h1, _⟩ := h
  exact (Array.getElem?_eq_some_iff.1 h1).1
theorem Cur.below {w w' : World} {g C : Nat} {A : Option Addr} {n c T : Nat} (h : Cur w g A n c T) (hb : Below C w w') (hC : g < C) : Cur w' g A n c T := by
  obtain ⟨t, z, bs, h1, h2, h3, h4, h5, h6, h7⟩ := h
  exact ⟨t, z, bs, (hb.block g hC).trans h1, h2, h3, h4, h5, h6.below (hb.mono (Nat.le_of_lt hC)), h7⟩
theorem Cur.alloc {w : World} {g : Nat} {A : Option Addr} {n c T : Nat} (h : Cur w g A n c T) (o : Obj) : Cur (w.alloc o) g A n c T :=
  h.below ((Below.refl w.heap.size w).alloc (Nat.le_refl _) o) h.lt
theorem grownBy_alloc' {a w : World} {row : Option Nat} (h : a.grownBy w row) (o : Obj) : a.grownBy (w.alloc o) row :=
  ⟨h.os, h.tape, h.output, Nat.le_trans h.size (by simp), fun i hi hne => (Below.heap_alloc w o i (Nat.lt_of_lt_of_le hi h.size)).trans (h.block i hi hne)⟩
theorem grownBy_trans {a b c : World} {row : Option Nat} (h : a.grownBy b row) (k : b.grownBy c row) : a.grownBy c row :=
  ⟨k.os.trans h.os, k.tape.trans h.tape, k.output.trans h.output, Nat.le_trans h.size k.size, fun i hi hne => (k.block i (Nat.lt_of_lt_of_le hi h.size) hne).trans (h.block i hi hne)⟩

set_option maxHeartbeats 400000 in
set_option maxRecDepth 100000 in
theorem pick_any (g : Nat) (A : Option Addr) (n c T : Nat) (m : Int) (w : World) (hc : Cur w g A n c T) (hT : T ≤ 900000) (h1 : 1 ≤ m) (h2 : m ≤ 65536) :
    Calls Try.prog 69 #[.pointer (some ⟨g, 0, none⟩), .int .i64 m] w (Gives .i64 0 (m - 1) g A n c (T + 2) w) := by
  by_cases hm : m ≤ 1
  · go_enter Try.func69, Try.ntmps69
    go_wp2
    go_ret
    exact ⟨0, by omega, by omega, rfl, hc.more (by omega), World.grownBy.refl _ _⟩
  · by_cases hm2 : m ≤ 200
    · go_enter Try.func69, Try.ntmps69
      go_wp2_with fail
      refine (next_any g A n c T _ hc (by omega)).mono ?_
      rintro e w1 ⟨x, hx0, hx1, rfl, hc1, hg1⟩
      have hmod := Int.emod_nonneg x (show m ≠ 0 by omega)
      have hlt := Int.emod_lt_of_pos x (show 0 < m by omega)
      go_wp2
      go_ret
      exact ⟨x % m, hmod, by omega, rfl, hc1.more (by omega), hg1⟩
    · go_enter Try.func69, Try.ntmps69
      go_wp2_with fail
      refine (next_any g A n c T _ hc (by omega)).mono ?_
      rintro e w1 ⟨x, hx0, hx1, rfl, hc1, hg1⟩
      go_wp2_with fail
      refine (next_any g A n c (T + 1) _ hc1 (by omega)).mono ?_
      rintro e w2 ⟨y, hy0, hy1, rfl, hc2, hg2⟩
      have hmod := Int.emod_nonneg (x * 256 + y) (show m ≠ 0 by omega)
      have hlt := Int.emod_lt_of_pos (x * 256 + y) (show 0 < m by omega)
      go_wp2
      go_ret
      exact ⟨(x * 256 + y) % m, hmod, by omega, rfl, hc2, grownBy_trans hg1 hg2⟩

/-- What 'one' gives. -/
def GivesBool (g : Nat) (A : Option Addr) (n c T : Nat) (w : World) (e : Ending) (w' : World) : Prop :=
  ∃ b : Bool, e = .returned (.bool b) ∧ Cur w' g A n c T ∧ w.grownBy w' (some g)

set_option maxHeartbeats 400000 in
set_option maxRecDepth 100000 in
theorem one_any (g : Nat) (A : Option Addr) (n c T : Nat) (m : Int) (w : World) (hc : Cur w g A n c T) (hT : T ≤ 900000) (h1 : 1 ≤ m) (h2 : m ≤ 65536) :
    Calls Try.prog 112 #[.pointer (some ⟨g, 0, none⟩), .int .i64 m] w (GivesBool g A n c (T + 2) w) := by
  go_enter Try.func112, Try.ntmps112
  go_wp2_with fail
  refine (pick_any g A n c T m _ hc hT h1 h2).mono ?_
  rintro e w1 ⟨x, hx0, hx1, rfl, hc1, hg1⟩
  go_wp2
  go_ret
  exact ⟨_, rfl, hc1, hg1⟩

set_option maxHeartbeats 400000 in
set_option maxRecDepth 100000 in
theorem among_any (g : Nat) (A : Option Addr) (n c T : Nat) (w : World) (hc : Cur w g A n c T) (hT : T ≤ 900000) (b m : Nat) (xs : List Int) (lo hi : Int) (hr : Room w b 3 m .i64 xs) (hx : xs.length = m) (hb : g < b) (h1 : 1 ≤ m) (h2 : m ≤ 65536) (hin : Hid (∀ x ∈ xs, lo ≤ x ∧ x ≤ hi)) :
    Calls Try.prog 125 #[.pointer (some ⟨g, 0, none⟩), .slice (some ⟨b, 0, none⟩) m m] w (Gives .i64 lo hi g A n c (T + 2) w) := by
  have HX := put hx; clear hx
  go_enter Try.func125, Try.ntmps125
  go_wp2_with fail
  refine (pick_any g A n c T m _ hc hT (by omega) (by omega)).mono ?_
  rintro e w1 ⟨x, hx0, hx1, rfl, hc1, hg1⟩
  obtain ⟨j, rfl⟩ := Int.eq_ofNat_of_zero_le hx0
  have hj : j < m := by omega
  have hcell := hr.cell j (by rw [HX.out]; exact hj)
  have hcell1 : w1.cell? ⟨b, j, none⟩ = some (.int .i64 (xs.getD j 0)) := (World.cell?_of_block (a := ⟨b, j, none⟩) (hg1.block b hr.lt (fun e => by injection e with e; omega))).trans hcell
  have hv : lo ≤ xs.getD j 0 ∧ xs.getD j 0 ≤ hi := by
    have hj' : j < xs.length := by rw [HX.out]; exact hj
    rw [List.getD, List.getElem?_eq_getElem hj']
    exact hin.out _ (List.getElem_mem hj')
  generalize xs.getD j 0 = y at *
  clear hcell
  go_wp2
  go_ret
  exact ⟨y, hv.1, hv.2, rfl, hc1, hg1⟩

end Go.Proofs.Ytfdijeeilfhjeaa
namespace Go.Proofs.Ytfdijeeilfhjeaa
open Go.RowKit

theorem Room.lit {w : World} {t : TypeId} {k : IntKind} {cs : Array Value} {xs : List Int} {n : Nat} (h : cs.toList = xs.map (Value.int k)) (hn : cs.size = n) : Room (w.alloc (.cells cs t)) w.heap.size t n k xs :=
  ⟨cs, heap_alloc_new _ _, hn, by rw [h, List.take_of_length_le (by simp)]⟩

def nineU : List Int := [0, 1, 127, 128, 16383, 16384, 9223372036854775807, 9223372036854775808, 18446744073709551615]
theorem nineU_range (j : Nat) (h : j < 9) : 0 ≤ nineU.getD j 0 ∧ nineU.getD j 0 ≤ 18446744073709551615 := by
  have : ∀ i : Fin 9, 0 ≤ nineU.getD i.val 0 ∧ nineU.getD i.val 0 ≤ 18446744073709551615 := by decide
  exact this ⟨j, h⟩

/-- What a drawn number is, made from bytes that came in: within bounds, and nothing that was there has turned. -/
def Drawn (k : IntKind) (lo hi : Int) (w : World) (e : Ending) (w' : World) : Prop := ∃ x : Int, lo ≤ x ∧ x ≤ hi ∧ e = .returned (.int k x) ∧ Below w.heap.size w w'

/-- A new cursor. -/
theorem Cur.new {w : World} {A : Option Addr} {n c : Nat} {bs : List Int} (hr : Reads w w.heap.size .u8 A n bs) (hbs : ∀ x ∈ bs, 0 ≤ x ∧ x ≤ 255) (hn : n ≤ 1048576) (T : Nat) :
    Cur (w.alloc (.cells #[.slice A n c, .int .i64 0, .int .u64 0] 100)) w.heap.size A n c T :=
  ⟨0, 0, bs, heap_alloc_new _ _, by omega, by omega, by omega, by omega, hr.below ((Below.refl _ _).alloc (Nat.le_refl _) _), hbs, hn⟩
theorem below_of_cur {w w' : World} {o : Obj} (hg : (w.alloc o).grownBy w' (some w.heap.size)) : Below w.heap.size w w' :=
  ((Below.refl w.heap.size w).alloc (Nat.le_refl _) o).grown hg (by simp) (fun k hk => by injection hk with hk; omega)

end Go.Proofs.Ytfdijeeilfhjeaa
namespace Go.Proofs.Ytfdijeeilfhjeaa
open Go.RowKit Exs

theorem flat_append (ts us : List Token) : flat (ts ++ us) = flat ts ++ flat us := by simp [flat]

/-- What the cursor gives: some tokens. -/
def GivesT (M : Nat) (g : Nat) (A : Option Addr) (n c T : Nat) (w : World) (e : Ending) (w' : World) : Prop :=
  ∃ (v : Value) (ts : List Token), e = .returned v ∧ Toks w' w.heap.size v ts ∧ 1 ≤ ts.length ∧ ts.length ≤ M ∧ Cur w' g A n c T ∧ w.grownBy w' (some g)

theorem Toks.grown {w w' : World} {B g : Nat} {v : Value} {ts : List Token} (h : Toks w B v ts) (hg : w.grownBy w' (some g)) (hgB : g < B) : Toks w' B v ts :=
  World.ownsRow.kept h hg (by
    rcases hv : v.ownBlock with _ | b
    · exact .inl rfl
    · right
      intro he
      injection he with he
      have := (World.ownsRow.lt h b hv).1
      omega)
theorem Toks.base {w : World} {B B' : Nat} {v : Value} {ts : List Token} (h : Toks w B v ts) (hB : B' ≤ B) : Toks w B' v ts := by
  refine ⟨h.1, ?_⟩
  rcases h.2 with h0 | ⟨g, cap, cur, hv, hb, r⟩
  · exact .inl h0
  · exact .inr ⟨g, cap, cur, hv, by omega, r⟩
/-- A slice of one token, as it is written down. -/
theorem Toks.lit (w : World) (B : Nat) (hB : B ≤ w.heap.size) (op x : Int) : Toks (w.alloc (.cells #[.int .i64 op, .int .i64 x] 107)) B (.slice (some ⟨w.heap.size, 0, none⟩) 1 1) [(op, x)] :=
  World.ownsRow_lit w #[.int .i64 op, .int .i64 x] 1 hB (by unfold maxLen; omega) rfl

theorem grownBy_below {a w w' : World} {g : Nat} (h : a.grownBy w (some g)) (hb : Below a.heap.size w w') : a.grownBy w' (some g) :=
  ⟨hb.os.trans h.os, hb.tape.trans h.tape, hb.output.trans h.output, Nat.le_trans h.size hb.size, fun i hi hne => (hb.block i hi).trans (h.block i hi hne)⟩
theorem Room.grown {w w' : World} {p : Nat} {t : TypeId} {n g : Nat} {k : IntKind} {xs : List Int} (h : Room w p t n k xs) (hg : w.grownBy w' (some g)) (hne : p ≠ g) : Room w' p t n k xs := by
  have hlt := h.lt
  obtain ⟨cs, h1, h2, h3⟩ := h
  exact ⟨cs, (hg.block p hlt (fun e => hne (by injection e))).trans h1, h2, h3⟩

/-- 'append(out, more...)': rows of tokens. -/
theorem wpList_append_toks {w : World} {ops : Array Oper} {rest : List Oper} {o : Oper} {a : Act} {Q : Exit → Act → World → Prop} (hgd : o.guard = none) (s x : Operand)
    (ho : o.op = .call { callee := .builtin .append, args := #[s, x], argTypes := #[104, 104] }) (B : Nat) (v : Value) (ts : List Token) (hs : a.eval s = v) (hB : B ≤ w.heap.size) (hown : Toks w B v ts)
    (B' : Nat) (u : Value) (us : List Token) (hx : a.eval x = u) (hu : Toks w B' u us) (hu1 : 1 ≤ us.length) (hl : ts.length ≤ 1000) (hl' : us.length ≤ 1000)
    (h : ∀ v' w', Toks w' B v' (ts ++ us) → Below B w w' → wpList Try.prog ops Q rest (a.put o.dst v') w') : wpList Try.prog ops Q (o :: rest) a w := by
  obtain ⟨i0, hi, hz0, hz1, hz2⟩ := info_parts Try.info107
  rcases hu.2 with ⟨_, h0⟩ | ⟨g, cap, cur, rfl, _, hg, hc, hm, _⟩
  · omega
  refine wpList_append_own w hgd s x 104 ho B 107 i0 (.agg #[.int .i64 0, .int .i64 0]) 2 16 Try.underlying104 hi hz0 hz1 hz2 rfl (by decide) v ts.length _ hs hown ⟨g, 0, none⟩ us.length cap ((flat us).map (Value.int .i64)) hx hu.1 ?_ ?_ ?_ ?_ hB ?_
  · intro j y hj
    exact World.ownsRow.cells (g := g) hu rfl j y hj
  · intro y hy
    obtain ⟨z, _, rfl⟩ := List.mem_map.1 hy
    rfl
  · unfold maxLen; omega
  · omega
  · intro v' w' h1 h2 _
    refine h v' w' ?_ ((Below.refl B w).grown h2 hB fun j hj => (World.ownsRow.lt hown j hj).1)
    unfold Toks
    rw [flat_append, List.map_append, List.length_append]
    exact h1

set_option maxHeartbeats 400000 in
set_option maxRecDepth 100000 in
theorem num_any (g : Nat) (A : Option Addr) (n c T : Nat) (w : World) (hc : Cur w g A n c T) (hT : T ≤ 900000) :
    Calls Try.prog 143 #[.pointer (some ⟨g, 0, none⟩)] w (Gives .i64 (-9223372036854775808) 9223372036854775807 g A n c (T + 2) w) := by
  go_enter Try.func143, Try.ntmps143
  go_wp2_with fail
  refine (among_any g A n c T _ (hc.alloc _) hT w.heap.size 12 [0, 1, 2, 3, -1, 5, 7, 10, 2147483647, -2147483648, 0, 1] (-9223372036854775808) 9223372036854775807 (by refine Room.lit ?_ ?_ <;> rfl) rfl hc.lt (by decide) (by decide) (by show ∀ x ∈ _, _; decide)).mono ?_
  rintro e w1 ⟨x, hx0, hx1, rfl, hc1, hg1⟩
  go_wp2
  go_ret
  exact ⟨x, hx0, hx1, rfl, hc1, grownBy_trans (World.grownBy_alloc _ _ _) hg1⟩

/-- What a leaf leaves, given what was before it. -/
theorem leaf_given {w w1 : World} {g : Nat} {A : Option Addr} {n c T T' M : Nat} (hc : Cur w1 g A n c T') (hg : w.grownBy w1 (some g)) (hT : T' ≤ T) (hM : 1 ≤ M) (op x : Int) :
    GivesT M g A n c T w (.returned (.slice (some ⟨w1.heap.size, 0, none⟩) 1 1)) (w1.alloc (.cells #[.int .i64 op, .int .i64 x] 107)) :=
  ⟨_, [(op, x)], rfl, Toks.lit w1 _ hg.size op x, by simp, by simpa using hM, (hc.more hT).alloc _, grownBy_alloc' hg _⟩

/-- How far the cursor moves at most. -/
def far : Nat → Nat
  | 0 => 10
  | d + 1 => 2 * far d + 50
/-- How many tokens at most. -/
def most : Nat → Nat
  | 0 => 1
  | d + 1 => 2 * most d + 3

/-- Params that are given: a row of at most five numbers of 0 to 2. -/
structure Pars (w : World) (p np cp : Nat) (ps : List Int) : Prop where
  row : Room w p 3 cp .i64 ps
  len : ps.length = np
  cap : np ≤ cp
  one : 1 ≤ np
  five : np ≤ 5
  vals : ∀ x ∈ ps, 0 ≤ x ∧ x ≤ 2
theorem Pars.grown {w w' : World} {p np cp : Nat} {ps : List Int} {g : Nat} (h : Pars w p np cp ps) (hg : w.grownBy w' (some g)) (hne : p ≠ g) : Pars w' p np cp ps := ⟨h.row.grown hg hne, h.len, h.cap, h.one, h.five, h.vals⟩
theorem Pars.getD {w : World} {p np cp : Nat} {ps : List Int} (h : Pars w p np cp ps) {j : Nat} (hj : j < np) : 0 ≤ ps.getD j 0 ∧ ps.getD j 0 ≤ 2 := by
  have hj' : j < ps.length := by rw [h.len]; exact hj
  rw [List.getD, List.getElem?_eq_getElem hj']
  exact h.vals _ (List.getElem_mem hj')

set_option maxHeartbeats 2000000 in
set_option maxRecDepth 100000 in
theorem exprLeaf_any (g : Nat) (A : Option Addr) (n c T : Nat) (b : Bool) (vars : Int) (pv : Value) (w : World) (hc : Cur w g A n c T) (hT : T ≤ 850000) (hv0 : 0 ≤ vars) (hv6 : vars ≤ 6) :
    Calls Try.prog 134 #[.pointer (some ⟨g, 0, none⟩), .int .i64 0, .int .i64 vars, pv, .bool b] w (GivesT 1 g A n c (T + 10) w) := by
  have hgr0 := World.grownBy.refl w (some g)
  have HN := put (show T ≤ 850000 ∧ 0 ≤ vars ∧ vars ≤ 6 from ⟨hT, hv0, hv6⟩)
  clear hT hv0 hv6
  go_enter Try.func134, Try.ntmps134
  go_wp2_with fail
  refine (pick_any g A n c _ 6 _ hc (by have := HN.out; omega) (by have := HN.out; omega) (by have := HN.out; omega)).mono ?_
  rintro e wl ⟨x, hx0, hx1, rfl, hcl, hgl'⟩
  have hgl := grownBy_trans hgr0 hgl'
  have hcase : x = 0 ∨ x = 1 ∨ x = 2 ∨ (x ≠ 0 ∧ x ≠ 1 ∧ x ≠ 2) := by omega
  rcases hcase with rfl | rfl | rfl | ⟨h0, h1, h2⟩
  · by_cases hv0 : 0 < vars
    · go_wp2_with fail
      refine (pick_any g A n c _ vars _ hcl (by have := HN.out; omega) (by have := HN.out; omega) (by have := HN.out; omega)).mono ?_
      rintro e w2 ⟨y, hy0, hy1, rfl, hc2, hg2⟩
      go_wp2
      go_ret
      exact leaf_given hc2 (grownBy_trans hgl hg2) (by have := HN.out; omega) (by have := HN.out; omega) 2 y
    · obtain rfl : vars = 0 := by have := HN.out; omega
      go_wp2_with fail
      refine (num_any g A n c _ _ hcl (by have := HN.out; omega)).mono ?_
      rintro e w2 ⟨y, hy0, hy1, rfl, hc2, hg2⟩
      go_wp2
      go_ret
      exact leaf_given hc2 (grownBy_trans hgl hg2) (by have := HN.out; omega) (by have := HN.out; omega) 1 y
  · by_cases hv0 : 0 < vars
    · go_wp2_with fail
      refine (pick_any g A n c _ vars _ hcl (by have := HN.out; omega) (by have := HN.out; omega) (by have := HN.out; omega)).mono ?_
      rintro e w2 ⟨y, hy0, hy1, rfl, hc2, hg2⟩
      go_wp2
      go_ret
      exact leaf_given hc2 (grownBy_trans hgl hg2) (by have := HN.out; omega) (by have := HN.out; omega) 2 y
    · obtain rfl : vars = 0 := by have := HN.out; omega
      go_wp2_with fail
      refine (num_any g A n c _ _ hcl (by have := HN.out; omega)).mono ?_
      rintro e w2 ⟨y, hy0, hy1, rfl, hc2, hg2⟩
      go_wp2
      go_ret
      exact leaf_given hc2 (grownBy_trans hgl hg2) (by have := HN.out; omega) (by have := HN.out; omega) 1 y
  · cases b with
    | false =>
      go_wp2_with fail
      refine (among_any g A n c _ _ (hcl.alloc _) (by have := HN.out; omega) wl.heap.size 2 [9, 10] 9 10 (by refine Room.lit ?_ ?_ <;> rfl) rfl hcl.lt (by decide) (by decide) (by show ∀ x ∈ _, _; decide)).mono ?_
      rintro e w2 ⟨y, hy0, hy1, rfl, hc2, hg2⟩
      go_wp2
      go_ret
      exact leaf_given hc2 (grownBy_trans (grownBy_alloc' hgl _) hg2) (by have := HN.out; omega) (by have := HN.out; omega) y 0
    | true =>
      go_wp2_with fail
      refine (num_any g A n c _ _ hcl (by have := HN.out; omega)).mono ?_
      rintro e w2 ⟨y, hy0, hy1, rfl, hc2, hg2⟩
      go_wp2
      go_ret
      exact leaf_given hc2 (grownBy_trans hgl hg2) (by have := HN.out; omega) (by have := HN.out; omega) 1 y
  · go_wp2_with fail
    refine (num_any g A n c _ _ hcl (by have := HN.out; omega)).mono ?_
    rintro e w2 ⟨y, hy0, hy1, rfl, hc2, hg2⟩
    go_wp2
    go_ret
    exact leaf_given hc2 (grownBy_trans hgl hg2) (by have := HN.out; omega) (by have := HN.out; omega) 1 y

end Go.Proofs.Ytfdijeeilfhjeaa
namespace Go.Proofs.Ytfdijeeilfhjeaa
open Go.RowKit Exs

theorem far_le {d : Nat} (h : d ≤ 3) : 10 ≤ far d ∧ far d ≤ 500 := by
  rcases d with _ | _ | _ | _ | d
  all_goals (simp only [far]; omega)
theorem most_le {d : Nat} (h : d ≤ 3) : 1 ≤ most d ∧ most d ≤ 40 := by
  rcases d with _ | _ | _ | _ | d
  all_goals (simp only [most]; omega)

set_option maxHeartbeats 4000000 in
set_option maxRecDepth 100000 in
theorem expr_more (d : Nat) (hd : d ≤ 2) (ih : ∀ (y : Int) (g : Nat) (A : Option Addr) (n c T : Nat) (b : Bool) (p np cp : Nat) (ps : List Int) (vars : Int) (w : World), y = d → d ≤ 3 → Cur w g A n c T → T + 1000 * d ≤ 800000 → Pars w p np cp ps → p ≠ g → 0 ≤ vars → vars ≤ 6 →
      Calls Try.prog 134 #[.pointer (some ⟨g, 0, none⟩), .int .i64 y, .int .i64 vars, .slice (some ⟨p, 0, none⟩) np cp, .bool b] w (GivesT (most d) g A n c (T + far d) w))
    (y : Int) (hy : y = d + 1) (g : Nat) (A : Option Addr) (n c T : Nat) (b : Bool) (p np cp : Nat) (ps : List Int) (vars : Int) (w : World) (hc : Cur w g A n c T) (hT : T + 1000 * (d + 1) ≤ 800000) (hp : Pars w p np cp ps) (hpg : p ≠ g) (hv0 : 0 ≤ vars) (hv6 : vars ≤ 6) :
    Calls Try.prog 134 #[.pointer (some ⟨g, 0, none⟩), .int .i64 y, .int .i64 vars, .slice (some ⟨p, 0, none⟩) np cp, .bool b] w (GivesT (most (d + 1)) g A n c (T + far (d + 1)) w) := by
  have hd0 : ¬ y = 0 := by omega
  have hd1 : 1 ≤ y := by omega
  have hd3 : y ≤ 3 := by omega
  have HY := put hy
  have HN := put (show (10 ≤ far d ∧ far d ≤ 500) ∧ (1 ≤ most d ∧ most d ≤ 40) ∧ d ≤ 2 ∧ T + 1000 * (d + 1) ≤ 800000 ∧ far (d + 1) = 2 * far d + 50 ∧ most (d + 1) = 2 * most d + 3 ∧ 0 ≤ vars ∧ vars ≤ 6 ∧ 1 ≤ np ∧ np ≤ 5 from ⟨far_le (by omega), most_le (by omega), hd, hT, rfl, rfl, hv0, hv6, hp.one, hp.five⟩)
  have HI := put ih
  have KL := put hc.lt
  have hnp : 0 < np := hp.one
  clear hd hT ih hy hv0 hv6
  go_enter Try.func134, Try.ntmps134
  go_wp2_with fail
  refine (one_any g A n c T 3 _ hc (by have := HN.out; omega) (by have := HN.out; omega) (by have := HN.out; omega)).mono ?_
  rintro e w1 ⟨b1, rfl, hc1, hg1⟩
  cases b1 with
  | true =>
    go_wp2_with fail
    refine (pick_any g A n c _ 6 _ hc1 (by have := HN.out; omega) (by have := HN.out; omega) (by have := HN.out; omega)).mono ?_
    rintro e wl ⟨x, hx0, hx1, rfl, hcl, hgl'⟩
    have hgl := grownBy_trans hg1 hgl'
    have hcase : x = 0 ∨ x = 1 ∨ x = 2 ∨ (x ≠ 0 ∧ x ≠ 1 ∧ x ≠ 2) := by omega
    rcases hcase with rfl | rfl | rfl | ⟨h0, h1, h2⟩
    · by_cases hv0 : 0 < vars
      · go_wp2_with fail
        refine (pick_any g A n c _ vars _ hcl (by have := HN.out; omega) (by have := HN.out; omega) (by have := HN.out; omega)).mono ?_
        rintro e w2 ⟨y, hy0, hy1, rfl, hc2, hg2⟩
        go_wp2
        go_ret
        exact leaf_given hc2 (grownBy_trans hgl hg2) (by have := HN.out; omega) (by have := HN.out; omega) 2 y
      · obtain rfl : vars = 0 := by have := HN.out; omega
        go_wp2_with fail
        refine (num_any g A n c _ _ hcl (by have := HN.out; omega)).mono ?_
        rintro e w2 ⟨y, hy0, hy1, rfl, hc2, hg2⟩
        go_wp2
        go_ret
        exact leaf_given hc2 (grownBy_trans hgl hg2) (by have := HN.out; omega) (by have := HN.out; omega) 1 y
    · by_cases hv0 : 0 < vars
      · go_wp2_with fail
        refine (pick_any g A n c _ vars _ hcl (by have := HN.out; omega) (by have := HN.out; omega) (by have := HN.out; omega)).mono ?_
        rintro e w2 ⟨y, hy0, hy1, rfl, hc2, hg2⟩
        go_wp2
        go_ret
        exact leaf_given hc2 (grownBy_trans hgl hg2) (by have := HN.out; omega) (by have := HN.out; omega) 2 y
      · obtain rfl : vars = 0 := by have := HN.out; omega
        go_wp2_with fail
        refine (num_any g A n c _ _ hcl (by have := HN.out; omega)).mono ?_
        rintro e w2 ⟨y, hy0, hy1, rfl, hc2, hg2⟩
        go_wp2
        go_ret
        exact leaf_given hc2 (grownBy_trans hgl hg2) (by have := HN.out; omega) (by have := HN.out; omega) 1 y
    · cases b with
      | false =>
        go_wp2_with fail
        refine (among_any g A n c _ _ (hcl.alloc _) (by have := HN.out; omega) wl.heap.size 2 [9, 10] 9 10 (by refine Room.lit ?_ ?_ <;> rfl) rfl hcl.lt (by decide) (by decide) (by show ∀ x ∈ _, _; decide)).mono ?_
        rintro e w2 ⟨y, hy0, hy1, rfl, hc2, hg2⟩
        go_wp2
        go_ret
        exact leaf_given hc2 (grownBy_trans (grownBy_alloc' hgl _) hg2) (by have := HN.out; omega) (by have := HN.out; omega) y 0
      | true =>
        go_wp2_with fail
        refine (num_any g A n c _ _ hcl (by have := HN.out; omega)).mono ?_
        rintro e w2 ⟨y, hy0, hy1, rfl, hc2, hg2⟩
        go_wp2
        go_ret
        exact leaf_given hc2 (grownBy_trans hgl hg2) (by have := HN.out; omega) (by have := HN.out; omega) 1 y
    · go_wp2_with fail
      refine (num_any g A n c _ _ hcl (by have := HN.out; omega)).mono ?_
      rintro e w2 ⟨y, hy0, hy1, rfl, hc2, hg2⟩
      go_wp2
      go_ret
      exact leaf_given hc2 (grownBy_trans hgl hg2) (by have := HN.out; omega) (by have := HN.out; omega) 1 y
  | false =>
    cases b with
    | true =>
      go_wp2_with fail
      refine (HI.out _ g A n c _ true p np cp ps vars _ (by have := HY.out; omega) (by have := HN.out; omega) hc1 (by have := HN.out; omega) (hp.grown hg1 hpg) hpg (by have := HN.out; omega) (by have := HN.out; omega)).mono ?_
      rintro e w3 ⟨v3, ts3, rfl, ht3, hl3, hm3, hc3, hg3⟩
      have hg3' := grownBy_trans hg1 hg3
      go_wp2_with fail
      refine (HI.out _ g A n c _ true p np cp ps vars _ (by have := HY.out; omega) (by have := HN.out; omega) hc3 (by have := HN.out; omega) (hp.grown hg3' hpg) hpg (by have := HN.out; omega) (by have := HN.out; omega)).mono ?_
      rintro e w4 ⟨v4, ts4, rfl, ht4, hl4, hm4, hc4, hg4⟩
      have hg4' := grownBy_trans hg3' hg4
      have ht34 := (ht3.base hg1.size).grown hg4 KL.out
      have ht4' := ht4.base hg3'.size
      have hs4 := hg4'.size
      clear hg3 hg4 hc3 ht3 ht4
      go_wp2_with (at_builtin; refine wpList_append_toks rfl _ _ rfl w.heap.size _ ts3 rfl hs4 ht34 w.heap.size _ ts4 rfl ht4' hl4 (by have := HN.out; omega) (by have := HN.out; omega) ?_)
      intro v5 w5 ht5 hb5
      have hc5 := hc4.below hb5 KL.out
      have hg5 := grownBy_below hg4' hb5
      clear ht34 ht4' hc4
      go_wp2_with fail
      refine (pick_any g A n c _ 6 _ hc5 (by have := HN.out; omega) (by have := HN.out; omega) (by have := HN.out; omega)).mono ?_
      rintro e w6 ⟨x, hx0, hx1, rfl, hc6, hg6⟩
      have ht6 := ht5.grown hg6 KL.out
      have hg6' := grownBy_trans hg5 hg6
      have hs6 := hg6'.size
      have HL := put (show (ts3 ++ ts4).length ≤ 1000 by have := HN.out; simp; omega)
      go_wp2_with (at_builtin; refine wpList_append_toks rfl _ _ rfl w.heap.size _ (ts3 ++ ts4) rfl (by simp; omega) (ht6.alloc _) w.heap.size _ [(3 + x, 0)] rfl (Toks.lit w6 w.heap.size hs6 (3 + x) 0) (by simp) HL.out (by simp) ?_)
      intro v7 w7 ht7 hb7
      go_wp2
      go_ret
      exact ⟨v7, _, rfl, ht7, by simp; omega, by have := HN.out; simp; omega, (((hc6.alloc _).below hb7 KL.out).more (by have := HN.out; omega)), grownBy_below (grownBy_alloc' hg6' _) hb7⟩
    | false =>
      go_wp2_with fail
      refine (one_any g A n c _ 3 _ hc1 (by have := HN.out; omega) (by have := HN.out; omega) (by have := HN.out; omega)).mono ?_
      rintro e w2 ⟨b2, rfl, hc2, hg2⟩
      have hg2' := grownBy_trans hg1 hg2
      cases b2 with
      | false =>
        go_wp2_with fail
        refine (HI.out _ g A n c _ false p np cp ps vars _ (by have := HY.out; omega) (by have := HN.out; omega) hc2 (by have := HN.out; omega) (hp.grown hg2' hpg) hpg (by have := HN.out; omega) (by have := HN.out; omega)).mono ?_
        rintro e w3 ⟨v3, ts3, rfl, ht3, hl3, hm3, hc3, hg3⟩
        have hg3' := grownBy_trans hg2' hg3
        go_wp2_with fail
        refine (HI.out _ g A n c _ false p np cp ps vars _ (by have := HY.out; omega) (by have := HN.out; omega) hc3 (by have := HN.out; omega) (hp.grown hg3' hpg) hpg (by have := HN.out; omega) (by have := HN.out; omega)).mono ?_
        rintro e w4 ⟨v4, ts4, rfl, ht4, hl4, hm4, hc4, hg4⟩
        have hg4' := grownBy_trans hg3' hg4
        have ht34 := (ht3.base hg2'.size).grown hg4 KL.out
        have ht4' := ht4.base hg3'.size
        have hs4 := hg4'.size
        clear hg3 hg4 hc3 ht3 ht4
        go_wp2_with (at_builtin; refine wpList_append_toks rfl _ _ rfl w.heap.size _ ts3 rfl hs4 ht34 w.heap.size _ ts4 rfl ht4' hl4 (by have := HN.out; omega) (by have := HN.out; omega) ?_)
        intro v5 w5 ht5 hb5
        have hc5 := hc4.below hb5 KL.out
        have hg5 := grownBy_below hg4' hb5
        clear ht34 ht4' hc4
        go_wp2_with fail
        refine (pick_any g A n c _ 6 _ hc5 (by have := HN.out; omega) (by have := HN.out; omega) (by have := HN.out; omega)).mono ?_
        rintro e w6 ⟨x, hx0, hx1, rfl, hc6, hg6⟩
        have ht6 := ht5.grown hg6 KL.out
        have hg6' := grownBy_trans hg5 hg6
        have hs6 := hg6'.size
        have HL := put (show (ts3 ++ ts4).length ≤ 1000 by have := HN.out; simp; omega)
        go_wp2_with (at_builtin; refine wpList_append_toks rfl _ _ rfl w.heap.size _ (ts3 ++ ts4) rfl (by simp; omega) (ht6.alloc _) w.heap.size _ [(3 + x, 0)] rfl (Toks.lit w6 w.heap.size hs6 (3 + x) 0) (by simp) HL.out (by simp) ?_)
        intro v7 w7 ht7 hb7
        go_wp2
        go_ret
        exact ⟨v7, _, rfl, ht7, by simp; omega, by have := HN.out; simp; omega, (((hc6.alloc _).below hb7 KL.out).more (by have := HN.out; omega)), grownBy_below (grownBy_alloc' hg6' _) hb7⟩
      | true =>
        go_wp2_with fail
        refine (pick_any g A n c _ np _ hc2 (by have := HN.out; omega) (by have := HN.out; omega) (by have := HN.out; omega)).mono ?_
        rintro e w3 ⟨x, hx0, hx1, rfl, hc3, hg3⟩
        have hg3' := grownBy_trans hg2' hg3
        clear hg3 hc2
        obtain ⟨j, rfl⟩ := Int.eq_ofNat_of_zero_le hx0
        have hj : j < np := by omega
        have hm2 := hp.getD hj
        have hcp := put (fun (wr : World) (h : w.grownBy wr (some g)) => (hp.grown h hpg).row.cell j (by rw [hp.len]; exact hj))
        generalize ps.getD j 0 = m at hm2 hcp
        go_wp2_with fail
        go_loopw [12, 13] (fun v i wr => ∃ (k : Nat) (ts : List Token), (k : Int) ≤ m ∧ i = .int .i64 k ∧ Hid (ts.length ≤ k) ∧ Toks wr w.heap.size v ts ∧ Cur wr g A n c (T + 8 + 10 * k) ∧ w.grownBy wr (some g)) (fun _ i _ => m.toNat - (intOf i).toNat)
        case atStart => exact ⟨0, [], hm2.1, rfl, Nat.le_refl _, Toks.nil _ _, hc3.more (by have := HN.out; omega), hg3'⟩
        case round =>
          obtain ⟨k, ts, hk, rfl, hlen, hown, hcr, hgr⟩ := hrel
          have hcell := hcp.out _ hgr
          clear hc3 hg3'
          by_cases hlt : (k : Int) < m
          · go_wp2_with fail
            refine (exprLeaf_any g A n c _ false vars _ _ hcr (by have := HN.out; omega) (by have := HN.out; omega) (by have := HN.out; omega)).mono ?_
            rintro e w4 ⟨v4, ts4, rfl, ht4, hl4, hm4, hc4, hg4⟩
            have hg4' := grownBy_trans hgr hg4
            have hs4 := hg4'.size
            have hown4 := hown.grown hg4 KL.out
            have ht4' := ht4.base hgr.size
            have HL := put (show ts.length ≤ 1000 by have := hlen.out; omega)
            clear hg4 ht4 hown
            go_wp2_with (at_builtin; refine wpList_append_toks rfl _ _ rfl w.heap.size _ ts rfl hs4 hown4 w.heap.size _ ts4 rfl ht4' hl4 HL.out (by have := HN.out; omega) ?_)
            intro v5 w5 ht5 hb5
            go_wp2
            go_roundw
            case rel => exact ⟨k + 1, ts ++ ts4, by omega, by go_num, by have := hlen.out; show _ ≤ _; simp; omega, ht5, (hc4.below hb5 KL.out).more (by have := HN.out; omega), grownBy_below hg4' hb5⟩
            case measure => simp [intOf]; omega
          · have hs := hgr.size
            have HL := put (show ts.length ≤ 1000 by have := hlen.out; omega)
            go_wp2_with (at_builtin; refine wpList_append_toks rfl _ _ rfl w.heap.size _ ts rfl (by simp; omega) (hown.alloc _) w.heap.size _ [(11, (j : Int))] rfl (Toks.lit _ w.heap.size hs 11 j) (by simp) HL.out (by simp) ?_)
            intro v5 w5 ht5 hb5
            go_wp2
            go_ret
            exact ⟨v5, _, rfl, ht5, by simp, by have := hlen.out; have := HN.out; simp; omega, (((hcr.alloc _).below hb5 KL.out).more (by have := HN.out; omega)), grownBy_below (grownBy_alloc' hgr _) hb5⟩

theorem expr_any : ∀ (d : Nat) (y : Int) (g : Nat) (A : Option Addr) (n c T : Nat) (b : Bool) (p np cp : Nat) (ps : List Int) (vars : Int) (w : World), y = d → d ≤ 3 → Cur w g A n c T → T + 1000 * d ≤ 800000 → Pars w p np cp ps → p ≠ g → 0 ≤ vars → vars ≤ 6 →
      Calls Try.prog 134 #[.pointer (some ⟨g, 0, none⟩), .int .i64 y, .int .i64 vars, .slice (some ⟨p, 0, none⟩) np cp, .bool b] w (GivesT (most d) g A n c (T + far d) w)
  | 0, y, g, A, n, c, T, b, p, np, cp, ps, vars, w, hy, _, hc, hT, _, _, h0, h6 => by
    obtain rfl : y = 0 := by simpa using hy
    exact exprLeaf_any g A n c T b vars _ w hc (by omega) h0 h6
  | d + 1, y, g, A, n, c, T, b, p, np, cp, ps, vars, w, hy, hd, hc, hT, hp, hpg, h0, h6 => expr_more d (by omega) (expr_any d) y (by omega) g A n c T b p np cp ps vars w hc hT hp hpg h0 h6

end Go.Proofs.Ytfdijeeilfhjeaa

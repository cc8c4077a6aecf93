/-
  The laws' copying of images: contracts.
-/
import Derived.Test.YtpbkkjiikhjanaaCoTo
namespace Go.Proofs.Ytpbkkjiikhjanaa
open Go.RowKit Exs

/-- Block g of the world holds just these cells, none frozen. -/
def Keep (w : World) (g : Nat) (cs : Array Value) (t : TypeId) : Prop := w.heap[g]? = some (.cells cs t (0, 0))
section
variable {w w' : World} {g g' i : Nat} {cs : Array Value} {t : TypeId} {v : Value}
theorem Keep.new (w : World) (cs : Array Value) (t : TypeId) : Keep (w.alloc (.cells cs t)) w.heap.size cs t := heap_alloc_new _ _
theorem Keep.lt (h : Keep w g cs t) : g < w.heap.size := (Array.getElem?_eq_some_iff.1 h).1
theorem Keep.alloc (h : Keep w g cs t) (o : Obj) : Keep (w.alloc o) g cs t := (Below.heap_alloc _ _ _ h.lt).trans h
theorem Keep.below (h : Keep w g cs t) (hb : Below w.heap.size w w') : Keep w' g cs t := (hb.block g h.lt).trans h
theorem Keep.set (h : Keep w g cs t) (i : Nat) (v : Value) : Keep (w.setCell ⟨g, i, none⟩ v) g (cs.setIfInBounds i v) t := heap_set h
theorem Keep.other (h : Keep w g cs t) (hg : g ≠ g') (i : Nat) (v : Value) : Keep (w.setCell ⟨g', i, none⟩ v) g cs t := (Below.heap_setCell _ _ _ _ hg).trans h
theorem Keep.cell (h : Keep w g cs t) (i : Nat) : w.cell? ⟨g, i, none⟩ = cs[i]? := cell_of_row w g i cs t (0, 0) h
theorem Keep.frozen (h : Keep w g cs t) (i : Nat) : w.frozen? ⟨g, i, none⟩ = false := by
  unfold Keep at h
  simp [World.frozen?, h]
end

theorem toInts_m (A : Option Addr) (n c : Nat) (xs : List Int) (w : World) (hr : Reads w w.heap.size .i64 A n xs) (hn : n ≤ 1048576) :
    Calls Try.prog 19 #[.slice A n c] w fun e w' => ∃ B, e = .returned (.slice B n n) ∧ MInts w' w.heap.size B n xs ∧ Below w.heap.size w w' :=
  (toInts_any A n c xs w hr hn).mono fun _ _ ⟨he, hroom, hb⟩ => ⟨_, he, ⟨_, rfl, Nat.le_refl _, hroom, hr.1⟩, hb⟩
set_option maxHeartbeats 400000 in
theorem toRow_any (x y z : Int) (w : World) : Calls Try.prog 29 #[.agg #[.int .i64 x, .int .i64 y, .int .i64 z]] w fun e w' => e = .returned (.agg #[.int .i64 x, .int .i64 y, .int .i64 z]) ∧ Below w.heap.size w w' := by
  go_enter Try.func29, Try.ntmps29
  go_wp2
  exact bodyPost_ret (v := .agg #[.int .i64 x, .int .i64 y, .int .i64 z]) (by simp [results, Try.results29, go_sem]) rfl ⟨rfl, (((Below.refl _ _).alloc (Nat.le_refl _) _).alloc (by simp) _).alloc (by simp; omega) _⟩

theorem Try.info61 : (Try.prog.info? 61).map (fun i => (i.zero, i.size, i.bytes)) = some (some (.agg #[.int .i64 0, .int .i64 0, .int .i64 0]), 3, 24) := by kernel_rfl
theorem Room.madeR (w : World) (t : TypeId) (n : Nat) (z : Array Value) (m : Nat) (hm : m = n * 3) : Room (w.alloc (.cells (madeCells z m) t)) w.heap.size t (3 * n) .i64 (flat3 []) :=
  ⟨_, heap_alloc_new _ _, by rw [size_madeCells]; omega, rfl⟩
theorem Room.pushR {w : World} {g : Nat} {t : TypeId} {n : Nat} {ts : List Row3} (h : Room w g t (3 * n) .i64 (flat3 ts)) (hc : ts.length < n) (x y z : Int) :
    Room (((w.setCell ⟨g, ts.length * 3, none⟩ (.int .i64 x)).setCell ⟨g, ts.length * 3 + 1, none⟩ (.int .i64 y)).setCell ⟨g, ts.length * 3 + 2, none⟩ (.int .i64 z)) g t (3 * n) .i64 (flat3 (ts ++ [(x, y, z)])) := by
  have hl := flat3_length ts
  have h1 := h.push (by omega) x
  have h2 := h1.push (by simp; omega) y
  have h3 := h2.push (by simp; omega) z
  rw [List.length_append, List.length_append, hl] at h3
  rw [List.length_append, hl] at h3
  rw [flat3_snoc]
  simpa [Nat.mul_comm] using h3

set_option maxHeartbeats 400000 in
set_option maxRecDepth 100000 in
theorem toRows_m (A : Option Addr) (n c : Nat) (ts : List Row3) (w : World) (hr : ReadsR w w.heap.size A n ts) (hn : n ≤ 1048576) :
    Calls Try.prog 20 #[.slice A n c] w fun e w' => ∃ B, e = .returned (.slice B n n) ∧ MRows w' w.heap.size B n ts ∧ Below w.heap.size w w' := by
  have hmk := fun W => run_make_rows (P := Try.prog) 31 61 (.agg #[.int .i64 0, .int .i64 0, .int .i64 0]) 3 24 Try.underlying31 Try.info61 n (by omega) (by omega) W
  go_enter Try.func20, Try.ntmps20
  go_wp2
  go_loopw [4] (fun i wr => ∃ k : Nat, k ≤ n ∧ i = .int .i64 k ∧ Room wr w.heap.size 61 (3 * n) .i64 (flat3 (ts.take k)) ∧ Below w.heap.size w wr) (fun i _ => n - (intOf i).toNat)
  case atStart => exact ⟨0, Nat.zero_le _, rfl, Room.madeR w 61 n _ _ rfl, (Below.refl _ _).alloc (Nat.le_refl _) _⟩
  case round =>
    obtain ⟨k, hk, rfl, hroom, hbel⟩ := hrel
    clear hmk
    by_cases hlt : k < n
    · obtain ⟨b, off, x, y, z, rfl, hb, hc, hc', hc'', hx⟩ := (hr.below hbel).at_ hlt
      go_wp2_with fail
      refine (toRow_any x y z _).mono ?_
      rintro e w1 ⟨rfl, hb1⟩
      have hroom1 := hroom.below hb1 hroom.lt
      have hbel1 : Below w.heap.size w w1 := hbel.trans (hb1.mono hbel.size)
      obtain ⟨c0, hc0⟩ := hroom1.at_ (k * 3) (by omega)
      obtain ⟨c1, hc1⟩ := hroom1.at_ (k * 3 + 1) (by omega)
      obtain ⟨c2, hc2⟩ := hroom1.at_ (k * 3 + 2) (by omega)
      have hf0 := hroom1.frozen (k * 3)
      have hf1 := hroom1.frozen (k * 3 + 1)
      have hf2 := hroom1.frozen (k * 3 + 2)
      have hlen : (ts.take k).length = k := by rw [List.length_take, hr.1]; omega
      have hpush := hroom1.pushR (by rw [hlen]; exact hlt) x y z
      rw [hlen, ← takeA_more hx.out] at hpush
      have HP := put hpush; clear hpush hlen hc hc' hc'' hb1
      go_wp2
      go_roundw
      case rel => exact ⟨k + 1, by omega, by go_num, HP.out, ((hbel1.setCell (by simp) _).setCell (by simp) _).setCell (by simp) _⟩
      case measure => simp [intOf]; omega
    · have hfin := put (show ts.take k = ts from List.take_of_length_le (by rw [hr.1]; omega))
      go_wp2
      go_ret
      exact ⟨_, rfl, ⟨_, rfl, Nat.le_refl _, by rw [hfin.out] at hroom; exact hroom, hr.1⟩, hbel⟩
structure Im where
  codes : List Cd
def imV (_ : Im) (A : Option Addr) (n c : Nat) : Value := .agg #[.slice A n c]
structure IsIm (w : World) (B : Nat) (p : Im) (A : Option Addr) (n : Nat) : Prop where
  codes : ReadsC w B A n p.codes
def SmallIm (p : Im) : Prop := SmallI p.codes

end Go.Proofs.Ytpbkkjiikhjanaa

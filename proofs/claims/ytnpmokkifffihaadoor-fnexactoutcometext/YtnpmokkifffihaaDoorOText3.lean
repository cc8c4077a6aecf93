/-
  The contract of the program's OutcomeText.
-/
import Derived.Test.YtnpmokkifffihaaDoorOText2
import Derived.Lib.SmallJoins
namespace Go.Proofs.YtnpmokkifffihaaDoor
open Go.RowKit Exs
set_option linter.unusedVariables false

set_option maxHeartbeats 400000 in
set_option maxRecDepth 100000 in
theorem allInBounds_any (A : Option Addr) (n c : Nat) (xs : List Int) (w : World) (hr : Reads w w.heap.size .i64 A n xs) (hn : n ≤ 1048576) :
    Calls Tryd.prog 16 #[.slice A n c] w fun e w' => e = .returned (.bool (xs.all bound)) ∧ w = w' := by
  rw [← allIn_bound]
  go_enter Tryd.func16, Tryd.ntmps16
  go_wp2
  go_loop [7] (fun i => ∃ k : Nat, k ≤ n ∧ i = .int .i64 k ∧ Hid (allIn (-2147483648) 2147483647 (xs.take k) = true)) (fun i => n - (intOf i).toNat)
  case atStart => exact ⟨0, Nat.zero_le _, rfl, rfl⟩
  case round =>
    obtain ⟨k, hk, rfl, ha⟩ := hrel
    by_cases hlt : k < n
    · obtain ⟨b, off, x, rfl, hb, hc, hx⟩ := hr.at_ hlt
      by_cases hin : bound x = true
      · have HA := put (allIn_more hx.out ha.out hin)
        go_wp2_with (go_at_call 15; refine (inBounds_any _ _).mono ?_; rintro e w' ⟨rfl, rfl⟩)
        go_round
        case rel => exact ⟨k + 1, by omega, by go_num, HA⟩
        case measure => simp [intOf]; omega
      · have hin' : bound x = false := by simpa using hin
        have HA := put (allIn_no hx.out hin')
        clear hin
        go_wp2_with (go_at_call 15; refine (inBounds_any _ _).mono ?_; rintro e w' ⟨rfl, rfl⟩)
        go_ret
        exact ⟨ret_bool HA.out.symm, rfl⟩
    · have hfin := put (show xs.take k = xs from List.take_of_length_le (by rw [hr.1]; omega))
      go_wp2
      go_ret
      exact ⟨ret_bool (by rw [← ha.out, hfin.out]), rfl⟩

/-- The program's table of words holds them. -/
def OWords (w : World) : Prop := ∀ j, j < 6 → w.cell? ⟨0, j, none⟩ = some (.string (strB (ocW j)))
theorem OWords.below {w w' : World} {B : Nat} (h : OWords w) (hb : Below B w w') (h0 : 0 < B) : OWords w' := fun j hj => (hb.cell (p := ⟨0, j, none⟩) h0).trans (h j hj)

/-- A text turned into bytes. -/
theorem BytesG.conv (w : World) (s : List UInt8) (hs : s.length ≤ 1000) : BytesG (Lib.bytesWorld w 5 (strB s)) w.heap.size (.slice (some ⟨w.heap.size, 0, none⟩) (strB s).size (grownCap w (strB s).size 0 5)) s := by
  have hz := strB_size s
  have hge := grownCap_ge w (strB s).size 0 5
  have hcm := grownCap_le_maxLen w (strB s).size 0 5 (by unfold maxLen; omega)
  have hn := Lib.bytesWorld_at_new w 5 (strB s)
  have hcz : (Lib.bytesCells w 5 (strB s)).size = grownCap w (strB s).size 0 5 := by
    simp only [Lib.bytesCells, Array.size_append, Array.size_map, Array.size_replicate]
    show (strB s).size + _ = _
    omega
  refine ⟨w.heap.size, _, by rw [hz], Nat.le_refl _, by rw [Lib.bytesWorld_size]; omega, by omega, hcm, fun j u hj => ?_, fun j hj => ⟨?_, ?_⟩⟩
  · have hlt : j < s.length := by rw [← byteCells_len]; exact (List.getElem?_eq_some_iff.1 hj).1
    rw [Lib.bytesWorld_cell w 5 (strB s) j (by omega), ← hj]
    simp [Lib.byteCells, strB, hlt, List.getD]
  · rw [cell_of_row _ _ j _ 5 _ hn]
    simp [hcz, hj]
  · simp only [World.frozen?, hn, hcz]
    simp
    omega

/-- A text made of such a row. -/
theorem run_textG (w : World) (B : Nat) (v : Value) (l : List UInt8) (h : BytesG w B v l) : (convert 39 9 v).run Tryd.prog w = .ok (.string (strB l)) w := by
  obtain ⟨g, cap, rfl, _, _, _, _, h1, _⟩ := h
  refine run_convert_bytes_back w 39 9 5 ⟨g, 0, none⟩ cap l Tryd.underlying39 Tryd.underlying5 Tryd.underlying9 (fun j hj => ?_)
  rw [Lib.add_plain, Nat.zero_add]
  exact h1 j _ (by simp [Lib.byteCells, hj])

end Go.Proofs.YtnpmokkifffihaaDoor

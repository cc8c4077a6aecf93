/-
  The text of an outcome: the plain answer, and the contract of the reference's OutcomeText.
-/
import Derived.Test.YtnpmokkifffihaaDoorOc
import Derived.Test.YtnpmokkifffihaaDoorSText2
import Derived.Deep.RegionLaw
namespace Go.Proofs.YtnpmokkifffihaaDoor
open Go.RowKit Go.Deep Exs
set_option linter.unusedVariables false

/-- The words, by code. -/
def ocW (j : Nat) : List UInt8 := [[], [100, 111, 110, 101], [112, 97, 110, 105, 99], [101, 120, 105, 116], [100, 101, 101, 112], [102, 117, 101, 108]].getD j []
/-- The numbers, a blank ahead of each. -/
def tellL (xs : List Int) : List UInt8 := xs.flatMap fun n => [32] ++ intL n
theorem tellL_more {xs : List Int} {k : Nat} {x : Int} (h : xs[k]? = some x) : tellL (xs.take (k + 1)) = tellL (xs.take k) ++ ([32] ++ intL x) := by
  rw [take_more h]; simp [tellL]
def headL (o : Oc) : List UInt8 := ocW o.code.toNat ++ [32] ++ intL o.value ++ [58]
def ocText (o : Oc) : List UInt8 := headL o ++ tellL o.trace
def ocOk (o : Oc) : Bool := within o.code 1 5 && (decide (o.trace.length ≤ 600) && (o.trace.all bound && (bound o.value && bound o.used)))
/-- What OutcomeText answers. -/
def ocAns (o : Oc) : List UInt8 × Bool := if ocOk o then (ocText o, true) else ([], false)
theorem ocAns_yes {o : Oc} (h1 : within o.code 1 5 = true) (h2 : o.trace.length ≤ 600) (h3 : o.trace.all bound = true) (h4 : bound o.value = true) (h5 : bound o.used = true) : ocAns o = (ocText o, true) := by simp [ocAns, ocOk, h1, h2, h3, h4, h5]
theorem ocAns_no {o : Oc} (h : within o.code 1 5 = false ∨ ¬ o.trace.length ≤ 600 ∨ o.trace.all bound = false ∨ bound o.value = false ∨ bound o.used = false) : ocAns o = ([], false) := by
  rcases h with h | h | h | h | h <;> simp [ocAns, ocOk, h]

theorem ocW_length (j : Nat) : (ocW j).length ≤ 5 := by
  unfold ocW
  match j with
  | 0 => decide
  | 1 => decide
  | 2 => decide
  | 3 => decide
  | 4 => decide
  | 5 => decide
  | j + 6 => simp
theorem headL_length {o : Oc} (h4 : bound o.value = true) : (headL o).length ≤ 18 := by
  have h := (bound_iff _).1 h4
  have := intL_length h.1 h.2
  have := ocW_length o.code.toNat
  simp [headL]; omega

set_option maxHeartbeats 1000000 in
set_option maxRecDepth 100000 in
theorem l4Text_any (o : Oc) (A : Option Addr) (n c : Nat) (w : World) (hr : Reads w w.heap.size .i64 A n o.trace) (h1 : within o.code 1 5 = true) (h2 : n ≤ 600) (h3 : Hid (o.trace.all bound = true)) (h4 : bound o.value = true) :
    Calls Tryd.prog 13 #[ocV o A n c] w fun e w' => e = .returned (.string (strB (ocText o))) ∧ Below w.heap.size w w' := by
  have hb0 : Below w.heap.size w (w.alloc (.cells #[.int .i64 o.code, .int .i64 o.value, .slice A n c, .int .i64 o.used] 28)) := (Below.refl _ _).alloc (Nat.le_refl _) _
  have k0 := Keep.new w #[.int .i64 o.code, .int .i64 o.value, .slice A n c, .int .i64 o.used] 28
  have hl := headL_length h4
  have hH := put (show headL o = ocW o.code.toNat ++ [32] ++ intL o.value ++ [58] from rfl)
  have hv := (bound_iff _).1 h4
  have hil := intL_length hv.1 hv.2
  obtain ⟨hv0, hv1⟩ := hv
  have hsz : (strB (intL o.value)).size ≤ 11 := by rw [strB_size]; exact hil
  have hc5 := (within_iff _ _ _).1 h1
  clear h1 h4
  unfold ocV
  obtain ⟨k, hk⟩ : ∃ k : Nat, o.code = k := ⟨o.code.toNat, by omega⟩
  rw [hk] at hb0 k0 hH ⊢
  rw [Int.toNat_natCast] at hH
  have hk0 : (k : Int) < 6 := by omega
  have hk1 : (0 : Int) ≤ k := by omega
  have hkn : k < 6 := by omega
  clear hc5 hk
  have hwl := ocW_length k
  have hws : (strB (ocW k)).size ≤ 5 := by rw [strB_size]; exact hwl
  have hws2 : (strB (ocW k) ++ ⟨#[32]⟩).size ≤ 6 := by show (strB (ocW k) ++ strB [32]).size ≤ 6; rw [strB_append, strB_size]; simp; omega
  have hws3 : (strB (ocW k) ++ ⟨#[32]⟩ ++ strB (intL o.value)).size ≤ 17 := by show (strB (ocW k) ++ strB [32] ++ strB (intL o.value)).size ≤ 17; rw [strB_append, strB_append, strB_size]; simp; omega
  have g1 : ¬ 9223372036854775807 < (strB (ocW k)).size + 1 := by omega
  have g2 : ¬ 9223372036854775807 < (strB (ocW k)).size + 1 + (strB (intL o.value)).size := by omega
  have g3 : ¬ 9223372036854775807 < (strB (ocW k)).size + 1 + (strB (intL o.value)).size + 1 := by omega
  have HWD : ∀ w1 : World, (w1.alloc (.cells #[.string ⟨#[]⟩, .string ⟨#[100, 111, 110, 101]⟩, .string ⟨#[112, 97, 110, 105, 99]⟩, .string ⟨#[101, 120, 105, 116]⟩, .string ⟨#[100, 101, 101, 112]⟩, .string ⟨#[102, 117, 101, 108]⟩] 9)).cell? ⟨w1.heap.size, k, none⟩ = some (.string (strB (ocW k))) := by
    intro w1
    rw [(Keep.new w1 _ 9).cell k]
    have hk6 : k = 0 ∨ k = 1 ∨ k = 2 ∨ k = 3 ∨ k = 4 ∨ k = 5 := by omega
    rcases hk6 with rfl | rfl | rfl | rfl | rfl | rfl <;> rfl
  go_enter Tryd.func13, Tryd.ntmps13
  go_wp2
  generalize hW : w.alloc (.cells #[.int .i64 k, .int .i64 o.value, .slice A n c, .int .i64 o.used] 28) = W0 at hb0 k0 ⊢
  clear hW
  have y0 := k0.cell 0
  have y1 := k0.cell 1
  simp at y0 y1
  have k1 := Keep.alloc (w := W0) k0 (.cells #[.string ⟨#[]⟩, .string ⟨#[100, 111, 110, 101]⟩, .string ⟨#[112, 97, 110, 105, 99]⟩, .string ⟨#[101, 120, 105, 116]⟩, .string ⟨#[100, 101, 101, 112]⟩, .string ⟨#[102, 117, 101, 108]⟩] 9)
  have a0 : (W0.alloc (.cells #[.string ⟨#[]⟩, .string ⟨#[100, 111, 110, 101]⟩, .string ⟨#[112, 97, 110, 105, 99]⟩, .string ⟨#[101, 120, 105, 116]⟩, .string ⟨#[100, 101, 101, 112]⟩, .string ⟨#[102, 117, 101, 108]⟩] 9)).cell? ⟨w.heap.size, 0, none⟩ = some (.int .i64 k) := k1.cell 0
  have a1 : (W0.alloc (.cells #[.string ⟨#[]⟩, .string ⟨#[100, 111, 110, 101]⟩, .string ⟨#[112, 97, 110, 105, 99]⟩, .string ⟨#[101, 120, 105, 116]⟩, .string ⟨#[100, 101, 101, 112]⟩, .string ⟨#[102, 117, 101, 108]⟩] 9)).cell? ⟨w.heap.size, 1, none⟩ = some (.int .i64 o.value) := k1.cell 1
  have aw : (W0.alloc (.cells #[.string ⟨#[]⟩, .string ⟨#[100, 111, 110, 101]⟩, .string ⟨#[112, 97, 110, 105, 99]⟩, .string ⟨#[101, 120, 105, 116]⟩, .string ⟨#[100, 101, 101, 112]⟩, .string ⟨#[102, 117, 101, 108]⟩] 9)).cell? ⟨W0.heap.size, k, none⟩ = some (.string (strB (ocW k))) := HWD W0
  have HW := put HWD
  clear HWD
  have bA : Below w.heap.size w (W0.alloc (.cells #[.string ⟨#[]⟩, .string ⟨#[100, 111, 110, 101]⟩, .string ⟨#[112, 97, 110, 105, 99]⟩, .string ⟨#[101, 120, 105, 116]⟩, .string ⟨#[100, 101, 101, 112]⟩, .string ⟨#[102, 117, 101, 108]⟩] 9)).drew := (hb0.alloc hb0.size _).drew
  go_region_law (first
    | (go_simp; go_at_call 19; refine (l2Int_any o.value (W0.alloc (.cells #[.string ⟨#[]⟩, .string ⟨#[100, 111, 110, 101]⟩, .string ⟨#[112, 97, 110, 105, 99]⟩, .string ⟨#[101, 120, 105, 116]⟩, .string ⟨#[100, 101, 101, 112]⟩, .string ⟨#[102, 117, 101, 108]⟩] 9)).drew hv0 hv1).mono ?_; rintro e w1 ⟨rfl, hb1⟩; have c0 : w1.cell? ⟨w.heap.size, 0, none⟩ = some (.int .i64 k) := (Keep.below (w := (W0.alloc _).drew) k1 hb1).cell 0; have cw : w1.cell? ⟨W0.heap.size, k, none⟩ = some (.string (strB (ocW k))) := (hb1.cell (by simp)).trans aw)
    | (go_simp; go_at_call 19; refine (l2Int_any o.value W0.drew hv0 hv1).mono ?_; rintro e w1 ⟨rfl, hb1⟩; have k2 := Keep.below (w := W0.drew) k0 hb1; have c0 : w1.cell? ⟨w.heap.size, 0, none⟩ = some (.int .i64 k) := k2.cell 0; have d0 : (w1.alloc (.cells #[.string ⟨#[]⟩, .string ⟨#[100, 111, 110, 101]⟩, .string ⟨#[112, 97, 110, 105, 99]⟩, .string ⟨#[101, 120, 105, 116]⟩, .string ⟨#[100, 101, 101, 112]⟩, .string ⟨#[102, 117, 101, 108]⟩] 9)).cell? ⟨w.heap.size, 0, none⟩ = some (.int .i64 k) := (k2.alloc _).cell 0; have dw := HW.out w1))
  all_goals (
    first
      | (have bz := bA.trans (hb1.mono bA.size)
         have kz := Keep.below (w := (W0.alloc _).drew) k1 hb1
         clear hb1 c0 cw
         generalize hW : w1 = wz at bz kz ⊢)
      | (have bz := (hb0.drew.trans (hb1.mono hb0.size)).alloc (Nat.le_trans hb0.size hb1.size) (.cells #[.string ⟨#[]⟩, .string ⟨#[100, 111, 110, 101]⟩, .string ⟨#[112, 97, 110, 105, 99]⟩, .string ⟨#[101, 120, 105, 116]⟩, .string ⟨#[100, 101, 101, 112]⟩, .string ⟨#[102, 117, 101, 108]⟩] 9)
         have kz := k2.alloc (.cells #[.string ⟨#[]⟩, .string ⟨#[100, 111, 110, 101]⟩, .string ⟨#[112, 97, 110, 105, 99]⟩, .string ⟨#[101, 120, 105, 116]⟩, .string ⟨#[100, 101, 101, 112]⟩, .string ⟨#[102, 117, 101, 108]⟩] 9)
         clear hb1 c0 d0 dw k2
         generalize hW : w1.alloc (.cells #[.string ⟨#[]⟩, .string ⟨#[100, 111, 110, 101]⟩, .string ⟨#[112, 97, 110, 105, 99]⟩, .string ⟨#[101, 120, 105, 116]⟩, .string ⟨#[100, 101, 101, 112]⟩, .string ⟨#[102, 117, 101, 108]⟩] 9) = wz at bz kz ⊢)
    clear hW bA a0 a1 aw k1 y0 y1 k0 hb0
    have z2 := kz.cell 2
    simp at z2
    clear kz
    go_wp2
    go_loopw [3, 20] (fun s i wr => ∃ (q : Nat) (l : List UInt8), q ≤ n ∧ i = .int .i64 q ∧ s = .string (strB l) ∧ l.length ≤ 18 + 12 * q ∧ Hid (l = headL o ++ tellL (o.trace.take q)) ∧ Below w.heap.size w wr) (fun _ i _ => n - (intOf i).toNat)
    case atStart => exact ⟨0, headL o, Nat.zero_le _, rfl, by rw [hH.out, ← strB_append, ← strB_append, ← strB_append]; rfl, by omega, put (by simp [tellL]), bz⟩
    case round =>
      obtain ⟨q, l, hq, rfl, rfl, hlq, htx, hbel⟩ := hrel
      by_cases hlt : q < n
      · obtain ⟨b, off, x, rfl, hb, hc, hx⟩ := (hr.below hbel).at_ hlt
        have hxb := (bound_iff x).1 (List.all_eq_true.1 h3.out x (List.mem_of_getElem? hx.out))
        obtain ⟨hx0, hx1⟩ := hxb
        have hs2 : (strB (intL x)).size ≤ 11 := by rw [strB_size]; exact intL_length hx0 hx1
        have hs3 : (intL x).length ≤ 11 := intL_length hx0 hx1
        have hs1 : (strB l).size ≤ 7300 := by rw [strB_size]; omega
        have hs4 : (⟨#[32]⟩ ++ strB (intL x) : ByteArray).size ≤ 12 := by show (strB [32] ++ strB (intL x)).size ≤ 12; rw [strB_append, strB_size]; simp; omega
        have HN := put (show l ++ ([32] ++ intL x) = headL o ++ tellL (o.trace.take (q + 1)) by rw [tellL_more hx.out, htx.out, List.append_assoc])
        go_wp2_with fail
        refine (l2Int_any x _ hx0 hx1).mono ?_
        rintro e w2 ⟨rfl, hb2⟩
        have hbw := hbel.trans (hb2.mono hbel.size)
        clear hb2 hc
        go_wp2
        go_roundw
        case rel => exact ⟨q + 1, l ++ ([32] ++ intL x), by omega, by go_num, by rw [← strB_append, ← strB_append]; rfl, by simp; omega, HN, hbw⟩
        case measure => simp [intOf]; omega
      · have HT := put (show headL o ++ tellL (o.trace.take q) = ocText o by rw [List.take_of_length_le (by rw [hr.1]; omega)]; rfl)
        go_wp2
        go_ret
        exact ⟨ret_str (htx.out.trans HT.out), hbel⟩)

end Go.Proofs.YtnpmokkifffihaaDoor

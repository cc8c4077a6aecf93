/-
  Contracts of the reference's texts of numbers and tokens.
-/
import Derived.Test.YtfdijeeilfhjeaaDoorTokMem
import Derived.Deep.RegionWith
import Derived.Laws.IdiomStrings
import Derived.IntWalk
namespace Go.Proofs.YtfdijeeilfhjeaaDoor
open Go.RowKit Exs
set_option linter.unusedVariables false

/-- A text of bytes. -/
def strB (l : List UInt8) : ByteArray := ⟨l.toArray⟩
theorem strB_append (a b : List UInt8) : strB a ++ strB b = strB (a ++ b) := by
  apply ByteArray.ext
  simp [strB]
theorem strB_size (l : List UInt8) : (strB l).size = l.length := by simp [strB, ByteArray.size]

/-- 'string([]byte{x})'. -/
theorem run_string_one {P : Program} (src e dst : TypeId) (hs : P.underlying src = some (.slice e)) (he : P.underlying e = some (.int .u8)) (hd : P.underlying dst = some .string) (W : World) (g : Nat) (b : UInt8)
    (hc : W.cell? ⟨g, 0, none⟩ = some (.int .u8 b.toNat)) : (convert src dst (.slice (some ⟨g, 0, none⟩) 1 1)).run P W = .ok (.string (strB [b])) W :=
  run_convert_bytes_back W src dst e ⟨g, 0, none⟩ 1 [b] hs he hd (fun j hj => by
    have h0 : j = 0 := by simp at hj; exact hj
    subst h0
    simpa [Addr.add] using hc)

theorem wrap8 {n : Int} (h0 : 0 ≤ n) (h1 : n ≤ 255) : IntKind.u8.wrap n = n := by
  simp [IntKind.wrap_u8]; omega

theorem bcell {W w1 : World} (hb : Below W.heap.size W w1) : ∀ b o, b < W.heap.size → w1.cell? ⟨b, o, none⟩ = W.cell? ⟨b, o, none⟩ :=
  fun b o h => hb.cell (p := ⟨b, o, none⟩) h

set_option maxHeartbeats 400000 in
set_option maxRecDepth 100000 in
theorem l1Num_small (n : Nat) (w : World) (hn : n < 10) : Calls Tryd.prog 32 #[.int .i64 n] w fun e w' => e = .returned (.string (strB (numL n))) ∧ Below w.heap.size w w' := by
  have hN := numL_last hn
  have hb : (UInt8.ofNat (48 + n)).toNat = 48 + n := toNat_dig hn
  generalize UInt8.ofNat (48 + n) = b at *
  have HN := put hN; clear hN
  have hcv := run_string_one (P := Tryd.prog) 48 5 9 Tryd.underlying48 Tryd.underlying5 Tryd.underlying9 (w.alloc (.cells #[.int .u8 (48 + (n : Int))] 5)) w.heap.size b (by simp [hb])
  clear hb
  go_enter Tryd.func32, Tryd.ntmps32
  go_wp2
  go_ret
  exact ⟨by rw [HN.out]; rfl, (Below.refl _ _).alloc (Nat.le_refl _) _⟩

set_option maxHeartbeats 1000000 in
set_option maxRecDepth 100000 in
theorem l1Num_more (n : Nat) (w : World) (hn : n ≤ 4294967296) (h10 : 10 ≤ n) (ihn : ∀ W, Calls Tryd.prog 32 #[.int .i64 (n / 10 : Nat)] W fun e w' => e = .returned (.string (strB (numL (n / 10)))) ∧ Below W.heap.size W w') :
    Calls Tryd.prog 32 #[.int .i64 n] w fun e w' => e = .returned (.string (strB (numL n))) ∧ Below w.heap.size w w' := by
  have hN := numL_more h10
  have hb : (UInt8.ofNat (48 + n % 10)).toNat = 48 + n % 10 := toNat_dig (by omega)
  generalize UInt8.ofNat (48 + n % 10) = b at *
  have HN := put hN; clear hN
  obtain ⟨m, hm⟩ : ∃ m : Nat, n % 10 = m := ⟨_, rfl⟩
  obtain ⟨q, hq⟩ : ∃ q : Nat, n / 10 = q := ⟨_, rfl⟩
  rw [hm] at hb
  have hcv : ∀ (W : World) (g : Nat), W.cell? ⟨g, 0, none⟩ = some (.int .u8 (48 + (m : Int))) → (convert 48 9 (.slice (some ⟨g, 0, none⟩) 1 1)).run Tryd.prog W = .ok (.string (strB [b])) W :=
    fun W g hc => run_string_one 48 5 9 Tryd.underlying48 Tryd.underlying5 Tryd.underlying9 W g b (by rw [hb]; simpa using hc)
  rw [hq] at ihn HN
  have k1 : IntKind.i64.wrap ((n : Int).tdiv 10) = (q : Int) := by
    rw [Int.tdiv_eq_ediv_of_nonneg (by omega), IntWalk.i64_in _ (by omega)]; omega
  have k1' : IntKind.i64.wrap ((n : Int) / 10) = (q : Int) := by rw [IntWalk.i64_in _ (by omega)]; omega
  have k2 : (n : Int).tmod 10 = (m : Int) := by rw [Int.tmod_eq_emod_of_nonneg (by omega)]; omega
  have hm10 : m < 10 := by omega
  have k3 : IntKind.i64.wrap (48 + (m : Int)) = 48 + (m : Int) := IntWalk.i64_in _ (by omega)
  have k4 : IntKind.u8.wrap (48 + (m : Int)) = 48 + (m : Int) := wrap8 (by omega) (by omega)
  have hs1 : (strB (numL q)).size ≤ 10 := by rw [strB_size]; exact numL_length_le 9 q (by omega)
  have hs2 : (strB [b]).size ≤ 1 := by rw [strB_size]; simp
  have HB := put hb
  clear hb hm hq
  go_enter Tryd.func32, Tryd.ntmps32
  go_wp2
  go_region_with (go_at_call 32; with_reducible refine (ihn _).mono ?_; rintro e w1 ⟨rfl, hb1⟩; have hbc := bcell hb1)
  all_goals
    go_wp2
    go_ret
    refine ⟨by rw [HN.out, ← strB_append]; rfl, ?_⟩
    have hz := hb1.size
    first
    | exact (((Below.refl _ _).drew.alloc (Nat.le_refl _) _).trans (hb1.mono (by simp)))
    | exact (((Below.refl w.heap.size w).drew).trans hb1).alloc (by simpa using hz) _

theorem l1Num_any (n : Nat) (w : World) (hn : n ≤ 4294967296) : Calls Tryd.prog 32 #[.int .i64 n] w fun e w' => e = .returned (.string (strB (numL n))) ∧ Below w.heap.size w w' := by
  induction n using Nat.strongRecOn generalizing w with
  | _ n ih =>
    by_cases h10 : n < 10
    · exact l1Num_small n w h10
    · exact l1Num_more n w hn (by omega) fun W => ih (n / 10) (by omega) W (by omega)

end Go.Proofs.YtfdijeeilfhjeaaDoor

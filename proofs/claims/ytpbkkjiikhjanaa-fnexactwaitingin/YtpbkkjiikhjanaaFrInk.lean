/-
  The laws' marks on frames.
-/
import Derived.Test.YtpbkkjiikhjanaaFrM
import Derived.Test.YtpbkkjiikhjanaaInkV
namespace Go.Proofs.Ytpbkkjiikhjanaa
open Go.RowKit Exs

def inkFr (s : Fr) : Nat := 8 + s.pile.length + s.vars.length + s.flags.length
def inkFrs : List Fr → Nat
  | [] => 0
  | s :: r => inkFr s + inkFrs r
theorem inkFrs_append (a b : List Fr) : inkFrs (a ++ b) = inkFrs a + inkFrs b := by induction a with | nil => simp [inkFrs] | cons s r ih => simp [inkFrs, ih]; omega
theorem inkFrs_le : ∀ ss : List Fr, inkFrs ss ≤ 8 * (ss.length + manyFrs ss)
  | [] => by simp [inkFrs]
  | s :: r => by have := inkFrs_le r; simp only [inkFrs, inkFr, manyFrs, manyFr, List.length_cons]; omega
theorem inkFrs_step {ss : List Fr} {k : Nat} {s : Fr} (h : ss[k]? = some s) : inkFrs (ss.take (k + 1)) = inkFrs (ss.take k) + inkFr s ∧ inkFrs (ss.take k) + inkFr s ≤ inkFrs ss := by
  have h1 : inkFrs (ss.take (k + 1)) = inkFrs (ss.take k) + inkFr s := by rw [takeA_more h, inkFrs_append]; simp [inkFrs]
  refine ⟨h1, ?_⟩
  rw [← h1]
  conv => rhs; rw [← List.take_append_drop (k + 1) ss, inkFrs_append]
  omega

set_option maxHeartbeats 2000000 in
set_option maxRecDepth 100000 in
theorem markFrs_v (A : Option Addr) (n c : Nat) (ss : List Fr) (k : Int) (L : Nat) (wc w0 w : World) (m : MFrs wc L A n ss) (hw : Below wc.heap.size wc w0) (hi : Inkv L wc.heap.size w0 w) (hn : n ≤ 1048576) (hs : ∀ x ∈ ss, SmallFr x) (hk0 : 0 ≤ k) (hk1 : k + (inkFrs ss : Int) ≤ 1000000000) :
    Calls Try.prog 25 #[.slice A n c, .int .i64 k] w fun e w' => e = .returned (.int .i64 (k + (inkFrs ss : Int))) ∧ Inkv L wc.heap.size w0 w' := by
  obtain ⟨g, rfl, hL, hroom, hl⟩ := m
  have hgl := RoomFrp.lt hroom
  obtain ⟨cs, hg0, _, hcs, _⟩ := hroom
  have hg := (hw.block g hgl).trans hg0
  have HLT := put hgl
  clear hg0 hgl
  have HL := put hl
  have HG := put hg
  have HC := put hcs
  have HK := put hk1
  clear hg hcs hl hk1
  go_enter Try.func25, Try.ntmps25
  go_wp2
  go_loopw [1, 5] (fun u i wr => ∃ j : Nat, j ≤ n ∧ i = .int .i64 j ∧ u = .int .i64 (k + (inkFrs (ss.take j) : Int)) ∧ Inkv L wc.heap.size w0 wr) (fun _ i _ => n - (intOf i).toNat)
  case atStart => exact ⟨0, Nat.zero_le _, rfl, by simp [inkFrs], hi⟩
  case round =>
    clear hi
    obtain ⟨j, hj, rfl, rfl, hi⟩ := hrel
    by_cases hlt : j < n
    · have hx : ss[j]? = some (ss[j]'(by rw [HL.out]; exact hlt)) := List.getElem?_eq_getElem _
      generalize ss[j]'(by rw [HL.out]; exact hlt) = s at hx
      obtain ⟨A1, n1, c1, A2, n2, c2, A3, n3, c3, h0, ms⟩ := HC.out j s hx
      have G0 := put (show cs[j * 11]? = some (.int .i64 s.ide) from h0 0 _ rfl)
      have G1 := put (show cs[j * 11 + 1]? = some (.int .i64 s.fn) from h0 1 _ rfl)
      have G2 := put (show cs[j * 11 + 2]? = some (.int .i64 s.pla) from h0 2 _ rfl)
      have G3 := put (show cs[j * 11 + 3]? = some (.slice A1 n1 c1) from h0 3 _ rfl)
      have G4 := put (show cs[j * 11 + 4]? = some (.slice A2 n2 c2) from h0 4 _ rfl)
      have G5 := put (show cs[j * 11 + 5]? = some (.slice A3 n3 c3) from h0 5 _ rfl)
      have G6 := put (show cs[j * 11 + 6]? = some (.int .i64 s.result) from h0 6 _ rfl)
      have G7 := put (show cs[j * 11 + 7]? = some (.int .i64 s.mode) from h0 7 _ rfl)
      have G8 := put (show cs[j * 11 + 8]? = some (.int .i64 s.value) from h0 8 _ rfl)
      have G9 := put (show cs[j * 11 + 9]? = some (.int .i64 s.base) from h0 9 _ rfl)
      have G10 := put (show cs[j * 11 + 10]? = some (.bool s.off) from h0 10 _ rfl)
      clear h0
      have hss := hs s (mem_of_at hx)
      obtain ⟨l1, l2, l3⟩ := hss
      have e1 : s.pile.length = n1 := ms.pile.reads.1
      rw [e1] at l1
      have e2 : s.vars.length = n2 := ms.vars.reads.1
      rw [e2] at l2
      have e3 : s.flags.length = n3 := ms.flags.reads.1
      rw [e3] at l3
      have hstep := inkFrs_step hx
      have hval : ((inkFr s : Nat) : Int) = 8 + (n1 : Int) + (n2 : Int) + (n3 : Int) := by simp only [inkFr, e1, e2, e3]; omega
      have hbd : k + ((inkFrs (ss.take j) : Nat) : Int) + 8 + (n1 : Int) + (n2 : Int) + (n3 : Int) ≤ 1000000000 := by have := HK.out; have := hstep.2; omega
      have HN := put (show k + ((inkFrs (ss.take j) : Nat) : Int) + 1 + 1 + 1 + (n1 : Int) + (n2 : Int) + (n3 : Int) + 1 + 1 + 1 + 1 + 1 = k + ((inkFrs (ss.take (j + 1)) : Nat) : Int) by rw [hstep.1]; omega)
      generalize inkFrs (ss.take j) = T at hbd HN
      clear hstep hval e1 e2 e3
      have M1 := put (ms.pile.from (show L ≤ g + 1 by omega))
      have M2 := put (ms.vars.from (show L ≤ g + 1 by omega))
      have M3 := put (ms.flags.from (show L ≤ g + 1 by omega))
      clear ms hx
      obtain ⟨y0, hy0⟩ := hi.num HG.out G0.out
      have hf0 := hi.frozen HG.out (j * 11)
      obtain ⟨y1, hy1⟩ := hi.num HG.out G1.out
      have hf1 := hi.frozen HG.out (j * 11 + 1)
      obtain ⟨y2, hy2⟩ := hi.num HG.out G2.out
      have hf2 := hi.frozen HG.out (j * 11 + 2)
      have hj0 := (((hi.set hL HLT.out HG.out G0.out (k + (T : Int))).set hL HLT.out HG.out G1.out (k + (T : Int) + 1)).set hL HLT.out HG.out G2.out (k + (T : Int) + 1 + 1))
      have q3 := hi.slc HG.out G3.out
      go_wp2_with fail
      generalize (((wr).setCell ⟨g, j * 11, none⟩ (.int .i64 (k + (T : Int)))).setCell ⟨g, j * 11 + 1, none⟩ (.int .i64 (k + (T : Int) + 1))).setCell ⟨g, j * 11 + 2, none⟩ (.int .i64 (k + (T : Int) + 1 + 1)) = X0 at hj0 ⊢
      clear hi
      clear q3 hy0 hf0 hy1 hf1 hy2 hf2
      refine (markInts_v A1 n1 c1 s.pile (k + (T : Int) + 1 + 1 + 1) L wc w0 X0 M1.out hw hj0 l1 (by omega) (by omega)).mono ?_
      rintro e W1 ⟨rfl, hi1⟩
      clear hj0
      have q4 := hi1.slc HG.out G4.out
      go_wp2_with fail
      clear q4 
      refine (markInts_v A2 n2 c2 s.vars (k + (T : Int) + 1 + 1 + 1 + (n1 : Int)) L wc w0 W1 M2.out hw hi1 l2 (by omega) (by omega)).mono ?_
      rintro e W2 ⟨rfl, hi2⟩
      clear hi1
      have q5 := hi2.slc HG.out G5.out
      go_wp2_with fail
      clear q5 
      refine (markBools_v A3 n3 c3 s.flags (k + (T : Int) + 1 + 1 + 1 + (n1 : Int) + (n2 : Int)) L wc w0 W2 M3.out hw hi2 l3 (by omega) (by omega)).mono ?_
      rintro e W3 ⟨rfl, hi3⟩
      clear hi2
      obtain ⟨y6, hy6⟩ := hi3.num HG.out G6.out
      have hf6 := hi3.frozen HG.out (j * 11 + 6)
      obtain ⟨y7, hy7⟩ := hi3.num HG.out G7.out
      have hf7 := hi3.frozen HG.out (j * 11 + 7)
      obtain ⟨y8, hy8⟩ := hi3.num HG.out G8.out
      have hf8 := hi3.frozen HG.out (j * 11 + 8)
      obtain ⟨y9, hy9⟩ := hi3.num HG.out G9.out
      have hf9 := hi3.frozen HG.out (j * 11 + 9)
      obtain ⟨y10, hy10⟩ := hi3.tru HG.out G10.out
      have hf10 := hi3.frozen HG.out (j * 11 + 10)
      have HS := put (fun (zb : Bool) => (((((hi3.set hL HLT.out HG.out G6.out (k + (T : Int) + 1 + 1 + 1 + (n1 : Int) + (n2 : Int) + (n3 : Int))).set hL HLT.out HG.out G7.out (k + (T : Int) + 1 + 1 + 1 + (n1 : Int) + (n2 : Int) + (n3 : Int) + 1)).set hL HLT.out HG.out G8.out (k + (T : Int) + 1 + 1 + 1 + (n1 : Int) + (n2 : Int) + (n3 : Int) + 1 + 1)).set hL HLT.out HG.out G9.out (k + (T : Int) + 1 + 1 + 1 + (n1 : Int) + (n2 : Int) + (n3 : Int) + 1 + 1 + 1)).setB hL HLT.out HG.out G10.out zb))
      clear hi3
      go_wp2
      go_roundw
      case rel => exact ⟨j + 1, by omega, by go_num, by first | rw [HN.out] | (congr 1; rw [← HN.out]; omega), HS.out _⟩
      case measure => simp [intOf]; omega
    · have hfin := put (show ss.take j = ss from List.take_of_length_le (by rw [HL.out]; omega))
      go_wp2
      go_ret
      exact ⟨ret_int (by rw [hfin.out]), hi⟩

end Go.Proofs.Ytpbkkjiikhjanaa

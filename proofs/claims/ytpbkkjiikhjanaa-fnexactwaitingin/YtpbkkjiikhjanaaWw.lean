/-
  What a frame waits for, as the reference has it.
-/
import Derived.Test.YtpbkkjiikhjanaaWt
import Derived.Test.YtpbkkjiikhjanaaFrM
namespace Go.Proofs.Ytpbkkjiikhjanaa
open Go.RowKit Go.Deep Exs

/-- 'append(out, x)': as wpList_append_one, of rows up to twice as long. -/
theorem wpList_append_oneM {P : Program} {w : World} {ops : Array Oper} {rest : List Oper} {o : Oper} {a : Act} {Q : Exit → Act → World → Prop} (hgd : o.guard = none) (s x : Operand) (t : TypeId)
    (ho : o.op = .call { callee := .builtin .append, args := #[s, x], argTypes := #[t, t] })
    (B : Nat) (e : TypeId) (k : IntKind) (bytes : Nat) (hinfo : (P.info? e).map (fun i => (i.zero, i.size, i.bytes)) = some (some (.int k 0), 1, bytes)) (ht : P.underlying t = some (.slice e)) (hby : bytes ≤ 8)
    (v : Value) (xs : List Int) (hs : a.eval s = v) (w0 : World) (hbel : Below B w0 w) (hB : B ≤ w.heap.size) (hown : Nums w B e k v xs)
    (g : Nat) (b : Int) (hx : a.eval x = .slice (some ⟨g, 0, none⟩) 1 1) (hcell : w.cell? ⟨g, 0, none⟩ = some (.int k b)) (hlen : xs.length ≤ 2000000)
    (h : ∀ v' w', Nums w' B e k v' (xs ++ [b]) → Below B w0 w' → w.heap.size ≤ w'.heap.size → wpList P ops Q rest (a.put o.dst v') w') : wpList P ops Q (o :: rest) a w := by
  obtain ⟨i0, hi, hz0, hz1, hz2⟩ := info_parts hinfo
  refine wpList_append_own w hgd s x t ho B e i0 (.int k 0) 1 bytes ht hi hz0 hz1 hz2 rfl (by decide) v xs.length _ hs hown ⟨g, 0, none⟩ 1 1 [.int k b] hx rfl ?_ ?_ ?_ ?_ hB ?_
  · intro j u hj
    match j, hj with
    | 0, hj => simp at hj; subst hj; simpa [Addr.add] using hcell
  · intro u hu; simp at hu; subst hu; rfl
  · unfold maxLen; omega
  · have : (xs.length + 1) * bytes ≤ (xs.length + 1) * 8 := Nat.mul_le_mul_left _ hby
    omega
  · intro v' w' h1 h2 _
    refine h v' w' (by unfold Nums; simpa using h1) (hbel.grown h2 hB fun j hj => (hown.lt j hj).1) h2.size

set_option maxHeartbeats 4000000 in
set_option maxRecDepth 100000 in
theorem l9Waiting_any (ide fn pla result mode value base : Int) (off : Bool) (A1 : Option Addr) (n1 c1 : Nat) (A2 : Option Addr) (n2 c2 : Nat) (A3 : Option Addr) (n3 c3 : Nat) (flags : List Bool) (w : World) (hr : ReadsB w w.heap.size A3 n3 flags) (hn : n3 ≤ 1048576) :
    Calls Try.prog 17 #[.agg #[.int .i64 ide, .int .i64 fn, .int .i64 pla, .slice A1 n1 c1, .slice A2 n2 c2, .slice A3 n3 c3, .int .i64 result, .int .i64 mode, .int .i64 value, .int .i64 base, .bool off]] w fun e w' => ∃ v, e = .returned v ∧ Nums w' w.heap.size 3 .i64 v (wtL flags) ∧ Below w.heap.size w w' := by
  have HLN := put hr.1
  have hb0 : Below w.heap.size w (w.alloc (.cells #[.int .i64 ide, .int .i64 fn, .int .i64 pla, .slice A1 n1 c1, .slice A2 n2 c2, .slice A3 n3 c3, .int .i64 result, .int .i64 mode, .int .i64 value, .int .i64 base, .bool off] 46)) := (Below.refl _ _).alloc (Nat.le_refl _) _
  have k0 := Keep.new w #[.int .i64 ide, .int .i64 fn, .int .i64 pla, .slice A1 n1 c1, .slice A2 n2 c2, .slice A3 n3 c3, .int .i64 result, .int .i64 mode, .int .i64 value, .int .i64 base, .bool off] 46
  have hsz : (w.alloc (.cells #[.int .i64 ide, .int .i64 fn, .int .i64 pla, .slice A1 n1 c1, .slice A2 n2 c2, .slice A3 n3 c3, .int .i64 result, .int .i64 mode, .int .i64 value, .int .i64 base, .bool off] 46)).heap.size = w.heap.size + 1 := by simp
  have hw0 : IntKind.i64.wrap ((n3 : Int) - 1) = (n3 : Int) - 1 := IntWalk.i64_in _ ⟨by omega, by omega⟩
  have hlen : (wtF flags n3) = [] := wtF_end (by have := HLN.out; omega)
  have HE := put hlen
  have RR := put (hr.now hb0)
  clear hr hlen
  go_enter Try.func17, Try.ntmps17
  go_wp2
  generalize hW : w.alloc (.cells #[.int .i64 ide, .int .i64 fn, .int .i64 pla, .slice A1 n1 c1, .slice A2 n2 c2, .slice A3 n3 c3, .int .i64 result, .int .i64 mode, .int .i64 value, .int .i64 base, .bool off] 46) = W0 at hb0 k0 hsz RR ⊢
  clear hW
  have hlt0 : w.heap.size < W0.heap.size := by omega
  go_loopw [3, 4] (fun v i wr => ∃ (k : Nat) (u : Value), k ≤ n3 ∧ u = v ∧ i = .int .i64 ((k : Int) - 1) ∧ Nums wr W0.heap.size 3 .i64 u (wtF flags k) ∧ Below W0.heap.size W0 wr) (fun _ i _ => (intOf i + 1).toNat)
  case atStart => exact ⟨n3, _, Nat.le_refl _, rfl, rfl, by rw [HE.out]; exact Nums.nil _ _ _ _, Below.refl _ _⟩
  case round =>
    obtain ⟨k, u, hk, rfl, rfl, nu, bw⟩ := hrel
    have kb := k0.below bw
    have y5 := kb.cell 5
    simp at y5
    have hbw : Below w.heap.size w wr := hb0.trans (bw.mono hb0.size)
    cases k with
    | zero =>
      have HF := put nu
      clear nu k0 kb y5
      go_wp2
      go_ret
      exact ⟨u, rfl, (HF.out).more hb0.size, hbw⟩
    | succ k =>
      have e1 : ((k + 1 : Nat) : Int) - 1 = (k : Int) := by omega
      rw [e1]
      have hlt : k < n3 := by omega
      have hwk : IntKind.i64.wrap ((k : Int) - 1) = (k : Int) - 1 := IntWalk.i64_in _ ⟨by omega, by omega⟩
      obtain ⟨b, off', x, rfl, hb', hc, hx⟩ := (RR.out.below bw).at_ hlt
      have hkI : (k : Int) < (n3 : Int) := by omega
      have hk0 : (0 : Int) ≤ (k : Int) := by omega
      have hxl : (wtF flags (k + 1)).length ≤ 2000000 := by have h1 := wtF_length flags (k + 1); have h2 := HLN.out; omega
      cases x
      · have HS := put (wtF_not hx.out)
        clear hx hxl e1
        go_wp2
        go_roundw
        case rel => exact ⟨k, _, by omega, rfl, by go_num, by rw [HS.out]; exact nu, bw⟩
        case measure => simp [intOf]
      · have HS := put (wtF_set hx.out)
        have nuA := Nums.alloc nu (.cells #[.int .i64 (k : Int)] 3)
        have bwA := bw.alloc bw.size (.cells #[.int .i64 (k : Int)] 3)
        have hsA : W0.heap.size ≤ wr.heap.size + 1 := by have := bw.size; omega
        clear hx e1
        go_wp2_with (at_builtin; refine wpList_append_oneM rfl _ _ 23 rfl W0.heap.size 3 .i64 8 Try.info3 Try.underlying23 (by decide) u (wtF flags (k + 1)) rfl W0 bwA (by simpa using hsA) nuA wr.heap.size (k : Int) rfl (by simp) hxl ?_; intro v2 w2 hn2 hb2 hs2)
        go_roundw
        case rel => exact ⟨k, _, by omega, rfl, by go_num, by rw [HS.out]; exact hn2, hb2⟩
        case measure => simp [intOf]

end Go.Proofs.Ytpbkkjiikhjanaa

/-
  Texts joined: LowZ LoL.
-/
import Derived.Test.YtpmpjiigmjnniaaGreatJLowX
import Derived.Test.YtpmpjiigmjnniaaGreatJLowY
import Derived.Test.YtpmpjiigmjnniaaGreatJAppN
import Derived.Test.YtpmpjiigmjnniaaGreatJLowG
import Derived.Test.YtpmpjiigmjnniaaGreatJSitI
/-
  appendBlock: the code of a block written behind a row, whatever the block's depth.
-/
namespace Go.Proofs.YtpmpjiigmjnniaaGreat
open Go.RowKit Exs

/-- What 'appendBlock' answers, for blocks that are not deeper. -/
def AppC (d : Nat) : Prop := ∀ (lo : Lo) (S : Nat → Prop) (A : Option Addr) (n c B : Nat) (w : World), lo.deep ≤ d → n = lo.many → lo.size ≤ 1000000 → (∀ b, S b → b < B) → B ≤ w.heap.size → HoldsLo w S A 0 lo → AppB B w A n c lo
theorem holds_elder {w w' : World} {S : Nat → Prop} {A : Option Addr} {i B : Nat} {lo : Lo} (hS : ∀ b, S b → b < B) (h : HoldsLo w S A i lo) (hb : Below B w w') : HoldsLo w' S A i lo := h.kept (fun b hs => hb.block b (hS b hs)) lo A i
theorem long_elder (lo : Lo) (S : Nat → Prop) (A : Option Addr) (n c B : Nat) (w : World) (hn : n = lo.many) (hz : lo.size ≤ 1000000) (hl : lo.long ≤ 1000000) (hS : ∀ b, S b → b < B) (hB : B ≤ w.heap.size) (h : HoldsLo w S A 0 lo) (W : World) (hW : Below B w W) :
    Calls Tryz.prog 87 #[.slice A n c] W fun e w' => e = .returned (.int .i64 (lo.long : Nat)) ∧ Below W.heap.size W w' :=
  long_any lo.deep lo S A n c W (Nat.le_refl _) hn hz hl (fun b hb => Nat.lt_of_lt_of_le (hS b hb) (Nat.le_trans hB hW.size)) (holds_elder hS h hW)

set_option maxHeartbeats 2000000 in
set_option maxRecDepth 100000 in
theorem app_step (d : Nat) (HS : Hid (∀ d', d' < d → AppC d')) : AppC d := by
  intro lo S A n c B w hd hn hz hS hB hlo W v O hbW hv hlen
  have hn6 : n ≤ 1000000 := by rw [hn]; exact Nat.le_trans lo.many_size hz
  have HN := put hn
  have HSS := put hS
  have HBW := put hbW
  have HBs := put hB
  have hBW : B ≤ W.heap.size := Nat.le_trans hB hbW.size
  clear hn hS hbW hB
  go_enter Tryz.func49, Tryz.ntmps49
  go_wp2
  go_loopw [0, 9] (fun v' i wr => ∃ (k : Nat) (b : Lo) (O' : List Token), k ≤ n ∧ i = .int .i64 k ∧ k + b.many = n ∧ Inss wr B v' O' ∧ O' ++ b.emit O'.length = O ++ lo.emit O.length ∧ O'.length + b.long ≤ 100000 ∧ b.size ≤ 1000000 ∧ b.deep ≤ d ∧ HoldsLo w S A k b ∧ Below B W wr ∧ RestSame W wr) (fun _ i _ => n - (intOf i).toNat)
  case atStart => exact ⟨0, lo, O, Nat.zero_le _, rfl, by have := HN.out; omega, hv, rfl, hlen, hz, hd, hlo, Below.refl _ _, RestSame.refl _⟩
  case round =>
    obtain ⟨k, b, O', hk, rfl, hkb, hown, hem, hln, hbz, hbd, hh, hbel, hrs⟩ := hrel
    clear hv hlen hz hd hlo
    have HE2 := put hem
    have HLN := put hln
    have HZ := put hbz
    have HD := put hbd
    have HK := put hkb
    clear hem hln hbz hbd
    cases b with
    | nil =>
      have hkn : k = n := by simpa [Lo.many] using hkb
      subst hkn
      go_wp2
      go_ret
      exact ⟨_, rfl, by rw [← HE2.out]; simpa [Lo.emit] using hown, hbel, hrs⟩
    | plain x r =>
      obtain ⟨⟨g, o, u, rfl, hg, hc, hi⟩, hr⟩ := hh
      have hgB := HSS.out g hg
      have hbw := (HBW.out).trans hbel
      have hcw := (hbw.cell (p := ⟨g, o + k, none⟩) hgB).trans hc
      have hlt : k < n := by simp only [Lo.many] at hkb; omega
      obtain ⟨X, hX⟩ : ∃ X, (Lo.plain x .nil).emit O'.length = X := ⟨_, rfl⟩
      have HXL := put (show X.length = (Lo.plain x .nil).long by rw [← hX, Lo.emit_length])
      have HEM := put (show X ++ r.emit (O' ++ X).length = (Lo.plain x r).emit O'.length by
        have h1 := Lo.emit_app (Lo.plain x .nil) r O'.length
        rw [hX] at h1
        rw [show (Lo.plain x r) = (Lo.plain x .nil).app r from rfl, h1, List.length_append, HXL.out]
        rw [show ((O'.length + (Lo.plain x .nil).long : Nat) : Int) = (O'.length : Int) + ((Lo.plain x .nil).long : Int) by omega])
      have HR := put hr
      have HC := put (appPlain_any B _ O' u x S _ hown (hi.kept fun b hb => hbw.block b (HSS.out b hb)) (Nat.le_trans HBs.out hbw.size) (by have := HLN.out; simp only [Lo.long] at this; omega))
      have hXe : O' ++ x = O' ++ X := by rw [← hX]; simp [Lo.emit]
      rw [hXe] at HC
      simp only [Lo.many, Lo.long, Lo.deep, Lo.size] at HK HLN HZ HD HXL
      clear hkb hr hi hX hXe hown hbw
      go_wp2_with (go_at_call 70; refine HC.out.mono ?_; rintro e w2 ⟨v2, rfl, own2, bel2, rs2⟩)
      go_roundw
      case rel => exact ⟨k + 1, r, O' ++ X, by omega, by go_num, by have := HK.out; omega, own2, by rw [← HE2.out, List.append_assoc, HEM.out], by have := HLN.out; have := HXL.out; rw [List.length_append]; omega, by have := HZ.out; omega, by have := HD.out; omega, HR.out, hbel.trans bel2, hrs.trans rs2⟩
      case measure => simp [intOf]; omega
    | ifs e0 t l r =>
      obtain ⟨⟨g, o, u, At, nt, ct, Al, nl, cl, rfl, hg, hc, hi, ht, hel, hht, hhl⟩, hr⟩ := hh
      have hgB := HSS.out g hg
      have hbw := (HBW.out).trans hbel
      have hcw := (hbw.cell (p := ⟨g, o + k, none⟩) hgB).trans hc
      have hlt : k < n := by simp only [Lo.many] at hkb; omega
      obtain ⟨X, hX⟩ : ∃ X, (Lo.ifs e0 t l .nil).emit O'.length = X := ⟨_, rfl⟩
      have HXL := put (show X.length = (Lo.ifs e0 t l .nil).long by rw [← hX, Lo.emit_length])
      have HEM := put (show X ++ r.emit (O' ++ X).length = (Lo.ifs e0 t l r).emit O'.length by
        have h1 := Lo.emit_app (Lo.ifs e0 t l .nil) r O'.length
        rw [hX] at h1
        rw [show (Lo.ifs e0 t l r) = (Lo.ifs e0 t l .nil).app r from rfl, h1, List.length_append, HXL.out]
        rw [show ((O'.length + (Lo.ifs e0 t l .nil).long : Nat) : Int) = (O'.length : Int) + ((Lo.ifs e0 t l .nil).long : Int) by omega])
      have HR := put hr
      have hsw : wr.heap.size ≥ B := Nat.le_trans HBs.out hbw.size
      have hSr : ∀ b, S b → b < B := HSS.out
      have hT := holds_elder hSr hht hbw
      have hL := holds_elder hSr hhl hbw
      have hI := hi.kept fun b hb => hbw.block b (HSS.out b hb)
      have z := HZ.out
      have dd := HD.out
      have ll := HLN.out
      simp only [Lo.size, Lo.deep, Lo.long] at z dd ll
      have HC := put (appIf_any B _ O' u e0 At nt ct t Al nl cl l wr hown hsw (by omega)
        (put fun W1 h1 => ifLong_any u e0 S At nt ct t.long Al nl cl l.long W1 (hI.kept fun b hb => h1.block b (hSr b hb)) (by omega)
          (put fun W2 h2 => long_elder t S At nt ct B wr ht (by omega) (by omega) hSr hsw hT W2 (h1.trans (h2.mono (Nat.le_trans hsw h1.size))))
          (put fun W2 h2 => long_elder l S Al nl cl B wr hel (by omega) (by omega) hSr hsw hL W2 (h1.trans (h2.mono (Nat.le_trans hsw h1.size)))))
        (put fun W1 h1 => long_elder l S Al nl cl B wr hel (by omega) (by omega) hSr hsw hL W1 h1)
        (put fun W1 h1 => (hI.kept fun b hb => h1.block b (hSr b hb)).1)
        (put (HS.out (d - 1) (by omega) t S At nt ct B wr (by omega) ht (by omega) hSr hsw hT))
        (put (HS.out (d - 1) (by omega) l S Al nl cl B wr (by omega) hel (by omega) hSr hsw hL)))
      rw [hX] at HC
      simp only [Lo.many, Lo.long, Lo.deep, Lo.size] at HK HLN HZ HD HXL
      clear hkb hr hi hX hown hbw hsw hSr hT hL hI z dd ll ht hel hht hhl
      go_wp2_with (go_at_call 70; refine HC.out.mono ?_; rintro e w2 ⟨v2, rfl, own2, bel2, rs2⟩)
      go_roundw
      case rel => exact ⟨k + 1, r, O' ++ X, by omega, by go_num, by have := HK.out; omega, own2, by rw [← HE2.out, List.append_assoc, HEM.out], by have := HLN.out; have := HXL.out; rw [List.length_append]; omega, by have := HZ.out; omega, by have := HD.out; omega, HR.out, hbel.trans bel2, hrs.trans rs2⟩
      case measure => simp [intOf]; omega
    | whl e0 t r =>
      obtain ⟨⟨g, o, u, At, nt, ct, rfl, hg, hc, hi, ht, hht⟩, hr⟩ := hh
      have hgB := HSS.out g hg
      have hbw := (HBW.out).trans hbel
      have hcw := (hbw.cell (p := ⟨g, o + k, none⟩) hgB).trans hc
      have hlt : k < n := by simp only [Lo.many] at hkb; omega
      obtain ⟨X, hX⟩ : ∃ X, (Lo.whl e0 t .nil).emit O'.length = X := ⟨_, rfl⟩
      have HXL := put (show X.length = (Lo.whl e0 t .nil).long by rw [← hX, Lo.emit_length])
      have HEM := put (show X ++ r.emit (O' ++ X).length = (Lo.whl e0 t r).emit O'.length by
        have h1 := Lo.emit_app (Lo.whl e0 t .nil) r O'.length
        rw [hX] at h1
        rw [show (Lo.whl e0 t r) = (Lo.whl e0 t .nil).app r from rfl, h1, List.length_append, HXL.out]
        rw [show ((O'.length + (Lo.whl e0 t .nil).long : Nat) : Int) = (O'.length : Int) + ((Lo.whl e0 t .nil).long : Int) by omega])
      have HR := put hr
      have hsw : wr.heap.size ≥ B := Nat.le_trans HBs.out hbw.size
      have hSr : ∀ b, S b → b < B := HSS.out
      have hT := holds_elder hSr hht hbw
      have hI := hi.kept fun b hb => hbw.block b (HSS.out b hb)
      have z := HZ.out
      have dd := HD.out
      have ll := HLN.out
      simp only [Lo.size, Lo.deep, Lo.long] at z dd ll
      have HC := put (appWhl_any B _ O' u e0 At nt ct t wr hown hsw (by omega)
        (put fun W1 h1 => whlLong_any u e0 S At nt ct t.long W1 (hI.kept fun b hb => h1.block b (hSr b hb)) (by omega)
          (put fun W2 h2 => long_elder t S At nt ct B wr ht (by omega) (by omega) hSr hsw hT W2 (h1.trans (h2.mono (Nat.le_trans hsw h1.size)))))
        (put fun W1 h1 => (hI.kept fun b hb => h1.block b (hSr b hb)).1)
        (put (HS.out (d - 1) (by omega) t S At nt ct B wr (by omega) ht (by omega) hSr hsw hT)))
      rw [hX] at HC
      simp only [Lo.many, Lo.long, Lo.deep, Lo.size] at HK HLN HZ HD HXL
      clear hkb hr hi hX hown hbw hsw hSr hT hI z dd ll ht hht
      go_wp2_with (go_at_call 70; refine HC.out.mono ?_; rintro e w2 ⟨v2, rfl, own2, bel2, rs2⟩)
      go_roundw
      case rel => exact ⟨k + 1, r, O' ++ X, by omega, by go_num, by have := HK.out; omega, own2, by rw [← HE2.out, List.append_assoc, HEM.out], by have := HLN.out; have := HXL.out; rw [List.length_append]; omega, by have := HZ.out; omega, by have := HD.out; omega, HR.out, hbel.trans bel2, hrs.trans rs2⟩
      case measure => simp [intOf]; omega

/-- 'appendBlock' of a block, whatever its depth. -/
theorem app_any : ∀ d, AppC d := fun d => Nat.strongRecOn d fun d ih => app_step d (put ih)

end Go.Proofs.YtpmpjiigmjnniaaGreat

/-
  lowFunc: how large its block is; what is kept while a code is made.
-/
namespace Go.Proofs.YtpmpjiigmjnniaaGreat
open Go.RowKit Go.Shelf Exs

theorem size_app : ∀ b c : Lo, (b.app c).size = b.size + c.size
  | .nil, c => by simp [Lo.app, Lo.size]
  | .plain _ r, c => by simp only [Lo.app, Lo.size, size_app r c]; omega
  | .ifs _ _ _ r, c => by simp only [Lo.app, Lo.size, size_app r c]; omega
  | .whl _ _ r, c => by simp only [Lo.app, Lo.size, size_app r c]; omega
theorem stmtO_size {f : Fc} {rec : List Int → Lo} {s : St} {n : Int} {p q : Nat} (h1 : (rec s.th).size ≤ p) (h2 : (rec s.el).size ≤ q) : (stmtO f rec s n).size ≤ 1 + p + q := by
  unfold stmtO
  split
  · simp only [Lo.size]; omega
  · split
    · simp only [Lo.size]; omega
    · split <;> (simp only [Lo.size]; omega)
theorem lo_size {f : Fc} : ∀ (g : Nat) (l : List Int), (∀ n ∈ l, 0 ≤ n ∧ n < f.stmts.length) → Nest f → (loB (loSt f g) l).size ≤ (ord f g l).length
  | 0, [], _, _ => by simp [loB, Lo.size]
  | 0, n :: r, h, hn => by
    have := lo_size 0 r (fun m hm => h m (by simp [hm])) hn
    have h0 : ord f 0 r = [] := by cases r <;> (unfold ord; rfl)
    have h1 : ord f 0 (n :: r) = [] := by unfold ord; rfl
    rw [h0] at this
    simp [loB, loSt, h1, size_app, Lo.size] at this ⊢
    exact this
  | g + 1, [], _, _ => by simp [loB, Lo.size]
  | g + 1, n :: r, h, hn => by
    have hin := h n (by simp)
    obtain ⟨q, rfl⟩ : ∃ q : Nat, n = q := ⟨n.toNat, by omega⟩
    obtain ⟨s, hs⟩ := at_of_range (f := f) (n := (q : Int)) (by omega) hin.2
    have hs' : f.stmts[q]? = some s := by simpa using hs
    rw [ord_cons hs]
    have hnest := hn q s hs'
    have h1 : (loB (loSt f g) s.th).size ≤ (ord f g s.th).length := lo_size g s.th (fun m hm => by have := hnest m (.inl hm); omega) hn
    have h2 : (loB (loSt f g) s.el).size ≤ (ord f g s.el).length := lo_size g s.el (fun m hm => by have := hnest m (.inr hm); omega) hn
    have h3 := stmtO_size (f := f) (n := (q : Int)) h1 h2
    have h4 := lo_size (g + 1) r (fun m hm => h m (by simp [hm])) hn
    simp only [loB, loSt_at hs', size_app, List.length_append, List.length_cons] at h4 ⊢
    omega
  termination_by g l => (g, l.length)

/-- Whatever is no row of one type lies as it lay. -/
def Same (e : TypeId) (W W' : World) : Prop := ∀ (b : Nat) (cs : Array Value) (t : TypeId) (fz : Nat × Nat), W.heap[b]? = some (Obj.cells cs t fz) → t ≠ e → W'.heap[b]? = W.heap[b]?
theorem Same.keep {e : TypeId} {W W' : World} {g : Nat} {cs : Array Value} {t : TypeId} (h : Same e W W') (hk : Keep W g cs t) (ht : t ≠ e) : Keep W' g cs t := (h g cs t (0, 0) hk ht).trans hk
theorem Same.row {e : TypeId} {W W' : World} {B t size n : Nat} {v : Value} {xs : List Value} (h : Same e W W') (hr : W.ownsRow B t size v n xs) (ht : t ≠ e) : W'.ownsRow B t size v n xs := by
  refine ⟨hr.1, ?_⟩
  rcases hr.2 with h0 | ⟨g, cap, cur, hv, hB, hh, r⟩
  · exact .inl h0
  · exact .inr ⟨g, cap, cur, hv, hB, (h g _ _ _ hh ht).trans hh, r⟩
theorem Same.set {W : World} {g : Nat} {cs : Array Value} {t : TypeId} (hk : Keep W g cs t) (i : Nat) (v : Value) : Same t W (W.setCell ⟨g, i, none⟩ v) := fun b cs' t' fz hb ht => Below.heap_setCell W _ v b (fun e => by
  have e : b = g := e
  subst e
  have hk : W.heap[b]? = _ := hk
  rw [hk] at hb
  injection hb with hb
  injection hb with _ hb _
  exact ht hb.symm)
theorem Same.grown {W W' : World} {B e size n : Nat} {v : Value} {xs : List Value} (hg : W.grownBy W' v.ownBlock) (ho : W.ownsRow B e size v n xs) : Same e W W' := fun b _ _ _ hb ht => hg.block b (Array.getElem?_eq_some_iff.1 hb).1 (apart ho hb ht)
theorem Same.below {e : TypeId} {W W' : World} (hb : Below W.heap.size W W') : Same e W W' := fun b _ _ _ h _ => hb.block b (Array.getElem?_eq_some_iff.1 h).1
theorem Same.trans {e : TypeId} {A B C : World} (h : Same e A B) (k : Same e B C) : Same e A C := fun b cs t fz hb ht => by
  have h1 := h b cs t fz hb ht
  exact (k b cs t fz (h1.trans hb) ht).trans h1
theorem Same.own {W W' : World} {row : Option Nat} (hg : W.grownBy W' row) (hr : ∀ r, row = some r → ∃ o : Obj, W.heap[r]? = some o ∧ o.isCells = false) : Same 1000000 W W' := fun b _ _ _ hb _ => hg.block b (Array.getElem?_eq_some_iff.1 hb).1 (fun e => by
  obtain ⟨o, ho, hc⟩ := hr b e.symm
  rw [hb] at ho
  injection ho with ho
  subst ho
  cases hc)

/-- A code in the making, in boxes. -/
structure RSt (w W : World) (F Z C R : Nat) (bF : Array Value) (vS vP vi vr : Value) (xs ps : List Int) (is : List Token) (rs : List Row3) : Prop where
  kF : Keep W F bF 59
  kZ : Keep W Z #[.int .i64 0, .int .i64 0, .slice none 0 0, .slice none 0 0, .slice none 0 0] 30
  kC : Keep W C #[vi] 27
  kR : Keep W R #[vr] 28
  nS : Nums W w.heap.size 3 .i64 vS xs
  nP : Nums W w.heap.size 3 .i64 vP ps
  ins : Inss W w.heap.size vi is
  rows : Rws W w.heap.size vr rs
  bel : Below w.heap.size w W
section
variable {w W W' : World} {F Z C R : Nat} {bF : Array Value} {vS vP vi vr v' : Value} {xs ps : List Int} {is is' : List Token} {rs rs' : List Row3}
theorem RSt.same (h : RSt w W F Z C R bF vS vP vi vr xs ps is rs) (hs : Same 1000000 W W') (hb : Below w.heap.size W W') : RSt w W' F Z C R bF vS vP vi vr xs ps is rs :=
  ⟨hs.keep h.kF (by decide), hs.keep h.kZ (by decide), hs.keep h.kC (by decide), hs.keep h.kR (by decide), hs.row h.nS (by decide), hs.row h.nP (by decide), hs.row h.ins (by decide), hs.row h.rows (by decide), h.bel.trans hb⟩
theorem RSt.below (h : RSt w W F Z C R bF vS vP vi vr xs ps is rs) (hb : Below W.heap.size W W') : RSt w W' F Z C R bF vS vP vi vr xs ps is rs := h.same (.below hb) (hb.mono h.bel.size)
theorem RSt.stepI (h : RSt w W F Z C R bF vS vP vi vr xs ps is rs) (hC : w.heap.size ≤ C) (hg : W.grownBy W' vi.ownBlock) (hb : Below w.heap.size W W') (hn : Inss W' w.heap.size v' is') : RSt w (W'.setCell ⟨C, 0, none⟩ v') F Z C R bF vS vP v' vr xs ps is' rs := by
  have h1 : Same 83 W W' := .grown hg h.ins
  have kC := h1.keep h.kC (by decide)
  have h2 : Same 27 W' (W'.setCell ⟨C, 0, none⟩ v') := .set kC 0 v'
  exact ⟨h2.keep (h1.keep h.kF (by decide)) (by decide), h2.keep (h1.keep h.kZ (by decide)) (by decide), by simpa using kC.set 0 v', h2.keep (h1.keep h.kR (by decide)) (by decide),
    h2.row (h1.row h.nS (by decide)) (by decide), h2.row (h1.row h.nP (by decide)) (by decide), h2.row hn (by decide), h2.row (h1.row h.rows (by decide)) (by decide), (h.bel.trans hb).setCell (p := ⟨C, 0, none⟩) hC v'⟩
theorem RSt.stepR (h : RSt w W F Z C R bF vS vP vi vr xs ps is rs) (hR : w.heap.size ≤ R) (hg : W.grownBy W' vr.ownBlock) (hn : Rws W' w.heap.size v' rs') : RSt w (W'.setCell ⟨R, 0, none⟩ v') F Z C R bF vS vP vi v' xs ps is rs' := by
  have h1 : Same 85 W W' := .grown hg h.rows
  have hb : Below w.heap.size W W' := (Below.refl _ _).grown hg h.bel.size fun j hj => (World.ownsRow.lt h.rows j hj).1
  have kR := h1.keep h.kR (by decide)
  have h2 : Same 28 W' (W'.setCell ⟨R, 0, none⟩ v') := .set kR 0 v'
  exact ⟨h2.keep (h1.keep h.kF (by decide)) (by decide), h2.keep (h1.keep h.kZ (by decide)) (by decide), h2.keep (h1.keep h.kC (by decide)) (by decide), by simpa using kR.set 0 v',
    h2.row (h1.row h.nS (by decide)) (by decide), h2.row (h1.row h.nP (by decide)) (by decide), h2.row (h1.row h.ins (by decide)) (by decide), h2.row hn (by decide), (h.bel.trans hb).setCell (p := ⟨R, 0, none⟩) hR v'⟩
end
/-- The box that a walk backward reads, beside the row itself. -/
theorem Fix.of {W : World} {B Bs : Nat} {A : Option Addr} {m c : Nat} {xs : List Int} (hk : Keep W Bs #[.slice A m c] 26) (hn : Nums W B 3 .i64 (.slice A m c) xs) : Fix Bs A m c xs W := by
  refine ⟨by have := hk.cell 0; simpa using this, ?_, fun j x hj => ?_⟩
  · rcases hn.2 with ⟨h, h0⟩ | ⟨g, cap, cur, h, _⟩
    · cases h; exact h0.symm
    · injection h with _ h2 _
  · have hj' := (List.getElem?_eq_some_iff.1 hj).1
    rcases hn.2 with ⟨h, h0⟩ | ⟨g, cap, cur, h, _⟩
    · omega
    · injection h with h1 h2 h3
      subst h1; subst h2; subst h3
      exact ⟨g, 0, rfl, by rw [Nat.zero_add, World.ownsRow.cellAt hn j (by omega)]; simp [hj]⟩

end Go.Proofs.YtpmpjiigmjnniaaGreat

/-
  Texts joined: Lpi Lpw.
-/
import Derived.Test.YtpmpjiigmjnniaaGreatJKs
import Derived.Test.YtpmpjiigmjnniaaGreatJLoM
/-
  The program's LowerProg.
-/
namespace Go.Proofs.YtpmpjiigmjnniaaGreat
open Go.RowKit Exs

/-- A row of codes of known length that is filled from its begin on. -/
def RoomK (W : World) (g n : Nat) (ks : List KC) : Prop := ∃ cs : Array Value, W.heap[g]? = some (.cells cs 30 (0, 0)) ∧ cs.size = n * 5 ∧ ∀ (j : Nat) (u : Value), (flatK ks)[j]? = some u → cs[j]? = some u
theorem RoomK.made (w : World) (n : Nat) (z : Array Value) (m : Nat) (hm : m = n * 5) : RoomK (w.alloc (.cells (madeCells z m) 30)) w.heap.size n [] :=
  ⟨_, heap_alloc_new _ _, by rw [size_madeCells]; omega, fun j s hj => by simp [flatK] at hj⟩
theorem RoomK.lt {W : World} {g n : Nat} {ks : List KC} (h : RoomK W g n ks) : g < W.heap.size := by
  obtain ⟨cs, h1, _⟩ := h
  exact (Array.getElem?_eq_some_iff.1 h1).1
theorem RoomK.below {W W' : World} {g n : Nat} {ks : List KC} (h : RoomK W g n ks) (hb : Below W.heap.size W W') : RoomK W' g n ks := by
  obtain ⟨cs, h1, h2⟩ := h
  exact ⟨cs, (hb.block g (Array.getElem?_eq_some_iff.1 h1).1).trans h1, h2⟩
theorem RoomK.at_ {W : World} {g n : Nat} {ks : List KC} (h : RoomK W g n ks) (j : Nat) (hj : j < n * 5) : ∃ v, W.cell? ⟨g, j, none⟩ = some v := by
  obtain ⟨cs, h1, h2, _⟩ := h
  exact ⟨cs[j], by rw [cell_of_row W g j cs 30 (0, 0) h1]; exact Array.getElem?_eq_getElem (by omega)⟩
theorem RoomK.frozen {W : World} {g n : Nat} {ks : List KC} (h : RoomK W g n ks) (j : Nat) : W.frozen? ⟨g, j, none⟩ = false := by
  obtain ⟨cs, h1, _⟩ := h
  simp [World.frozen?, h1]
theorem RoomK.keep {W : World} {g n : Nat} {ks : List KC} (h : RoomK W g n ks) : ∃ cs, Keep W g cs 30 := by
  obtain ⟨cs, h1, _⟩ := h
  exact ⟨cs, h1⟩
theorem RoomK.push {W : World} {g n : Nat} {ks : List KC} (h : RoomK W g n ks) (hc : ks.length < n) (k : KC) :
    RoomK (((((W.setCell ⟨g, ks.length * 5, none⟩ (.int .i64 k.C.params)).setCell ⟨g, ks.length * 5 + 1, none⟩ (.int .i64 k.C.vars)).setCell ⟨g, ks.length * 5 + 2, none⟩ k.vs).setCell ⟨g, ks.length * 5 + 3, none⟩ k.vi).setCell ⟨g, ks.length * 5 + 4, none⟩ k.vr) g n (ks ++ [k]) := by
  obtain ⟨cs, h1, h2, h3⟩ := h
  have hk : Keep W g cs 30 := h1
  refine ⟨_, ((((hk.set (ks.length * 5) (.int .i64 k.C.params)).set (ks.length * 5 + 1) (.int .i64 k.C.vars)).set (ks.length * 5 + 2) k.vs).set (ks.length * 5 + 3) k.vi).set (ks.length * 5 + 4) k.vr, by simpa using h2, fun j u hj => ?_⟩
  rw [flatK_snoc] at hj
  have hl := flatK_length ks
  by_cases hlt : j < ks.length * 5
  · rw [List.getElem?_append_left (by omega)] at hj
    have := h3 j u hj
    rw [Array.getElem?_setIfInBounds_ne (by omega), Array.getElem?_setIfInBounds_ne (by omega), Array.getElem?_setIfInBounds_ne (by omega), Array.getElem?_setIfInBounds_ne (by omega), Array.getElem?_setIfInBounds_ne (by omega)]
    exact this
  · rw [List.getElem?_append_right (by omega), hl] at hj
    obtain ⟨i, hi⟩ : ∃ i, j = ks.length * 5 + i := ⟨j - ks.length * 5, by omega⟩
    subst hi
    rw [Nat.add_sub_cancel_left] at hj
    have hi5 : i < 5 := (List.getElem?_eq_some_iff.1 hj).1
    have hsz : cs.size = n * 5 := h2
    rcases (show i = 0 ∨ i = 1 ∨ i = 2 ∨ i = 3 ∨ i = 4 by omega) with rfl | rfl | rfl | rfl | rfl <;> simp [KC.cells] at hj <;> subst hj <;> simp [Array.getElem?_setIfInBounds] <;> omega
theorem RoomK.row {W : World} {g n B : Nat} {ks : List KC} (h : RoomK W g n ks) (hn : ks.length = n) (hB : B ≤ g) (hm : n ≤ maxLen) : W.ownsRow B 30 5 (.slice (some ⟨g, 0, none⟩) n n) ks.length (flatK ks) := by
  obtain ⟨cs, h1, h2, h3⟩ := h
  have hl := flatK_length ks
  subst hn
  refine ⟨by rw [hl], .inr ⟨g, ks.length, cs, rfl, hB, h1, Nat.le_refl _, hm, h2, ?_⟩⟩
  apply List.ext_getElem?
  intro j
  by_cases hj : j < ks.length * 5
  · rw [List.getElem?_take, if_pos hj]
    obtain ⟨u, hu⟩ : ∃ u, (flatK ks)[j]? = some u := ⟨_, List.getElem?_eq_getElem (by omega)⟩
    have := h3 j u hu
    rw [hu]
    simpa using this
  · rw [List.getElem?_eq_none (by simp; omega), List.getElem?_eq_none (by omega)]

end Go.Proofs.YtpmpjiigmjnniaaGreat

/-
  The program's LowerProg: its contract.
-/
namespace Go.Proofs.YtpmpjiigmjnniaaGreat
open Go.RowKit Exs

set_option maxHeartbeats 4000000 in
set_option maxRecDepth 100000 in
theorem lowerProg_any (A : Option Addr) (n c : Nat) (fs : List Fc) (w : World) (hr : ReadsF w w.heap.size A n fs) (hs : SmallP fs) :
    Calls Tryz.prog 15 #[.agg #[.slice A n c]] w fun e w' => ∃ v ks, e = .returned (.tuple #[.agg #[v], .bool (progB fs)]) ∧ OwnCs w' w.heap.size v ks ∧ ks.map KC.C = lpAns fs ∧ Below w.heap.size w w' := by
  have HL := put hr.1
  have hb0 : Below w.heap.size w ((w.alloc (.cells #[.slice A n c] 35)).alloc (.cells #[.slice none 0 0] 44)) := ((Below.refl _ _).alloc (Nat.le_refl _) _).alloc (by simp) _
  have hk0 : Keep ((w.alloc (.cells #[.slice A n c] 35)).alloc (.cells #[.slice none 0 0] 44)) w.heap.size #[.slice A n c] 35 := (Keep.new w #[.slice A n c] 35).alloc _
  have hz0 : Keep ((w.alloc (.cells #[.slice A n c] 35)).alloc (.cells #[.slice none 0 0] 44)) (w.heap.size + 1) #[.slice none 0 0] 44 := by
    have := Keep.new (w.alloc (.cells #[.slice A n c] 35)) #[.slice none 0 0] 44
    rwa [World.size_alloc] at this
  have hs0 : ((w.alloc (.cells #[.slice A n c] 35)).alloc (.cells #[.slice none 0 0] 44)).heap.size = w.heap.size + 1 + 1 := by simp
  have HG := put (fun W (hW : Below w.heap.size w W) => goodProg_any A n c fs W (hr.now hW) hs)
  go_enter Tryz.func15, Tryz.ntmps15
  go_wp2_with fail
  generalize hW : (w.alloc (.cells #[.slice A n c] 35)).alloc (.cells #[.slice none 0 0] 44) = W0 at hb0 hk0 hz0 hs0 ⊢
  clear hW
  refine (HG.out W0 hb0).mono ?_
  rintro e w1 ⟨rfl, hb1⟩
  have b1 : Below w.heap.size w w1 := hb0.trans (hb1.mono hb0.size)
  have k1 := hk0.below hb1
  have z1 := hz0.below hb1
  have hs1 : w.heap.size + 1 + 1 ≤ w1.heap.size := by have := hb1.size; omega
  clear hb0 hk0 hz0 hb1 hs0 HG
  cases hg : progB fs with
  | false =>
    have hA := put (show lpAns fs = [] by simp [lpAns, hg])
    have kF := z1.set 0 (.slice none 0 0)
    simp at kF
    have bF := b1.setCell (p := ⟨w.heap.size + 1, 0, none⟩) (by simp) (.slice none 0 0)
    have u0 := z1.cell 0
    have e0 := z1.frozen 0
    simp only [List.getElem?_toArray, List.getElem?_cons_zero] at u0
    have HF := put hg
    clear hg
    go_wp2
    generalize hWF : w1.setCell ⟨w.heap.size + 1, 0, none⟩ (.slice none 0 0) = WF at kF bF ⊢
    have q0 := kF.cell 0
    simp only [List.getElem?_toArray, List.getElem?_cons_zero] at q0
    exact bodyPost_ret (v := .tuple #[.agg #[.slice none 0 0], .bool false]) (by simp [results, Tryz.results15, go_sem, q0]) rfl ⟨.slice none 0 0, [], by rw [HF.out], OwnCs.nil _ _ bF.size, by rw [hA.out]; rfl, bF⟩
  | true =>
    have hA := put (show lpAns fs = fs.map lowC by simp [lpAns, hg])
    have CF := put (fun W (hW : Below w.heap.size w W) (f : Fc) (hm : f ∈ fs) A1 n1 c1 A2 n2 c2 (hf : IsFc W W.heap.size f A1 n1 A2 n2) => lowFunc_at hg hm (hs.2 f hm) A1 n1 c1 A2 n2 c2 W hf)
    have HR := put (fun W (hW : Below w.heap.size w W) => hr.below hW)
    have hn5 : n ≤ 5 := by
      have h := hg
      unfold progB at h
      simp only [Bool.and_eq_true, decide_eq_true_eq] at h
      have := HL.out
      omega
    have hmk := fun W => run_make_rows (P := Tryz.prog) 42 30 (.agg #[.int .i64 0, .int .i64 0, .slice none 0 0, .slice none 0 0, .slice none 0 0]) 5 88 Tryz.underlying42 Tryz.info30 n (by omega) (by omega) W
    have HT := put hg
    have y0 := k1.cell 0
    simp only [List.getElem?_toArray, List.getElem?_cons_zero] at y0
    have hbA : ∀ o, Below w.heap.size w (w1.alloc o) := fun o => b1.alloc b1.size o
    have hkA : ∀ o, Keep (w1.alloc o) w.heap.size #[.slice A n c] 35 := fun o => k1.alloc o
    have hzA : ∀ o, Keep (w1.alloc o) (w.heap.size + 1) #[.slice none 0 0] 44 := fun o => z1.alloc o
    have yA := fun o => (hkA o).cell 0
    simp only [List.getElem?_toArray, List.getElem?_cons_zero] at yA
    unfold fcV at CF
    clear hr hg
    go_wp2
    go_loopw [20] (fun i wr => ∃ k : Nat, k ≤ n ∧ i = .int .i64 k ∧ (∃ ks, RoomK wr w1.heap.size n ks ∧ Sep wr w.heap.size ks wr.heap.size ∧ ks.map KC.C = (fs.take k).map lowC) ∧ Keep wr w.heap.size #[.slice A n c] 35 ∧ Keep wr (w.heap.size + 1) #[.slice none 0 0] 44 ∧ Below w.heap.size w wr) (fun i _ => n - (intOf i).toNat)
    case atStart => exact ⟨0, Nat.zero_le _, rfl, ⟨[], RoomK.made w1 n _ _ rfl, (hbA _).size, rfl⟩, hkA _, hzA _, hbA _⟩
    case round =>
      clear hmk hbA hkA hzA yA y0 b1 k1 z1
      obtain ⟨k, hk, rfl, ⟨ks, rk, sk, hks⟩, kr, zr, br⟩ := hrel
      have hlen : ks.length = k := by
        have h := congrArg List.length hks
        rw [List.length_map, List.length_map, List.length_take] at h
        have := HL.out
        omega
      by_cases hlt : k < n
      · obtain ⟨b, off, f, B1, m1, d1, B2, m2, d2, hA2, hbb, g0, g1, g2, g3, r1, r2, hx⟩ := (HR.out wr br).at_ hlt
        subst hA2
        have nbA := (Below.refl wr.heap.size wr).alloc (Nat.le_refl _) (.cells #[.int .i64 f.params, .int .i64 f.vars, .slice B1 m1 d1, .slice B2 m2 d2] 59)
        have HCALL := put (CF.out _ (br.trans (nbA.mono br.size)) f (List.mem_of_getElem? hx.out) B1 m1 d1 B2 m2 d2 (((IsFc.mk r1 r2).more br.size).now nbA))
        have HM := put (show (fs.take (k + 1)).map lowC = (fs.take k).map lowC ++ [lowC f] by rw [takeA_more hx.out]; simp)
        have hsA : (wr.alloc (.cells #[.int .i64 f.params, .int .i64 f.vars, .slice B1 m1 d1, .slice B2 m2 d2] 59)).heap.size = wr.heap.size + 1 := by simp
        clear hx r1 r2
        go_wp2_with fail
        generalize wr.alloc (.cells #[.int .i64 f.params, .int .i64 f.vars, .slice B1 m1 d1, .slice B2 m2 d2] 59) = WA at nbA HCALL hsA ⊢
        refine HCALL.out.mono ?_
        rintro e w3 ⟨vs, vi, vr, rfl, own, hb3⟩
        obtain ⟨P1, p1, P2, p2, P3, p3, rfl, rfl, rfl⟩ := own_is own
        have nb := (Below.refl w3.heap.size w3).alloc (Nat.le_refl _) (.cells #[.int .i64 (lowC f).params, .int .i64 (lowC f).vars, .slice P1 (lowC f).sites.length p1, .slice P2 (lowC f).ins.length p2, .slice P3 (lowC f).rows.length p3] 30)
        have nb2 : Below wr.heap.size wr _ := nbA.trans ((hb3.mono nbA.size).trans (nb.mono (Nat.le_trans nbA.size hb3.size)))
        have own3 := own.below nb
        have rk3 := rk.below nb2
        have kr3 := kr.below nb2
        have zr3 := zr.below nb2
        have br3 := br.trans (nb2.mono br.size)
        have sep3 := Sep.same (e := 1000000) (.below nb2) (by decide) (by decide) (by decide) sk
        have sep4 := (sep3.snoc (k := ⟨lowC f, .slice P1 (lowC f).sites.length p1, .slice P2 (lowC f).ins.length p2, .slice P3 (lowC f).rows.length p3⟩) (hi' := _) (own3.under (by omega)) nb2.size (Nat.le_refl _))
        obtain ⟨c0, hc0⟩ := rk3.at_ (k * 5) (by omega)
        obtain ⟨c1, hc1⟩ := rk3.at_ (k * 5 + 1) (by omega)
        obtain ⟨c2, hc2⟩ := rk3.at_ (k * 5 + 2) (by omega)
        obtain ⟨c3, hc3⟩ := rk3.at_ (k * 5 + 3) (by omega)
        obtain ⟨c4, hc4⟩ := rk3.at_ (k * 5 + 4) (by omega)
        have hf0 := rk3.frozen (k * 5)
        have hf1 := rk3.frozen (k * 5 + 1)
        have hf2 := rk3.frozen (k * 5 + 2)
        have hf3 := rk3.frozen (k * 5 + 3)
        have hf4 := rk3.frozen (k * 5 + 4)
        have hpush := rk3.push (by omega) ⟨lowC f, .slice P1 (lowC f).sites.length p1, .slice P2 (lowC f).ins.length p2, .slice P3 (lowC f).rows.length p3⟩
        rw [hlen] at hpush
        obtain ⟨cs0, hcs0⟩ := rk3.keep
        have q1 := hcs0.set (k * 5) (.int .i64 (lowC f).params)
        have q2 := q1.set (k * 5 + 1) (.int .i64 (lowC f).vars)
        have q3 := q2.set (k * 5 + 2) (.slice P1 (lowC f).sites.length p1)
        have q4 := q3.set (k * 5 + 3) (.slice P2 (lowC f).ins.length p2)
        have sm := ((((Same.set hcs0 (k * 5) (.int .i64 (lowC f).params)).trans (Same.set q1 (k * 5 + 1) (.int .i64 (lowC f).vars))).trans (Same.set q2 (k * 5 + 2) (.slice P1 (lowC f).sites.length p1))).trans (Same.set q3 (k * 5 + 3) (.slice P2 (lowC f).ins.length p2))).trans (Same.set q4 (k * 5 + 4) (.slice P3 (lowC f).rows.length p3))
        have kr6 := put (sm.keep kr3 (by decide))
        have zr6 := put (sm.keep zr3 (by decide))
        have hw1 : w.heap.size ≤ w1.heap.size := by omega
        have br6 := put (((((br3.setCell (p := ⟨w1.heap.size, k * 5, none⟩) hw1 (.int .i64 (lowC f).params)).setCell (p := ⟨w1.heap.size, k * 5 + 1, none⟩) hw1 (.int .i64 (lowC f).vars)).setCell (p := ⟨w1.heap.size, k * 5 + 2, none⟩) hw1 (.slice P1 (lowC f).sites.length p1)).setCell (p := ⟨w1.heap.size, k * 5 + 3, none⟩) hw1 (.slice P2 (lowC f).ins.length p2)).setCell (p := ⟨w1.heap.size, k * 5 + 4, none⟩) hw1 (.slice P3 (lowC f).rows.length p3))
        have sep6 := put (Sep.same sm (by decide) (by decide) (by decide) sep4)
        have HP := put hpush
        clear hpush sm q1 q2 q3 q4 hcs0 sep4 sep3 rk3 kr3 zr3 br3 own3 own nb nb2 nbA rk sk kr zr br hb3 g0 g1 g2 g3
        go_wp2
        go_roundw
        case rel => exact ⟨k + 1, by omega, by go_num, ⟨_, HP.out, by have h := sep6.out; exact h.more (by simp [World.setCell]), by rw [HM.out, List.map_append, hks]; rfl⟩, kr6.out, zr6.out, br6.out⟩
        case measure => simp [intOf]; omega
      · obtain rfl : k = n := by omega
        have hfin : ks.map KC.C = lpAns fs := by rw [hA.out, hks, List.take_of_length_le (by have := HL.out; omega)]
        have u0 := zr.cell 0
        have e0 := zr.frozen 0
        simp only [List.getElem?_toArray, List.getElem?_cons_zero] at u0
        have kF := zr.set 0 (.slice (some ⟨w1.heap.size, 0, none⟩) k k)
        simp at kF
        have s6 : Same 44 wr (wr.setCell ⟨w.heap.size + 1, 0, none⟩ (.slice (some ⟨w1.heap.size, 0, none⟩) k k)) := .set zr 0 _
        have hsz : (wr.setCell ⟨w.heap.size + 1, 0, none⟩ (.slice (some ⟨w1.heap.size, 0, none⟩) k k)).heap.size = wr.heap.size := by simp [World.setCell]
        have hrow := rk.row (B := w.heap.size) hlen (by omega) (by unfold maxLen; omega)
        have ok6 : OwnCs (wr.setCell ⟨w.heap.size + 1, 0, none⟩ (.slice (some ⟨w1.heap.size, 0, none⟩) k k)) w.heap.size (.slice (some ⟨w1.heap.size, 0, none⟩) k k) ks := ⟨s6.row hrow (by decide), by rw [hsz]; exact Sep.same s6 (by decide) (by decide) (by decide) sk⟩
        have bF := br.setCell (p := ⟨w.heap.size + 1, 0, none⟩) (by simp) (.slice (some ⟨w1.heap.size, 0, none⟩) k k)
        clear s6 hsz rk sk hks hlt hrow
        go_wp2
        generalize wr.setCell ⟨w.heap.size + 1, 0, none⟩ (.slice (some ⟨w1.heap.size, 0, none⟩) k k) = WF at kF ok6 bF ⊢
        have q0 := kF.cell 0
        simp only [List.getElem?_toArray, List.getElem?_cons_zero] at q0
        exact bodyPost_ret (v := .tuple #[.agg #[.slice (some ⟨w1.heap.size, 0, none⟩) k k], .bool true]) (by simp [results, Tryz.results15, go_sem, q0]) rfl ⟨_, ks, by rw [HT.out], ok6, hfin, bF⟩

end Go.Proofs.YtpmpjiigmjnniaaGreat

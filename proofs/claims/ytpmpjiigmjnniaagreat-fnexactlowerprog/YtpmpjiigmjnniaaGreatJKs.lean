/-
  Texts joined: Ks Lps.
-/
import Derived.Test.YtpmpjiigmjnniaaGreatJMke
/-
  Rows of codes of a call's own, whose codes' rows lie apart: in memory, appended, kept.
-/
namespace Go.Proofs.YtpmpjiigmjnniaaGreat
open Go.RowKit Exs

/-- A code with the values of its three rows. -/
structure KC where
  C : Cd
  vs : Value
  vi : Value
  vr : Value
def KC.cells (k : KC) : List Value := [.int .i64 k.C.params, .int .i64 k.C.vars, k.vs, k.vi, k.vr]
def flatK (ks : List KC) : List Value := ks.flatMap KC.cells
theorem flatK_length : ∀ ks : List KC, (flatK ks).length = ks.length * 5
  | [] => rfl
  | k :: r => by
    have h : flatK (k :: r) = k.cells ++ flatK r := rfl
    rw [h, List.length_append, flatK_length r]
    simp [KC.cells]
    omega
theorem flatK_snoc (ks : List KC) (k : KC) : flatK (ks ++ [k]) = flatK ks ++ k.cells := by simp [flatK]
/-- Codes whose rows lie one behind the other, from a block on and below a block. -/
def Sep (W : World) : Nat → List KC → Nat → Prop
  | lo, [], hi => lo ≤ hi
  | lo, k :: r, hi => ∃ m, lo ≤ m ∧ OwnCd W lo k.C k.vs k.vi k.vr ∧ (∀ b, k.vs.ownBlock = some b ∨ k.vi.ownBlock = some b ∨ k.vr.ownBlock = some b → b < m) ∧ Sep W m r hi
theorem Sep.le {W : World} : ∀ {lo hi : Nat} {ks : List KC}, Sep W lo ks hi → lo ≤ hi
  | _, _, [], h => h
  | _, _, _ :: _, ⟨_, h1, _, _, h4⟩ => Nat.le_trans h1 h4.le
theorem own_blocks {W : World} {B : Nat} {C : Cd} {vs vi vr : Value} (h : OwnCd W B C vs vi vr) : ∀ b, vs.ownBlock = some b ∨ vi.ownBlock = some b ∨ vr.ownBlock = some b → B ≤ b ∧ b < W.heap.size := fun b hb => by
  rcases hb with hb | hb | hb
  · exact World.ownsRow.lt h.sites b hb
  · exact World.ownsRow.lt h.ins b hb
  · exact World.ownsRow.lt h.rows b hb
theorem row_blocks {W W' : World} {B e size n : Nat} {v : Value} {xs : List Value} (h : W.ownsRow B e size v n xs) (hk : ∀ b, v.ownBlock = some b → W'.heap[b]? = W.heap[b]?) : W'.ownsRow B e size v n xs := by
  refine ⟨h.1, ?_⟩
  rcases h.2 with h0 | ⟨g, cap, cur, hv, hB, hg, r⟩
  · exact .inl h0
  · exact .inr ⟨g, cap, cur, hv, hB, (hk g (by rw [hv]; rfl)).trans hg, r⟩
theorem own_kept {W W' : World} {B : Nat} {C : Cd} {vs vi vr : Value} (h : OwnCd W B C vs vi vr) (hk : ∀ b, vs.ownBlock = some b ∨ vi.ownBlock = some b ∨ vr.ownBlock = some b → W'.heap[b]? = W.heap[b]?) : OwnCd W' B C vs vi vr :=
  ⟨row_blocks h.sites fun b hb => hk b (.inl hb), row_blocks h.ins fun b hb => hk b (.inr (.inl hb)), row_blocks h.rows fun b hb => hk b (.inr (.inr hb))⟩
theorem own_same {W W' : World} {e B : Nat} {C : Cd} {vs vi vr : Value} (h : OwnCd W B C vs vi vr) (hs : Same e W W') (h3 : 3 ≠ e) (h83 : 83 ≠ e) (h85 : 85 ≠ e) : OwnCd W' B C vs vi vr := ⟨hs.row h.sites h3, hs.row h.ins h83, hs.row h.rows h85⟩
theorem Sep.same {W W' : World} {e : Nat} (hs : Same e W W') (h3 : 3 ≠ e) (h83 : 83 ≠ e) (h85 : 85 ≠ e) : ∀ {ks : List KC} {lo hi : Nat}, Sep W lo ks hi → Sep W' lo ks hi
  | [], _, _, h => h
  | _ :: _, _, _, ⟨m, h1, h2, h4, h5⟩ => ⟨m, h1, own_same h2 hs h3 h83 h85, h4, Sep.same hs h3 h83 h85 h5⟩
theorem Sep.more {W : World} : ∀ {ks : List KC} {lo hi hi' : Nat}, Sep W lo ks hi → hi ≤ hi' → Sep W lo ks hi'
  | [], _, _, _, h, hh => Nat.le_trans h hh
  | _ :: _, _, _, _, ⟨m, h1, h2, h4, h5⟩, hh => ⟨m, h1, h2, h4, Sep.more h5 hh⟩
theorem Sep.snoc {W : World} {k : KC} {hi' : Nat} : ∀ {ks : List KC} {lo hi : Nat}, Sep W lo ks hi → OwnCd W hi k.C k.vs k.vi k.vr → hi ≤ hi' → W.heap.size ≤ hi' → Sep W lo (ks ++ [k]) hi'
  | [], lo, hi, h, ho, hh, hw => ⟨hi', Nat.le_trans h hh, ho.under h, fun b hb => by have := (own_blocks ho b hb).2; omega, Nat.le_refl _⟩
  | _ :: _, _, _, ⟨m, h1, h2, h4, h5⟩, ho, hh, hw => ⟨m, h1, h2, h4, Sep.snoc h5 ho hh hw⟩
/-- A row of codes of a call's own, what its codes lead to with it. -/
structure OwnCs (W : World) (B : Nat) (v : Value) (ks : List KC) : Prop where
  row : W.ownsRow B 30 5 v ks.length (flatK ks)
  sep : Sep W B ks W.heap.size
theorem OwnCs.nil (W : World) (B : Nat) (hB : B ≤ W.heap.size) : OwnCs W B (.slice none 0 0) [] := ⟨World.ownsRow_nil _ _ _ _, hB⟩
theorem OwnCs.below {W W' : World} {B : Nat} {v : Value} {ks : List KC} (h : OwnCs W B v ks) (hb : Below W.heap.size W W') : OwnCs W' B v ks :=
  ⟨ownsRow_below h.row hb, (Sep.same (e := 1000000) (.below hb) (by decide) (by decide) (by decide) h.sep).more hb.size⟩

/-- One code is appended. -/
theorem run_append_code (w : World) (B : Nat) (v : Value) (ks : List KC) (k : KC) (h : OwnCs w B v ks) (hB : B ≤ w.heap.size) (g : Nat) (h1 : ∀ u ∈ k.cells, u.oneCell' = true) (hc : ∀ j u, k.cells[j]? = some u → w.cell? ⟨g, j, none⟩ = some u) (hlen : ks.length ≤ 1000000) (ty : TypeId) :
    ∃ v' w', (Builtin.append_ #[42, 42] ty #[v, .slice (some ⟨g, 0, none⟩) 1 1]).run Tryz.prog w = .ok v' w' ∧ w'.ownsRow B 30 5 v' (ks ++ [k]).length (flatK (ks ++ [k])) ∧ w.grownBy w' v.ownBlock := by
  obtain ⟨i0, hi, hz0, hz1, hz2⟩ := info_parts Tryz.info30
  obtain ⟨v', w', hr, hown, hgr, _⟩ := run_append_own (P := Tryz.prog) w B 42 ty 30 i0 (.agg #[.int .i64 0, .int .i64 0, .slice none 0 0, .slice none 0 0, .slice none 0 0]) 5 88 Tryz.underlying42 hi hz0 hz1 hz2 rfl (by decide) v ks.length _ h.row ⟨g, 0, none⟩ 1 1 k.cells rfl (fun j u hj => by rw [show (⟨g, 0, none⟩ : Addr).add j = ⟨g, j, none⟩ by unfold Addr.add; split <;> simp_all]; exact hc j u hj) h1 (by unfold maxLen; omega) (by omega) hB
  exact ⟨v', w', hr, by rw [flatK_snoc, List.length_append]; exact hown, hgr⟩
theorem wpList_append_code {w : World} {ops : Array Oper} {rest : List Oper} {o : Oper} {a : Act} {Q : Exit → Act → World → Prop} (hgd : o.guard = none) (s x : Operand) (ho : o.op = .call { callee := .builtin .append, args := #[s, x], argTypes := #[42, 42] }) (B : Nat) (v : Value) (ks : List KC) (k : KC) (hs : a.eval s = v) (hB : B ≤ w.heap.size) (hown : OwnCs w B v ks)
    (g : Nat) (hx : a.eval x = .slice (some ⟨g, 0, none⟩) 1 1) (h1 : ∀ u ∈ k.cells, u.oneCell' = true) (hc : ∀ j u, k.cells[j]? = some u → w.cell? ⟨g, j, none⟩ = some u) (hlen : ks.length ≤ 1000000)
    (h : ∀ v' w', w'.ownsRow B 30 5 v' (ks ++ [k]).length (flatK (ks ++ [k])) → w.grownBy w' v.ownBlock → wpList Tryz.prog ops Q rest (a.put o.dst v') w') : wpList Tryz.prog ops Q (o :: rest) a w := by
  obtain ⟨v', w', hr, h2, h3⟩ := run_append_code w B v ks k hown hB g h1 hc hlen o.type
  refine wpList_plain hgd fun K hK => ?_
  unfold Oper.wp execOp
  simp only [ho, resolve, invoke, builtin, Sem.run_bind, Sem.run_pure, Result.andThen_ok, List.map_toArray, List.map_cons, List.map_nil, hs, hx, hr]
  exact hK _ _ (h v' w' h2 h3)

end Go.Proofs.YtpmpjiigmjnniaaGreat

/-
  The reference's LowerProg.
-/
namespace Go.Proofs.YtpmpjiigmjnniaaGreat
open Go.RowKit Exs

/-- The codes that LowerProg answers. -/
def lpAns (fs : List Fc) : List Cd := if progB fs then fs.map lowC else []

set_option maxHeartbeats 2000000 in
set_option maxRecDepth 100000 in
theorem specLowerProg_any (A : Option Addr) (n c : Nat) (fs : List Fc) (w : World) (hr : ReadsF w w.heap.size A n fs) (hs : SmallP fs) :
    Calls Tryz.prog 14 #[.agg #[.slice A n c]] w fun e w' => ∃ v ks, e = .returned (.tuple #[.agg #[v], .bool (progB fs)]) ∧ OwnCs w' w.heap.size v ks ∧ ks.map KC.C = lpAns fs ∧ Below w.heap.size w w' := by
  have HL := put hr.1
  have hb0 : Below w.heap.size w ((w.alloc (.cells #[.slice A n c] 35)).alloc (.cells #[.slice none 0 0] 44)) := ((Below.refl _ _).alloc (Nat.le_refl _) _).alloc (by simp) _
  have hk0 : Keep ((w.alloc (.cells #[.slice A n c] 35)).alloc (.cells #[.slice none 0 0] 44)) w.heap.size #[.slice A n c] 35 := (Keep.new w #[.slice A n c] 35).alloc _
  have hz0 : Keep ((w.alloc (.cells #[.slice A n c] 35)).alloc (.cells #[.slice none 0 0] 44)) (w.heap.size + 1) #[.slice none 0 0] 44 := by
    have := Keep.new (w.alloc (.cells #[.slice A n c] 35)) #[.slice none 0 0] 44
    rwa [World.size_alloc] at this
  have hs0 : ((w.alloc (.cells #[.slice A n c] 35)).alloc (.cells #[.slice none 0 0] 44)).heap.size = w.heap.size + 1 + 1 := by simp
  have HG := put (fun W (hW : Below w.heap.size w W) => specGoodProg_any A n c fs W (hr.now hW) hs)
  go_enter Tryz.func14, Tryz.ntmps14
  go_wp2_with fail
  generalize hW : (w.alloc (.cells #[.slice A n c] 35)).alloc (.cells #[.slice none 0 0] 44) = W0 at hb0 hk0 hz0 hs0 ⊢
  clear hW
  refine (HG.out W0 hb0).mono ?_
  rintro e w1 ⟨rfl, hb1⟩
  rw [progS_eq]
  have b1 : Below w.heap.size w w1 := hb0.trans (hb1.mono hb0.size)
  have k1 := hk0.below hb1
  have z1 := hz0.below hb1
  have hs1 : w.heap.size + 1 + 1 ≤ w1.heap.size := by have := hb1.size; omega
  clear hb0 hk0 hz0 hb1 hs0 HG
  cases hg : progB fs with
  | false =>
    have hA := put (show lpAns fs = [] by simp [lpAns, hg])
    have kF := z1.set 0 (.slice none 0 0)
    simp at kF
    have bF := b1.setCell (p := ⟨w.heap.size + 1, 0, none⟩) (by simp) (.slice none 0 0)
    have u0 := z1.cell 0
    have e0 := z1.frozen 0
    simp only [List.getElem?_toArray, List.getElem?_cons_zero] at u0
    have HF := put hg
    clear hg
    go_wp2
    generalize hWF : w1.setCell ⟨w.heap.size + 1, 0, none⟩ (.slice none 0 0) = WF at kF bF ⊢
    have q0 := kF.cell 0
    simp only [List.getElem?_toArray, List.getElem?_cons_zero] at q0
    exact bodyPost_ret (v := .tuple #[.agg #[.slice none 0 0], .bool false]) (by simp [results, Tryz.results14, go_sem, q0]) rfl ⟨.slice none 0 0, [], by rw [HF.out], OwnCs.nil _ _ bF.size, by rw [hA.out]; rfl, bF⟩
  | true =>
    have hA := put (show lpAns fs = fs.map lowC by simp [lpAns, hg])
    have CF := put (fun W (hW : Below w.heap.size w W) q f (hq : fs[q]? = some f) => (show FnOk f ∧ (lowC f).ins.length ≤ 300 from ⟨(prog_fn hg (List.mem_of_getElem? hq) (hs.2 f (List.mem_of_getElem? hq))).1, prog_len hg (List.mem_of_getElem? hq) (hs.2 f (List.mem_of_getElem? hq))⟩) |> fun h => And.intro h.2 (l6Func_any A n c fs q f W (hr.now hW) hq h.1))
    have hn5 : n ≤ 5 := by
      have h := hg
      unfold progB at h
      simp only [Bool.and_eq_true, decide_eq_true_eq] at h
      have := HL.out
      omega
    have y0 := k1.cell 0
    simp at y0
    have b2 := b1.alloc b1.size (.cells #[.slice none 0 0] 44)
    have k2 := k1.alloc (.cells #[.slice none 0 0] 44)
    have z2 := z1.alloc (.cells #[.slice none 0 0] 44)
    have t2 := Keep.new w1 #[.slice none 0 0] 44
    have hs2 : (w1.alloc (.cells #[.slice none 0 0] 44)).heap.size = w1.heap.size + 1 := by simp
    have HT := put hg
    have y1 := k2.cell 0
    simp only [List.getElem?_toArray, List.getElem?_cons_zero] at y1
    clear hr hg
    go_wp2
    generalize hW2 : w1.alloc (.cells #[.slice none 0 0] 44) = W2 at b2 k2 z2 t2 hs2 ⊢
    clear hW2 y0 y1 b1 k1 z1
    go_loopw [14] (fun i wr => ∃ k : Nat, k ≤ n ∧ i = .int .i64 k ∧ (∃ v ks, Keep wr w1.heap.size #[v] 44 ∧ OwnCs wr w.heap.size v ks ∧ ks.map KC.C = (fs.take k).map lowC) ∧ Keep wr w.heap.size #[.slice A n c] 35 ∧ Keep wr (w.heap.size + 1) #[.slice none 0 0] 44 ∧ Below w.heap.size w wr) (fun i _ => n - (intOf i).toNat)
    case atStart => exact ⟨0, Nat.zero_le _, rfl, ⟨_, [], t2, OwnCs.nil _ _ b2.size, rfl⟩, k2, z2, b2⟩
    case round =>
      clear t2 k2 z2 b2
      obtain ⟨k, hk, rfl, ⟨v, ks, tk, ok, hks⟩, kr, zr, br⟩ := hrel
      have hlen : ks.length = k := by
        have h := congrArg List.length hks
        rw [List.length_map, List.length_map, List.length_take] at h
        have := HL.out
        omega
      obtain ⟨Av, nv, cv, rfl⟩ := slice_of ok.row
      by_cases hlt : k < n
      · obtain ⟨f, hf⟩ : ∃ f, fs[k]? = some f := ⟨_, List.getElem?_eq_getElem (by have := HL.out; omega)⟩
        obtain ⟨h300, hcall⟩ := CF.out wr br k f hf
        have HM := put (show (fs.take (k + 1)).map lowC = (fs.take k).map lowC ++ [lowC f] by rw [takeA_more hf]; simp)
        have HCALL := put hcall
        have H300 := put h300
        have y0 := kr.cell 0
        simp at y0
        clear hcall h300 hf
        go_wp2_with fail
        refine HCALL.out.mono ?_
        rintro e w3 ⟨vs, vi, vr, rfl, own, hb3⟩
        obtain ⟨P1, p1, P2, p2, P3, p3, rfl, rfl, rfl⟩ := own_is own
        have hi3 : (lowC f).ins.length ≤ 300 := H300.out
        have nb := ((Below.refl w3.heap.size w3).alloc (Nat.le_refl _) (.cells #[.int .i64 (lowC f).params, .int .i64 (lowC f).vars, .slice P1 (lowC f).sites.length p1, .slice P2 (lowC f).ins.length p2, .slice P3 (lowC f).rows.length p3] 30)).alloc (by simp) (.cells #[.int .i64 (lowC f).params, .int .i64 (lowC f).vars, .slice P1 (lowC f).sites.length p1, .slice P2 (lowC f).ins.length p2, .slice P3 (lowC f).rows.length p3] 30)
        have nb2 : Below wr.heap.size wr _ := hb3.trans (nb.mono hb3.size)
        have nbs := put (show wr.heap.size ≤ w3.heap.size from hb3.size)
        have ok3 := ok.below nb2
        have own3 := own.below nb
        have tk3 := tk.below nb2
        have kr3 := kr.below nb2
        have zr3 := zr.below nb2
        have br3 := br.trans (nb2.mono br.size)
        have sep3 := Sep.same (e := 1000000) (.below nb2) (by decide) (by decide) (by decide) ok.sep
        have sepN := put (fun hi (h1 : wr.heap.size ≤ hi) (h2 : _ ≤ hi) => sep3.snoc (k := ⟨lowC f, .slice P1 (lowC f).sites.length p1, .slice P2 (lowC f).ins.length p2, .slice P3 (lowC f).rows.length p3⟩) (hi' := hi) (own3.under (Nat.le_refl _)) h1 h2)
        have tk0 := (tk.below hb3).cell 0
        have tk1 := tk3.cell 0
        simp only [List.getElem?_toArray, List.getElem?_cons_zero] at tk0 tk1
        have kl := Keep.new (w3.alloc (.cells #[.int .i64 (lowC f).params, .int .i64 (lowC f).vars, .slice P1 (lowC f).sites.length p1, .slice P2 (lowC f).ins.length p2, .slice P3 (lowC f).rows.length p3] 30)) #[.int .i64 (lowC f).params, .int .i64 (lowC f).vars, .slice P1 (lowC f).sites.length p1, .slice P2 (lowC f).ins.length p2, .slice P3 (lowC f).rows.length p3] 30
        rw [World.size_alloc] at kl
        have hwr : w1.heap.size < w3.heap.size := by have := tk.lt; have := hb3.size; omega
        have hl6 : ks.length ≤ 1000000 := by omega
        have hw6 : w.heap.size ≤ w3.heap.size + 1 + 1 := by omega
        clear nb nb2 tk kr zr br ok own sep3 own3 y0 hb3
        go_wp2_with (
          at_builtin
          refine wpList_append_code rfl _ _ rfl w.heap.size _ ks ⟨lowC f, .slice P1 (lowC f).sites.length p1, .slice P2 (lowC f).ins.length p2, .slice P3 (lowC f).rows.length p3⟩ rfl (by simpa using hw6) ok3 (w3.heap.size + 1) rfl (by intro u hu; simp [KC.cells] at hu; rcases hu with rfl | rfl | rfl | rfl | rfl <;> rfl) (fun j u hj => by rw [kl.cell j]; simpa [KC.cells] using hj) hl6 ?_
          intro v5 w5 hrow hg5
          obtain ⟨A6, n6, c6, rfl⟩ := slice_of hrow
          have tk5 := tk3.apart hg5 ok3.row (by decide)
          have x5 := tk5.cell 0
          have f5 := tk5.frozen 0
          simp only [List.getElem?_toArray, List.getElem?_cons_zero] at x5)
        have s5 := Same.grown hg5 ok3.row
        have s6 : Same 44 w5 (w5.setCell ⟨w1.heap.size, 0, none⟩ (.slice A6 n6 c6)) := .set tk5 0 _
        have hsz : (w5.setCell ⟨w1.heap.size, 0, none⟩ (.slice A6 n6 c6)).heap.size = w5.heap.size := by simp [World.setCell]
        have hg5s := hg5.size
        simp only [World.size_alloc] at hg5s
        have row6 := s6.row hrow (by decide)
        have sep5 := sepN.out w5.heap.size (by have := nbs.out; omega) (by simpa using hg5s)
        have sep6 := Sep.same s6 (by decide) (by decide) (by decide) (Sep.same s5 (by decide) (by decide) (by decide) sep5)
        have kr6 := s6.keep (s5.keep kr3 (by decide)) (by decide)
        have zr6 := (s5.keep zr3 (by decide)).other (g' := w1.heap.size) (by omega) 0 (.slice A6 n6 c6)
        have tk6 := tk5.set 0 (.slice A6 n6 c6)
        have br5 := br3.grown hg5 (by simp; omega) (fun j hj => (World.ownsRow.lt ok3.row j hj).1)
        have br6 := br5.setCell (p := ⟨w1.heap.size, 0, none⟩) (by simp; omega) (.slice A6 n6 c6)
        go_roundw
        case rel => exact ⟨k + 1, by omega, by go_num, ⟨_, _, by simpa using tk6, ⟨row6, by rw [hsz]; exact sep6⟩, by rw [HM.out, List.map_append, hks]; rfl⟩, kr6, zr6, br6⟩
        case measure => simp [intOf]; omega
      · obtain rfl : k = n := by omega
        have hfin : ks.map KC.C = lpAns fs := by rw [hA.out, hks, List.take_of_length_le (by have := HL.out; omega)]
        have x4 := tk.cell 0
        have u0 := zr.cell 0
        have e0 := zr.frozen 0
        simp only [List.getElem?_toArray, List.getElem?_cons_zero] at x4 u0
        have kF := zr.set 0 (.slice Av nv cv)
        simp at kF
        have s6 : Same 44 wr (wr.setCell ⟨w.heap.size + 1, 0, none⟩ (.slice Av nv cv)) := .set zr 0 _
        have hsz : (wr.setCell ⟨w.heap.size + 1, 0, none⟩ (.slice Av nv cv)).heap.size = wr.heap.size := by simp [World.setCell]
        have ok6 : OwnCs (wr.setCell ⟨w.heap.size + 1, 0, none⟩ (.slice Av nv cv)) w.heap.size (.slice Av nv cv) ks := ⟨s6.row ok.row (by decide), by rw [hsz]; exact Sep.same s6 (by decide) (by decide) (by decide) ok.sep⟩
        have bF := br.setCell (p := ⟨w.heap.size + 1, 0, none⟩) (by simp) (.slice Av nv cv)
        clear s6 hsz ok tk hks hlt
        go_wp2
        generalize wr.setCell ⟨w.heap.size + 1, 0, none⟩ (.slice Av nv cv) = WF at kF ok6 bF ⊢
        have q0 := kF.cell 0
        simp only [List.getElem?_toArray, List.getElem?_cons_zero] at q0
        exact bodyPost_ret (v := .tuple #[.agg #[.slice Av nv cv], .bool true]) (by simp [results, Tryz.results14, go_sem, q0]) rfl ⟨.slice Av nv cv, ks, by rw [HT.out], ok6, hfin, bF⟩

end Go.Proofs.YtpmpjiigmjnniaaGreat

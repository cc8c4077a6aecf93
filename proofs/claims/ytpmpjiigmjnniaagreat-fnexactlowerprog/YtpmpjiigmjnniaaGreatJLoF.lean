/-
  The program's lowFunc.
-/
import Derived.Test.YtpmpjiigmjnniaaGreatJLowZ
import Derived.Deep.RegionLaw
namespace Go.Proofs.YtpmpjiigmjnniaaGreat
open Go.RowKit Go.Shelf Exs
attribute [local go_sem] Oper.semAt_some

theorem row_cells {w : World} {B e size n : Nat} {v : Value} {xs : List Value} (h : w.ownsRow B e size v n xs) : ∀ (j : Nat) (o : Obj), v.ownBlock = some j → w.heap[j]? = some o → o.isCells = true := fun j o hj ho => by
  rcases h.2 with ⟨rfl, _⟩ | ⟨g, cap, cur, rfl, _, hg, _⟩
  · cases hj
  · have e : g = j := by simpa [Value.ownBlock] using hj
    subst e
    rw [hg] at ho
    injection ho with ho
    subst ho
    rfl
theorem wpListIn_ins {F : Fence} {nF : Nat} {w : World} {ops : Array Oper} {rest : List Oper} {o : Oper} {a : Act} {Q : Exit → Act → World → Prop} (hgd : o.guard = none) (s x : Operand)
    (ho : o.op = .call { callee := .builtin .append, args := #[s, x], argTypes := #[27, 27] }) (B : Nat) (v : Value) (ts : List Token) (hs : a.eval s = v) (hB : B ≤ w.heap.size) (hown : Inss w B v ts)
    (g : Nat) (p q : Int) (hx : a.eval x = .slice (some ⟨g, 0, none⟩) 1 1) (hc : w.cell? ⟨g, 0, none⟩ = some (.int .i64 p)) (hc1 : w.cell? ⟨g, 1, none⟩ = some (.int .i64 q)) (hlen : ts.length ≤ 1000000)
    (h : ∀ v' w', Inss w' B v' (ts ++ [(p, q)]) → w.grownBy w' v.ownBlock → wpListIn F nF Tryz.prog ops Q rest (a.put o.dst v') w') : wpListIn F nF Tryz.prog ops Q (o :: rest) a w := by
  obtain ⟨i0, hi, hz0, hz1, hz2⟩ := info_parts Tryz.info83
  refine wpListIn_append_own_at w hgd s x 27 ho B 83 i0 (.agg #[.int .i64 0, .int .i64 0]) 2 16 Tryz.underlying27 hi hz0 hz1 hz2 rfl (by decide) v ts.length _ hs hown ⟨g, 0, none⟩ 1 1 [.int .i64 p, .int .i64 q] hx rfl ?_ ?_ (by unfold maxLen; omega) (by omega) hB ?_
  · intro j u hj
    match j, hj with
    | 0, hj => simp at hj; subst hj; simpa [Addr.add] using hc
    | 1, hj => simp at hj; subst hj; simpa [Addr.add] using hc1
  · intro u hu; simp at hu; rcases hu with rfl | rfl <;> rfl
  · intro v' w' h2 h3 _ _
    refine h v' w' ?_ h3
    unfold Inss
    have e : flat (ts ++ [(p, q)]) = flat ts ++ [p, q] := by simp [flat]
    rw [e]
    simpa using h2
theorem wpListIn_row {F : Fence} {nF : Nat} {w : World} {ops : Array Oper} {rest : List Oper} {o : Oper} {a : Act} {Q : Exit → Act → World → Prop} (hgd : o.guard = none) (s x : Operand)
    (ho : o.op = .call { callee := .builtin .append, args := #[s, x], argTypes := #[28, 28] }) (B : Nat) (v : Value) (rs : List Row3) (hs : a.eval s = v) (hB : B ≤ w.heap.size) (hown : Rws w B v rs)
    (g : Nat) (p y z : Int) (hx : a.eval x = .slice (some ⟨g, 0, none⟩) 1 1) (hc : w.cell? ⟨g, 0, none⟩ = some (.int .i64 p)) (hc1 : w.cell? ⟨g, 1, none⟩ = some (.int .i64 y)) (hc2 : w.cell? ⟨g, 2, none⟩ = some (.int .i64 z)) (hlen : rs.length ≤ 1000000)
    (h : ∀ v' w', Rws w' B v' (rs ++ [(p, y, z)]) → w.grownBy w' v.ownBlock → wpListIn F nF Tryz.prog ops Q rest (a.put o.dst v') w') : wpListIn F nF Tryz.prog ops Q (o :: rest) a w := by
  obtain ⟨i0, hi, hz0, hz1, hz2⟩ := info_parts Tryz.info85
  refine wpListIn_append_own_at w hgd s x 28 ho B 85 i0 (.agg #[.int .i64 0, .int .i64 0, .int .i64 0]) 3 24 Tryz.underlying28 hi hz0 hz1 hz2 rfl (by decide) v rs.length _ hs hown ⟨g, 0, none⟩ 1 1 [.int .i64 p, .int .i64 y, .int .i64 z] hx rfl ?_ ?_ (by unfold maxLen; omega) (by omega) hB ?_
  · intro j u hj
    match j, hj with
    | 0, hj => simp at hj; subst hj; simpa [Addr.add] using hc
    | 1, hj => simp at hj; subst hj; simpa [Addr.add] using hc1
    | 2, hj => simp at hj; subst hj; simpa [Addr.add] using hc2
  · intro u hu; simp at hu; rcases hu with rfl | rfl | rfl <;> rfl
  · intro v' w' h2 h3 _ _
    refine h v' w' ?_ h3
    unfold Rws
    rw [flat3_snoc]
    simpa using h2

set_option maxRecDepth 100000 in
theorem backward_any (A : Option Addr) (n c : Nat) (w : World) : Calls Tryz.prog 51 #[.slice A n c] w fun e w' => e = .returned (.func (.func 72) #[] #[.pointer (some ⟨w.heap.size, 0, none⟩)]) ∧ w' = w.alloc (.cells #[.slice A n c] 26) := by
  go_enter Tryz.func51, Tryz.ntmps51
  go_wp2
  go_ret
  exact ⟨rfl, rfl⟩

set_option maxHeartbeats 4000000 in
set_option maxRecDepth 100000 in
theorem lowFunc_any (f : Fc) (A1 : Option Addr) (n1 c1 : Nat) (A2 : Option Addr) (n2 c2 : Nat) (w : World) (hf : IsFc w w.heap.size f A1 n1 A2 n2) (hok : FnOk f) (hgo : go f f.stmts.length f.body false 0 = some f.stmts.length) (hk9 : Kinds9 f) (h300 : (lowC f).ins.length ≤ 300)
    (hz : (ord f f.stmts.length f.body).length ≤ 1000) (h4 : (sitesL f).length ≤ 4) (HL : Hid (∀ As ns cs, ns ≤ 1048576 → LstC f A1 n1 c1 A2 n2 c2 As ns cs f.stmts.length)) :
    Calls Tryz.prog 25 #[fcV f A1 n1 c1 A2 n2 c2] w fun e w' => ∃ vs vi vr, e = .returned (.tuple #[.agg #[.int .i64 (lowC f).params, .int .i64 (lowC f).vars, vs, vi, vr], .bool true]) ∧ OwnCd w' w.heap.size (lowC f) vs vi vr ∧ Below w.heap.size w w' := by
  have hlk := hok.low
  have hm2 : f.stmts.length = n2 := hf.stmts.1
  rw [hm2] at hlk
  have hm1 : n1 ≤ 1048576 := by have := hlk.small.1; rw [hf.body.1] at this; exact this
  have hm2' : n2 ≤ 1000 := hlk.few
  obtain ⟨BL, hBL⟩ : ∃ b, loB (loSt f f.stmts.length) f.body = b := ⟨_, rfl⟩
  have hBz : BL.size ≤ 1000000 := by have := lo_size f.stmts.length f.body hok.body hlk.nest; rw [hBL] at this; omega
  have hBe : lowIs f = BL.emit 0 ++ [(16, 0)] := by unfold lowIs; rw [← loB_same hk9, hBL]
  have hBl : BL.long + 1 ≤ 300 := by
    have h1 := h300
    unfold lowC at h1
    simp only [List.length_append, hBe, Lo.emit_length, List.length_cons, List.length_nil] at h1
    omega
  have CS := put (fun W (hW : Below w.heap.size w W) => sitesIn_any f A1 n1 c1 A2 n2 c2 W (hf.now hW) hlk.small hgo)
  have CL := put (fun W (hW : Below w.heap.size w W) As ns cs (hns : ns ≤ 1048576) (hr : Reads W W.heap.size .i64 As ns (sitesL f)) => HL.out As ns cs hns f.body A1 n1 c1 0 W (fun x hx => by have := hok.body x hx; omega) (by omega) (hf.now hW) ((hf.now hW).body) hm1 hr)
  rw [hBL] at CL
  have HSI := put (show ∀ x ∈ sitesL f, 0 ≤ x ∧ x < (n2 : Int) from fun x hx => by have := mem_sitesFrom' (show x ∈ sitesFrom 0 f.stmts from hx); omega)
  have R2 := put (fun W (hW : Below w.heap.size w W) => (hf.stmts).below hW)
  unfold fcV at CS CL ⊢
  have hb0 : Below w.heap.size w ((w.alloc (.cells #[.int .i64 f.params, .int .i64 f.vars, .slice A1 n1 c1, .slice A2 n2 c2] 59)).alloc (.cells #[.int .i64 0, .int .i64 0, .slice none 0 0, .slice none 0 0, .slice none 0 0] 30)) := ((Below.refl _ _).alloc (Nat.le_refl _) _).alloc (by simp) _
  have kf0 : Keep ((w.alloc (.cells #[.int .i64 f.params, .int .i64 f.vars, .slice A1 n1 c1, .slice A2 n2 c2] 59)).alloc (.cells #[.int .i64 0, .int .i64 0, .slice none 0 0, .slice none 0 0, .slice none 0 0] 30)) w.heap.size #[.int .i64 f.params, .int .i64 f.vars, .slice A1 n1 c1, .slice A2 n2 c2] 59 := (Keep.new w _ _).alloc _
  have kz0 : Keep ((w.alloc (.cells #[.int .i64 f.params, .int .i64 f.vars, .slice A1 n1 c1, .slice A2 n2 c2] 59)).alloc (.cells #[.int .i64 0, .int .i64 0, .slice none 0 0, .slice none 0 0, .slice none 0 0] 30)) (w.heap.size + 1) #[.int .i64 0, .int .i64 0, .slice none 0 0, .slice none 0 0, .slice none 0 0] 30 := by
    have := Keep.new (w.alloc (.cells #[.int .i64 f.params, .int .i64 f.vars, .slice A1 n1 c1, .slice A2 n2 c2] 59)) #[.int .i64 0, .int .i64 0, .slice none 0 0, .slice none 0 0, .slice none 0 0] 30
    rwa [World.size_alloc] at this
  have hs0 : ((w.alloc (.cells #[.int .i64 f.params, .int .i64 f.vars, .slice A1 n1 c1, .slice A2 n2 c2] 59)).alloc (.cells #[.int .i64 0, .int .i64 0, .slice none 0 0, .slice none 0 0, .slice none 0 0] 30)).heap.size = w.heap.size + 1 + 1 := by simp
  have H300 := put h300
  clear hf hok hlk hgo hk9 h300 hz hBL HL hm2
  refine (callsIn_wide (n := 5)).1 ?_
  refine callsIn_of_wp_marks Tryz.func25 rfl trivial ?_ rfl
  simp only [Tryz.ntmps25, List.size_toArray, List.length_cons, List.length_nil, Nat.reduceAdd, Nat.reduceSub, Array.replicate_succ, Array.replicate_zero, List.push_toArray, List.append_toArray, List.nil_append, List.cons_append]
  refine wpIn_wide.2 ?_
  go_wp2_with fail
  generalize hW : (w.alloc (.cells #[.int .i64 f.params, .int .i64 f.vars, .slice A1 n1 c1, .slice A2 n2 c2] 59)).alloc (.cells #[.int .i64 0, .int .i64 0, .slice none 0 0, .slice none 0 0, .slice none 0 0] 30) = W0 at hb0 kf0 kz0 hs0 ⊢
  clear hW
  refine (CS.out W0 hb0).mono ?_
  rintro e w1 ⟨v0, rfl, nu0, hb1⟩
  have b1 := hb0.trans (hb1.mono hb0.size)
  have kf1 := kf0.below hb1
  have kz1 := kz0.below hb1
  have hs1 : w.heap.size + 1 + 1 ≤ w1.heap.size := by have := hb1.size; omega
  rw [hs0] at nu0
  clear hb0 kf0 kz0 hb1 hs0 CS
  obtain ⟨S, hS⟩ : ∃ S, (sitesL f).length = S := ⟨_, rfl⟩
  obtain ⟨A0, c0, hv0, hR0⟩ := nu0.reads
  rw [hS] at hv0 hR0 h4
  subst hv0
  have HS := put hS
  have y0 := kf1.cell 0
  have y1 := kf1.cell 1
  have y2 := kf1.cell 2
  have y3 := kf1.cell 3
  simp at y0 y1 y2 y3
  have HCL := put (CL.out w1 b1 A0 S c0 (by omega) hR0)
  clear hS CL hR0
  go_wp2_with fail
  refine HCL.out.mono ?_
  rintro e w2 ⟨A', n', c', rfl, hn', hh, hb2⟩
  have b2 := b1.trans (hb2.mono b1.size)
  have kf2 := kf1.below hb2
  have kz2 := kz1.below hb2
  have nu2 := (nu0.more (show w.heap.size ≤ w.heap.size + 1 + 1 by omega)).belowNew hb2
  have hs2 : w.heap.size + 1 + 1 ≤ w2.heap.size := by have := hb2.size; omega
  have HA := put (app_any BL.deep BL (Btw w1 w2) A' n' c' w2.heap.size w2 (Nat.le_refl _) hn' hBz (fun b hb => hb.2) (Nat.le_refl _) hh w2 (.slice none 0 0) [] (Below.refl _ _) (Inss.nil _ _) (by simp; omega))
  clear HCL hn' hh hb2 kf1 kz1 nu0 y0 y1 y2 y3 hs1 hBz
  go_wp2_with fail
  refine HA.out.mono ?_
  rintro e w3 ⟨v3, rfl, nu3, hb3, _⟩
  clear HA
  have b3 := b2.trans (hb3.mono b2.size)
  have kf3 := kf2.below hb3
  have kz3 := kz2.below hb3
  have nS3 := nu2.belowNew hb3
  have hs3 : w.heap.size + 1 + 1 ≤ w3.heap.size := by have := hb3.size; omega
  replace nu3 : Inss w3 w.heap.size v3 (BL.emit 0) := by simpa using nu3.under b2.size
  obtain ⟨A3, n3, c3, rfl⟩ := slice_of nu3
  clear kf2 kz2 nu2 hb3 b2 hs2
  obtain ⟨P, hP⟩ : ∃ P, (lowIs f).length = P := ⟨_, rfl⟩
  have hP3 : P ≤ 300 := by rw [← hP, hBe, List.length_append, Lo.emit_length]; simpa using hBl
  have HP := put hP
  have hE3 : (BL.emit 0).length ≤ 1000000 := by rw [Lo.emit_length]; omega
  have nb := (((Below.refl w3.heap.size w3).alloc (Nat.le_refl _) (.cells #[.slice A3 n3 c3] 27))).alloc (by simp) (.cells #[.int .i64 16, .int .i64 0] 83)
  have nl := Inss.lit1 (w3.alloc (.cells #[.slice A3 n3 c3] 27)) 16 0
  have kC := (Keep.new w3 #[.slice A3 n3 c3] 27).alloc (.cells #[.int .i64 16, .int .i64 0] 83)
  rw [World.size_alloc] at nl
  have nu3' := nu3.below nb
  have kfa := kf3.below nb
  have kza := kz3.below nb
  have nSa := nS3.belowNew nb
  have ba := b3.trans (nb.mono b3.size)
  clear nu3 kf3 kz3 nS3 nb hBl
  go_wp2_with (
    at_builtin
    refine wpList_append_inssG rfl _ _ rfl w.heap.size _ (BL.emit 0) rfl (by simp; omega) nu3' (w3.heap.size + 1) _ [(16, 0)] rfl nl hE3 (by simp) ?_
    intro v4 w4 hown4 hbel4 hg4
    rw [← hBe] at hown4
    obtain ⟨A4, c4, hv4, _⟩ := hown4.reads
    rw [hP] at hv4
    subst hv4
    have kC4 := kC.apart hg4 nu3' (by decide)
    have kf4 := kfa.apart hg4 nu3' (by decide)
    have kz4 := kza.apart hg4 nu3' (by decide)
    have nS4 : Nums w4 w.heap.size 3 .i64 (.slice A0 S c0) (sitesL f) := ownsRow_apart (show World.ownsRow _ w.heap.size 3 1 (.slice A0 S c0) (sitesL f).length ((sitesL f).map (Value.int .i64)) from nSa) hg4 nu3' (by decide)
    have b4 := ba.trans hbel4
    have x4 := kC4.cell 0
    have f4 := kC4.frozen 0
    simp at x4
    have hs4 : w3.heap.size + 1 + 1 ≤ w4.heap.size := by have := hg4.size; simpa using this
    have b5 := b4.setCell (p := ⟨w3.heap.size, 0, none⟩) (by have := b3.size; simpa using this) (.slice A4 P c4)
    have kC5 := kC4.set 0 (.slice A4 P c4)
    have kf5 := kf4.other (g' := w3.heap.size) (by omega) 0 (.slice A4 P c4)
    have kz5 := kz4.other (g' := w3.heap.size) (by omega) 0 (.slice A4 P c4)
    have sm : Same 27 w4 (w4.setCell ⟨w3.heap.size, 0, none⟩ (.slice A4 P c4)) := .set kC4 0 _
    have nS5 : Nums (w4.setCell ⟨w3.heap.size, 0, none⟩ (.slice A4 P c4)) w.heap.size 3 .i64 (.slice A0 S c0) (sitesL f) := sm.row (show World.ownsRow _ w.heap.size 3 1 (.slice A0 S c0) (sitesL f).length ((sitesL f).map (Value.int .i64)) from nS4) (by decide)
    have nI5 : Inss (w4.setCell ⟨w3.heap.size, 0, none⟩ (.slice A4 P c4)) w.heap.size (.slice A4 P c4) (lowIs f) := sm.row hown4 (by decide)
    clear sm kC4 kf4 kz4 nS4 b4 hown4 hg4 hbel4)
  have hsz : (w4.setCell ⟨w3.heap.size, 0, none⟩ (.slice A4 P c4)).heap.size = w4.heap.size := by simp [World.setCell]
  have hwC : w.heap.size ≤ w3.heap.size := b3.size
  have kR5 := Keep.new ((w4.setCell ⟨w3.heap.size, 0, none⟩ (.slice A4 P c4)).alloc (.cells #[.int .i64 0, .int .i64 (P : Int), .int .i64 (P : Int)] 85)) #[.slice (some ⟨w4.heap.size, 0, none⟩) 1 1] 28
  rw [World.size_alloc, hsz] at kR5
  have nR5 := Rws.lit (w4.setCell ⟨w3.heap.size, 0, none⟩ (.slice A4 P c4)) 0 P P
  rw [hsz] at nR5
  have nb6 := ((Below.refl _ (w4.setCell ⟨w3.heap.size, 0, none⟩ (.slice A4 P c4))).alloc (Nat.le_refl _) (.cells #[.int .i64 0, .int .i64 (P : Int), .int .i64 (P : Int)] 85)).alloc (by simp) (.cells #[.slice (some ⟨w4.heap.size, 0, none⟩) 1 1] 28)
  have r6 : RSt w (((w4.setCell ⟨w3.heap.size, 0, none⟩ (.slice A4 P c4)).alloc (.cells #[.int .i64 0, .int .i64 (P : Int), .int .i64 (P : Int)] 85)).alloc (.cells #[.slice (some ⟨w4.heap.size, 0, none⟩) 1 1] 28)) w.heap.size (w.heap.size + 1) w3.heap.size (w4.heap.size + 1) #[.int .i64 f.params, .int .i64 f.vars, .slice A1 n1 c1, .slice A2 n2 c2] (.slice A0 S c0) (.slice none 0 0) (.slice A4 P c4) (.slice (some ⟨w4.heap.size, 0, none⟩) 1 1) (sitesL f) [] (lowIs f) [(0, (P : Int), (P : Int))] :=
    ⟨kf5.below nb6, kz5.below nb6, by simpa using kC5.below nb6, kR5, nS5.belowNew nb6, Nums.nil _ _ _ _, nI5.below nb6, (nR5.under (by omega)).below ((Below.refl _ _).alloc (Nat.le_refl _) _), b5.trans (nb6.mono b5.size)⟩
  have hs6 : (((w4.setCell ⟨w3.heap.size, 0, none⟩ (.slice A4 P c4)).alloc (.cells #[.int .i64 0, .int .i64 (P : Int), .int .i64 (P : Int)] 85)).alloc (.cells #[.slice (some ⟨w4.heap.size, 0, none⟩) 1 1] 28)).heap.size = w4.heap.size + 1 + 1 := by simp [hsz]
  have hw5 : w.heap.size ≤ w4.heap.size + 1 := by omega
  have hx0 := hP
  clear kf5 kz5 kC5 kR5 nS5 nI5 nR5 nb6 b5 x4 f4 nl kC nu3' kfa kza nSa ba hP hE3 hBe b1 b3
  generalize hW6 : ((w4.setCell ⟨w3.heap.size, 0, none⟩ (.slice A4 P c4)).alloc (.cells #[.int .i64 0, .int .i64 (P : Int), .int .i64 (P : Int)] 85)).alloc (.cells #[.slice (some ⟨w4.heap.size, 0, none⟩) 1 1] 28) = W6 at r6 hs6 ⊢
  clear hW6 hsz
  obtain ⟨A0', c0', hv0', hR6⟩ := r6.nS.reads
  injection hv0' with hq1 hq2 hq3
  subst hq1; subst hq3
  rw [← hq2] at hR6
  clear hq2 hx0
  have hF6 := r6.kF.lt
  go_loopw [8, 33] (fun v i wr => ∃ k : Nat, k ≤ S ∧ i = .int .i64 k ∧ Nums wr W6.heap.size 3 .i64 v (((sitesL f).take k).map (siteN f)) ∧ Below W6.heap.size W6 wr) (fun _ i _ => S - (intOf i).toNat)
  case atStart => exact ⟨0, Nat.zero_le _, rfl, Nums.nil _ _ _ _, Below.refl _ _⟩
  case round =>
    obtain ⟨k, hk, rfl, nuk, hbk⟩ := hrel
    have r7 := r6.below hbk
    by_cases hlt : k < S
    · obtain ⟨b, off, x, rfl, hb', hc, hx⟩ := (hR6.below hbk).at_ hlt
      obtain ⟨hx0, hx1⟩ := HSI.out x (mem_of_at hx.out)
      obtain ⟨p, rfl⟩ : ∃ p : Nat, x = p := ⟨x.toNat, by omega⟩
      obtain ⟨b2, off2, s, D1, x1, e1, D2, x2, e2, D3, x3, e3, hA2, hbb2, t0, t1, t2, t3, t4, _, _, _, hxs⟩ := (R2.out wr r7.bel).at_ (j := p) (by omega)
      subst hA2
      have HM := put (show ((sitesL f).take (k + 1)).map (siteN f) = ((sitesL f).take k).map (siteN f) ++ [s.n] by
        rw [takeA_more hx.out]
        simp [siteN, hxs.out])
      have HX := put (show (((sitesL f).take k).map (siteN f)).length ≤ 1000000 by simp; omega)
      generalize ((sitesL f).take k).map (siteN f) = ps at nuk HM HX
      have hpm : p < n2 := by omega
      have y3 := r7.kF.cell 3
      simp at y3
      have nuA := Nums.alloc nuk (.cells #[.int .i64 s.n] 3)
      have hbA := hbk.alloc hbk.size (.cells #[.int .i64 s.n] 3)
      have hszk := hbk.size
      clear t0 t2 t3 t4 hx hxs r7 nuk
      go_wp2_with (at_builtin; refine wpList_append1 rfl _ _ rfl W6.heap.size _ ps rfl (by simp; omega) nuA wr.heap.size s.n rfl (by simp) HX.out ?_; intro v2 w2' hown2 hgr _; obtain ⟨A9, n9, c9, rfl⟩ := slice_of hown2; have hb9 := hbA.grown hgr (by simp; omega) (fun j hj => (World.ownsRow.lt nuA j hj).1); clear hgr nuA hbA)
      go_roundw
      case rel => exact ⟨k + 1, by omega, by go_num, by rw [HM.out]; exact hown2, hb9⟩
      case measure => simp [intOf]; omega
    · obtain rfl : k = S := by omega
      have hfin : ((sitesL f).take k).map (siteN f) = (sitesL f).map (siteN f) := by rw [List.take_of_length_le (by have := HS.out; omega)]
      rw [hfin] at nuk
      obtain ⟨A7, n7, c7, rfl⟩ := slice_of nuk
      have r8 : RSt w wr w.heap.size (w.heap.size + 1) w3.heap.size (w4.heap.size + 1) #[.int .i64 f.params, .int .i64 f.vars, .slice A1 n1 c1, .slice A2 n2 c2] (.slice A0 k c0) (.slice A7 n7 c7) (.slice A4 P c4) (.slice (some ⟨w4.heap.size, 0, none⟩) 1 1) (sitesL f) ((sitesL f).map (siteN f)) (lowIs f) [(0, (P : Int), (P : Int))] :=
        { r7 with nP := nuk.more r6.bel.size }
      have hs8 : w4.heap.size + 1 + 1 ≤ wr.heap.size := by have := hbk.size; omega
      clear r7 r6 hR6 hbk nuk hfin hlt hs6 hF6
      go_wp2_with fail
      refine (backward_any A0 k c0 wr).mono ?_
      rintro e w9 ⟨rfl, rfl⟩
      have r9 := r8.below ((Below.refl wr.heap.size wr).alloc (Nat.le_refl _) (.cells #[.slice A0 k c0] 26))
      have kB9 := Keep.new wr #[.slice A0 k c0] 26
      have hs9 : (wr.alloc (.cells #[.slice A0 k c0] 26)).heap.size = wr.heap.size + 1 := by simp
      clear r8
      generalize wr.alloc (.cells #[.slice A0 k c0] 26) = W9 at r9 kB9 hs9 ⊢
      go_wp2_with fail
      have hww : w.heap.size ≤ W9.heap.size := r9.bel.size
      refine (wpIn_wide (n := 5)).1 ?_
      refine' range_steps (F := Fence.wide) (n := 5) (encs := fun x : Int × Int => #[.int .i64 x.1, .int .i64 x.2]) (Adm := fun (m : Nat) (x : Int × Int) => m < k ∧ x.1 = (k : Int) - 1 - (m : Int)) (next := fun m _ => some (m + 1)) (s0 := 0) (res := some k) (Qw := Fix wr.heap.size A0 k c0 (sitesL f)) (Kp := fun _ _ => True) rfl (by omega) (gf := 72) (lb := #[.pointer (some ⟨wr.heap.size, 0, none⟩)]) rfl trivial (enters_of Tryz.func72 (by kernel_rfl) rfl) (fun _ _ => trivial) (fun _ _ _ _ _ => trivial) (back_steps Fence.wide rfl _ trivial rfl wr.heap.size A0 k c0 (sitesL f) (by omega) W9) (fun _ => rfl)
        (fun m W => (∃ A n c A' n' c', RSt w W w.heap.size (w.heap.size + 1) w3.heap.size (w4.heap.size + 1) #[.int .i64 f.params, .int .i64 f.vars, .slice A1 n1 c1, .slice A2 n2 c2] (.slice A0 k c0) (.slice A7 n7 c7) (.slice A n c) (.slice A' n' c') (sitesL f) ((sitesL f).map (siteN f)) (lowIs f ++ offsTo k m) ((0, (P : Int), (P : Int)) :: rowsTo P m)) ∧ Keep W wr.heap.size #[.slice A0 k c0] 26 ∧ W9.heap.size ≤ W.heap.size)
        (fun _ => False) ?hI (fun _ _ _ _ h _ _ => h) ⟨⟨_, _, _, _, _, _, by simpa [offsTo, rowsTo] using r9⟩, kB9, Nat.le_refl _⟩ ?hQ _ ?assign ?body ?done (fun _ _ _ _ h _ => h.elim)
      case hI =>
        rintro m W W' row ⟨⟨_, _, _, _, _, _, h⟩, hk, hs⟩ hg hr
        have sm := Same.own hg fun r e => (hr r e).2
        exact ⟨⟨_, _, _, _, _, _, h.same sm ((Below.refl _ W).grown hg h.bel.size fun j e => by have := (hr j e).1; omega)⟩, sm.keep hk (by decide), Nat.le_trans hs hg.size⟩
      case hQ =>
        rintro m W ⟨⟨_, _, _, _, _, _, h⟩, hk, _⟩
        exact Fix.of hk h.nS
      case assign =>
        intro l x W K hK
        gi_wp2
        exact hK
      case body =>
        rintro l m ⟨x, y⟩ W ⟨⟨Ai, ni, ci, Ar, nr, cr, h⟩, hkB, hsW⟩ ⟨hmk, hx⟩
        replace hx : x = (k : Int) - 1 - (m : Int) := hx
        obtain ⟨L, hL⟩ : ∃ L, (lowIs f ++ offsTo k m).length = L := ⟨_, rfl⟩
        have hLP : L = P + m := by rw [← hL, List.length_append, HP.out, offsTo_length]
        obtain ⟨_, _, hvi, _⟩ := h.ins.reads
        rw [hL] at hvi
        injection hvi with q1 hni q3
        clear q1 q3
        subst hni
        have HM1 := put (show lowIs f ++ offsTo k (m + 1) = lowIs f ++ offsTo k m ++ [(17, x)] by rw [hx]; simp [offsTo])
        have HM2 := put (show (0, (P : Int), (P : Int)) :: rowsTo P (m + 1) = ((0, (P : Int), (P : Int)) :: rowsTo P m) ++ [((ni : Int), (ni : Int) + 1, (ni : Int) + 1)] by rw [hLP]; simp [rowsTo])
        have HX1 := put (show (lowIs f ++ offsTo k m).length ≤ 1000000 by rw [hL]; omega)
        have HX2 := put (show ((0, (P : Int), (P : Int)) :: rowsTo P m).length ≤ 1000000 by rw [List.length_cons, rowsTo_length]; omega)
        have hwL : IntKind.i64.wrap ((ni : Int) + 1) = (ni : Int) + 1 := IntWalk.i64_in _ ⟨by omega, by omega⟩
        generalize lowIs f ++ offsTo k m = IS at h HM1 HX1 hL
        generalize (0, (P : Int), (P : Int)) :: rowsTo P m = RS at h HM2 HX2
        have hA := h.below ((Below.refl W.heap.size W).alloc (Nat.le_refl _) (.cells #[.int .i64 17, .int .i64 x] 83))
        have hkA := hkB.alloc (.cells #[.int .i64 17, .int .i64 x] 83)
        have ko1 := KeepsOthers.alloc W (.cells #[.int .i64 17, .int .i64 x] 83)
        have kl := Keep.new W #[.int .i64 17, .int .i64 x] 83
        have l0 := kl.cell 0
        have l1 := kl.cell 1
        have y5 := h.kC.cell 0
        have hlt3 := h.kC.lt
        simp only [List.getElem?_toArray, List.getElem?_cons_zero, List.getElem?_cons_succ] at l0 l1 y5
        have hbase : w.heap.size ≤ W.heap.size + 1 := by omega
        have hC : w.heap.size ≤ w3.heap.size := hwC
        clear h hkB hx hL hLP kl
        gi_wp2_with (first
          | (gi_at_builtin
             refine wpListIn_ins rfl _ _ rfl w.heap.size _ IS rfl (by simpa using hbase) hA.ins W.heap.size 17 x rfl l0 l1 HX1.out ?_
             intro v5 w5 hn5 hg5
             obtain ⟨A5, n5, c5, rfl⟩ := slice_of hn5
             have r5 := hA.stepI hC hg5 ((Below.refl _ _).grown hg5 hA.bel.size fun j e => (Inss.own_lt hA.ins e).1) hn5
             have k5 := hA.kC.apart hg5 hA.ins (by decide)
             have x5 := k5.cell 0
             have f5 := k5.frozen 0
             have kB5 := (hkA.apart hg5 hA.ins (by decide)).other (g' := w3.heap.size) (by omega) 0 (.slice A5 n5 c5)
             have ko5 := (ko1.trans (KeepsOthers.of_grownBy hg5 (row_cells hA.ins))).trans (KeepsOthers.setCell w5 ⟨w3.heap.size, 0, none⟩ (.slice A5 n5 c5))
             have hz5 : (w5.setCell ⟨w3.heap.size, 0, none⟩ (.slice A5 n5 c5)).heap.size = w5.heap.size := by simp [World.setCell]
             have r5A := r5.below ((Below.refl _ _).alloc (Nat.le_refl _) (.cells #[.int .i64 (ni : Int), .int .i64 ((ni : Int) + 1), .int .i64 ((ni : Int) + 1)] 85))
             have kB5A := kB5.alloc (.cells #[.int .i64 (ni : Int), .int .i64 ((ni : Int) + 1), .int .i64 ((ni : Int) + 1)] 85)
             have ko5A := ko5.trans (KeepsOthers.alloc _ (.cells #[.int .i64 (ni : Int), .int .i64 ((ni : Int) + 1), .int .i64 ((ni : Int) + 1)] 85))
             have kr := Keep.new (w5.setCell ⟨w3.heap.size, 0, none⟩ (.slice A5 n5 c5)) #[.int .i64 (ni : Int), .int .i64 ((ni : Int) + 1), .int .i64 ((ni : Int) + 1)] 85
             rw [hz5] at kr
             have p0 := kr.cell 0
             have p1 := kr.cell 1
             have p2 := kr.cell 2
             have x7 := r5.kR.cell 0
             have hs5 : w.heap.size ≤ w5.heap.size := by have := r5.bel.size; rwa [hz5] at this
             simp only [List.getElem?_toArray, List.getElem?_cons_zero, List.getElem?_cons_succ] at p0 p1 p2 x5 x7
             clear hA hkA ko1 hg5 hn5 k5 kB5 ko5 kr r5)
          | (gi_at_builtin
             refine wpListIn_row rfl _ _ rfl w.heap.size _ RS rfl (by simp [World.setCell]; omega) r5A.rows w5.heap.size (ni : Int) ((ni : Int) + 1) ((ni : Int) + 1) rfl p0 p1 p2 HX2.out ?_
             intro v6 w6 hn6 hg6
             obtain ⟨A6, n6, c6, rfl⟩ := slice_of hn6
             have r6 := r5A.stepR hw5 hg6 hn6
             have k6 := r5A.kR.apart hg6 r5A.rows (by decide)
             have x6 := k6.cell 0
             have f6 := k6.frozen 0
             simp only [List.getElem?_toArray, List.getElem?_cons_zero] at x6
             have kB6 := (kB5A.apart hg6 r5A.rows (by decide)).other (g' := w4.heap.size + 1) (by omega) 0 (.slice A6 n6 c6)
             have ko6 := (ko5A.trans (KeepsOthers.of_grownBy hg6 (row_cells r5A.rows))).trans (KeepsOthers.setCell w6 ⟨w4.heap.size + 1, 0, none⟩ (.slice A6 n6 c6))
             clear r5A kB5A ko5A hg6 hn6 k6))
        exact ⟨m + 1, rfl, ko6, trivial, ⟨_, _, _, _, _, _, by rw [HM1.out, HM2.out]; exact r6⟩, kB6, Nat.le_trans hsW ko6.size⟩
      case done =>
        rintro D m W hD hres ⟨⟨Ai, ni, ci, Ar, nr, cr, h⟩, _, hsW⟩ hK
        have hkm : k = m := Option.some.inj hres
        subst hkm
        obtain ⟨L, hL⟩ : ∃ L, (lowIs f ++ offsTo k k).length = L := ⟨_, rfl⟩
        have hLP : L = P + k := by rw [← hL, List.length_append, HP.out, offsTo_length]
        obtain ⟨_, _, hvi, _⟩ := h.ins.reads
        rw [hL] at hvi
        injection hvi with q1 hni q3
        clear q1 q3
        subst hni
        have hI3 : ni + 1 ≤ 300 := by
          have := H300.out
          unfold lowC at this
          simp only [List.length_append, HP.out, offsTo_length, HS.out, List.length_cons, List.length_nil] at this
          omega
        have HC := put (show lowC f = ⟨f.params, f.vars, (sitesL f).map (siteN f), (lowIs f ++ offsTo k k) ++ [(18, 0)], (0, (P : Int), (P : Int)) :: rowsTo P k⟩ by unfold lowC; rw [HS.out, HP.out])
        have HX1 := put (show (lowIs f ++ offsTo k k).length ≤ 1000000 by rw [hL]; omega)
        have HL5 := put (show ((lowIs f ++ offsTo k k) ++ [(18, (0 : Int))]).length = ni + 1 by rw [List.length_append, hL]; rfl)
        generalize lowIs f ++ offsTo k k = IS at h HX1 HL5 HC hL
        generalize (0, (P : Int), (P : Int)) :: rowsTo P k = RS at h HC
        have hA := h.below ((Below.refl W.heap.size W).alloc (Nat.le_refl _) (.cells #[.int .i64 18, .int .i64 0] 83))
        have ko1 := KeepsOthers.alloc W (.cells #[.int .i64 18, .int .i64 0] 83)
        have nl := Inss.lit1 W 18 0
        have y5 := h.kC.cell 0
        have hlt3 := h.kC.lt
        simp only [List.getElem?_toArray, List.getElem?_cons_zero] at y5
        have hbase : w.heap.size ≤ W.heap.size + 1 := by omega
        have hC : w.heap.size ≤ w3.heap.size := hwC
        have hZD : w.heap.size + 1 ≠ D := by omega
        clear h hL hLP hres r9 kB9
        go_wp2_with (
          at_builtin
          refine wpList_append_inssG rfl _ _ rfl w.heap.size _ IS rfl (by simpa using hbase) hA.ins W.heap.size _ [(18, 0)] rfl nl HX1.out (by simp) ?_
          intro v5 w5 hn5 hb5 hg5
          obtain ⟨A5, c5, hv5, _⟩ := hn5.reads
          rw [HL5.out] at hv5
          subst hv5
          have r5 := hA.stepI hC hg5 hb5 hn5
          have k5 := hA.kC.apart hg5 hA.ins (by decide)
          have x5 := k5.cell 0
          have f5 := k5.frozen 0
          have ko5 := (ko1.trans (KeepsOthers.of_grownBy hg5 (row_cells hA.ins))).trans (KeepsOthers.setCell w5 ⟨w3.heap.size, 0, none⟩ (.slice A5 (ni + 1) c5))
          have hz5 : (w5.setCell ⟨w3.heap.size, 0, none⟩ (.slice A5 (ni + 1) c5)).heap.size = w5.heap.size := by simp [World.setCell]
          have x6 := r5.kC.cell 0
          have x7 := r5.kR.cell 0
          have a0 := r5.kF.cell 0
          have a1 := r5.kF.cell 1
          have s0 := r5.kZ.cell 0
          have s1 := r5.kZ.cell 1
          have s2 := r5.kZ.cell 2
          have s3 := r5.kZ.cell 3
          have s4 := r5.kZ.cell 4
          have e0 := r5.kZ.frozen 0
          have e1 := r5.kZ.frozen 1
          have e2 := r5.kZ.frozen 2
          have e3 := r5.kZ.frozen 3
          have e4 := r5.kZ.frozen 4
          simp only [List.getElem?_toArray, List.getElem?_cons_zero, List.getElem?_cons_succ] at x5 x6 x7 a0 a1 s0 s1 s2 s3 s4
          clear hA ko1 hg5 hn5 hb5 k5 nl)
        clear x5 x6 x7 a0 a1 s0 s1 s2 s3 s4 e0 e1 e2 e3 e4 f5 hz5 y5 hlt3
        generalize w5.setCell ⟨w3.heap.size, 0, none⟩ (.slice A5 (ni + 1) c5) = V at r5 ko5 ⊢
        have hZ := r5.kZ
        have z0 := hZ.set 0 (.int .i64 f.params)
        have z1 := z0.set 1 (.int .i64 f.vars)
        have z2 := z1.set 2 (.slice A7 n7 c7)
        have z3 := z2.set 3 (.slice A5 (ni + 1) c5)
        have z4 := z3.set 4 (.slice Ar nr cr)
        have sm := ((((Same.set hZ 0 (.int .i64 f.params)).trans (Same.set z0 1 (.int .i64 f.vars))).trans (Same.set z1 2 (.slice A7 n7 c7))).trans (Same.set z2 3 (.slice A5 (ni + 1) c5))).trans (Same.set z3 4 (.slice Ar nr cr))
        have nS : Nums _ w.heap.size 3 .i64 (.slice A7 n7 c7) ((sitesL f).map (siteN f)) := sm.row r5.nP (by decide)
        have nI : Inss _ w.heap.size (.slice A5 (ni + 1) c5) (IS ++ [(18, 0)]) := sm.row r5.ins (by decide)
        have nR : Rws _ w.heap.size (.slice Ar nr cr) RS := sm.row r5.rows (by decide)
        have bF := ((((r5.bel.setCell (p := ⟨w.heap.size + 1, 0, none⟩) (by simp) (.int .i64 f.params)).setCell (p := ⟨w.heap.size + 1, 1, none⟩) (by simp) (.int .i64 f.vars)).setCell (p := ⟨w.heap.size + 1, 2, none⟩) (by simp) (.slice A7 n7 c7)).setCell (p := ⟨w.heap.size + 1, 3, none⟩) (by simp) (.slice A5 (ni + 1) c5)).setCell (p := ⟨w.heap.size + 1, 4, none⟩) (by simp) (.slice Ar nr cr)
        have koF := ((((ko5.trans (KeepsOthers.setCell V ⟨w.heap.size + 1, 0, none⟩ (.int .i64 f.params))).trans (KeepsOthers.setCell _ ⟨w.heap.size + 1, 1, none⟩ (.int .i64 f.vars))).trans (KeepsOthers.setCell _ ⟨w.heap.size + 1, 2, none⟩ (.slice A7 n7 c7))).trans (KeepsOthers.setCell _ ⟨w.heap.size + 1, 3, none⟩ (.slice A5 (ni + 1) c5))).trans (KeepsOthers.setCell _ ⟨w.heap.size + 1, 4, none⟩ (.slice Ar nr cr))
        simp at z4
        clear sm z0 z1 z2 z3 hZ ko5 r5
        generalize ((((V.setCell ⟨w.heap.size + 1, 0, none⟩ (.int .i64 f.params)).setCell ⟨w.heap.size + 1, 1, none⟩ (.int .i64 f.vars)).setCell ⟨w.heap.size + 1, 2, none⟩ (.slice A7 n7 c7)).setCell ⟨w.heap.size + 1, 3, none⟩ (.slice A5 (ni + 1) c5)).setCell ⟨w.heap.size + 1, 4, none⟩ (.slice Ar nr cr) = WF at nS nI nR bF koF z4 ⊢
        have hK2 := koF.same _ _ hK rfl
        have hDw : w.heap.size ≤ D := by omega
        have kG : ∀ o, Keep (WF.putObj D o) (w.heap.size + 1) #[.int .i64 f.params, .int .i64 f.vars, .slice A7 n7 c7, .slice A5 (ni + 1) c5, .slice Ar nr cr] 30 := fun o => (World.putObj_heap_other hZD).trans z4
        have g0 := fun o => (kG o).cell 0
        have g1 := fun o => (kG o).cell 1
        have g2 := fun o => (kG o).cell 2
        have g3 := fun o => (kG o).cell 3
        have g4 := fun o => (kG o).cell 4
        simp only [List.getElem?_toArray, List.getElem?_cons_zero, List.getElem?_cons_succ] at g0 g1 g2 g3 g4
        have ow : ∀ o, OwnCd (WF.putObj D o) w.heap.size (lowC f) (.slice A7 n7 c7) (.slice A5 (ni + 1) c5) (.slice Ar nr cr) := fun o => by
          have sm := Same.own (grownBy_putObj' WF D o) (fun r e => by cases e; exact ⟨_, hK2, rfl⟩)
          rw [HC.out]
          exact ⟨sm.row nS (by decide), sm.row nI (by decide), sm.row nR (by decide)⟩
        have bG : ∀ o, Below w.heap.size w (WF.putObj D o) := fun o => bF.grown (grownBy_putObj' WF D o) bF.size (fun j e => by cases e; exact hDw)
        clear kG nS nI nR z4 koF bF
        refine ⟨by simp, .inl ⟨_, _, rfl, run_takeDeferred hK2, ?_⟩⟩
        exact ⟨.tuple #[.agg #[.int .i64 f.params, .int .i64 f.vars, .slice A7 n7 c7, .slice A5 (ni + 1) c5, .slice Ar nr cr], .bool true], by simp [results, Tryz.results25, go_sem, g0, g1, g2, g3, g4], .slice A7 n7 c7, .slice A5 (ni + 1) c5, .slice Ar nr cr, by rw [HC.out], ow _, bG _⟩

end Go.Proofs.YtpmpjiigmjnniaaGreat

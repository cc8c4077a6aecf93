/-
  Pieces of the drawing of statements.
  Pieces of the drawing of statements.
  Pieces of the drawing of statements.
  Pieces of the drawing of statements.
  Pieces of the drawing of statements.
-/
import Derived.Test.YtfdijeeilfhjeaaPkD
import Derived.Deep.DeepCutAuto
import Derived.Deep.CutBlock
import Derived.Deep.LoopGhost
import Derived.Deep.RegionLaw
import Derived.Deep.RegionHeld3
import Derived.StillTailTactics
namespace Go.Proofs.Ytfdijeeilfhjeaa
open Go.RowKit Exs

/-- A piece of a code. -/
def findC (p : Code → Bool) : Code → Option Code
  | .seq a b => match findC p a with
    | some c => some c
    | none => findC p b
  | .block n c => bif p (.block n c) then some (.block n c) else findC p c
  | .cond t a b => bif p (.cond t a b) then some (.cond t a b) else match findC p a with
    | some c => some c
    | none => findC p b
  | .loop c => findC p c
  | .scope c => findC p c
  | c => bif p c then some c else none
def isRegion (n : Nat) : Code → Bool
  | .region m _ _ => m == n
  | _ => false
def isBlock (n : Nat) : Code → Bool
  | .block m _ => m == n
  | _ => false
def isCond (n : Nat) : Code → Bool
  | .cond (.tmp m) _ _ => m == n
  | _ => false
noncomputable def pieceOf (p : Code → Bool) : Code := (Try.f127.body.bind (findC p)).getD .skip

set_option maxHeartbeats 8000000 in
set_option maxRecDepth 100000 in
theorem seg26 {F : Fix} (OK : Hid F.Ok) {Tr : Nat} {Asv : Option Addr} {csv : Nat} {ds : List C5} {bv7 : Value} {xs : List Int} {gs : Nat} {k3 n2 : Int} {A1 : Option Addr} {n1 e1 : Nat} {w7 : World} {K : Act → World → Prop} {Q : Exit → Act → World → Prop} {sl0 sl2 sl3 sl4 sl5 sl6 sl7 sl8 sl9 sl10 sl11 sl12 sl13 sl15 sl16 sl17 sl18 sl19 sl20 sl21 sl22 sl23 sl24 sl25 sl26 sl27 sl28 sl29 sl30 sl31 sl32 sl33 sl34 sl35 sl36 sl37 sl38 sl39 sl40 sl41 sl42 sl43 sl44 sl45 sl46 sl47 sl48 sl49 sl50 sl51 sl52 sl53 sl54 sl55 sl56 sl57 sl58 sl59 sl60 sl61 sl62 sl63 sl64 sl65 sl66 sl67 sl68 sl69 sl70 sl71 sl72 sl73 sl74 sl75 sl76 sl77 sl78 sl79 sl80 sl81 sl82 sl83 sl84 sl85 sl86 sl87 sl88 sl89 sl90 sl91 sl92 sl93 sl94 sl95 sl96 sl97 sl98 sl99 sl100 sl101 sl102 sl103 sl104 sl105 sl106 sl107 sl108 sl109 sl110 sl111 sl112 sl113 sl114 sl115 sl116 sl117 sl118 sl119 sl120 sl121 sl122 sl123 sl124 sl125 sl126 sl127 sl128 sl129 sl130 sl131 sl132 sl133 sl134 sl135 sl136 sl137 sl138 sl139 sl140 sl141 sl142 sl143 sl144 sl145 sl146 sl147 sl148 sl149 sl150 sl151 sl152 sl153 sl154 sl155 sl156 sl157 sl158 sl159 sl160 sl161 sl162 sl163 sl164 sl165 sl166 sl167 sl168 sl169 sl170 sl171 sl172 sl173 sl174 sl175 sl176 sl177 sl178 sl179 sl180 sl181 sl182 sl183 sl184 sl185 sl186 sl187 sl188 sl189 sl190 sl191 sl192 sl193 sl194 sl195 sl196 sl197 sl198 sl199 sl200 sl201 sl202 sl203 sl204 sl205 sl206 sl207 sl208 sl209 : Value}
    (hm7 : Mid F w7 Tr (.slice Asv ds.length csv) ds bv7 xs gs ⟨k3, n2, .slice A1 n1 e1, .slice none 0 0, .slice none 0 0⟩) (hds12 : ds.length ≤ 12)
    (HK : Hid (∀ (u161 u162 u163 u164 u165 u166 u167 u168 u169 u170 sv8 : Value) (w8 : World), Mid F w8 Tr sv8 (ds ++ [⟨k3, n2, .slice A1 n1 e1, .slice none 0 0, .slice none 0 0⟩]) bv7 xs gs ⟨k3, n2, .slice A1 n1 e1, .slice none 0 0, .slice none 0 0⟩ → K ⟨#[sl0, .pointer (some ⟨F.gf, 0, none⟩), sl2, sl3, sl4, sl5, sl6, sl7, sl8, sl9, sl10, sl11, sl12, sl13, .pointer (some ⟨gs, 0, none⟩), sl15, sl16, sl17, sl18, sl19, sl20, sl21, sl22, sl23, sl24, sl25, sl26, sl27, sl28, sl29, sl30, sl31, sl32, sl33, sl34, sl35, sl36, sl37, sl38, sl39, sl40, sl41, sl42, sl43, sl44, sl45, sl46, sl47, sl48, sl49, sl50, sl51, sl52, sl53, sl54, sl55, sl56, sl57, sl58, sl59, sl60, sl61, sl62, sl63, sl64, sl65, sl66, sl67, sl68, sl69, sl70, sl71, sl72, sl73, sl74, sl75, sl76, sl77, sl78, sl79, sl80, sl81, sl82, sl83, sl84, sl85, sl86, sl87, sl88, sl89, sl90, sl91, sl92, sl93, sl94, sl95, sl96, sl97, sl98, sl99, sl100, sl101, sl102, sl103, sl104, sl105, sl106, sl107, sl108, sl109, sl110, sl111, sl112, sl113, sl114, sl115, sl116, sl117, sl118, sl119, sl120, sl121, sl122, sl123, sl124, sl125, sl126, sl127, sl128, sl129, sl130, sl131, sl132, sl133, sl134, sl135, sl136, sl137, sl138, sl139, sl140, sl141, sl142, sl143, sl144, sl145, sl146, sl147, sl148, sl149, sl150, sl151, sl152, sl153, sl154, sl155, sl156, sl157, sl158, sl159, sl160, u161, u162, u163, u164, u165, u166, u167, u168, u169, u170, sl171, sl172, sl173, sl174, sl175, sl176, sl177, sl178, sl179, sl180, sl181, sl182, sl183, sl184, sl185, sl186, sl187, sl188, sl189, sl190, sl191, sl192, sl193, sl194, sl195, sl196, sl197, sl198, sl199, sl200, sl201, sl202, sl203, sl204, sl205, sl206, sl207, sl208, sl209], []⟩ w8)) :
    Code.wp Try.prog (pieceOf (isRegion 26)) (Exit.then K Q) ⟨#[sl0, .pointer (some ⟨F.gf, 0, none⟩), sl2, sl3, sl4, sl5, sl6, sl7, sl8, sl9, sl10, sl11, sl12, sl13, .pointer (some ⟨gs, 0, none⟩), sl15, sl16, sl17, sl18, sl19, sl20, sl21, sl22, sl23, sl24, sl25, sl26, sl27, sl28, sl29, sl30, sl31, sl32, sl33, sl34, sl35, sl36, sl37, sl38, sl39, sl40, sl41, sl42, sl43, sl44, sl45, sl46, sl47, sl48, sl49, sl50, sl51, sl52, sl53, sl54, sl55, sl56, sl57, sl58, sl59, sl60, sl61, sl62, sl63, sl64, sl65, sl66, sl67, sl68, sl69, sl70, sl71, sl72, sl73, sl74, sl75, sl76, sl77, sl78, sl79, sl80, sl81, sl82, sl83, sl84, sl85, sl86, sl87, sl88, sl89, sl90, sl91, sl92, sl93, sl94, sl95, sl96, sl97, sl98, sl99, sl100, sl101, sl102, sl103, sl104, sl105, sl106, sl107, sl108, sl109, sl110, sl111, sl112, sl113, sl114, sl115, sl116, sl117, sl118, sl119, sl120, sl121, sl122, sl123, sl124, sl125, sl126, sl127, sl128, sl129, sl130, sl131, sl132, sl133, sl134, sl135, sl136, sl137, sl138, sl139, sl140, sl141, sl142, sl143, sl144, sl145, sl146, sl147, sl148, sl149, sl150, sl151, sl152, sl153, sl154, sl155, sl156, sl157, sl158, sl159, sl160, sl161, sl162, sl163, sl164, sl165, sl166, sl167, sl168, sl169, sl170, sl171, sl172, sl173, sl174, sl175, sl176, sl177, sl178, sl179, sl180, sl181, sl182, sl183, sl184, sl185, sl186, sl187, sl188, sl189, sl190, sl191, sl192, sl193, sl194, sl195, sl196, sl197, sl198, sl199, sl200, sl201, sl202, sl203, sl204, sl205, sl206, sl207, sl208, sl209], []⟩ w7 := by
  have hmD := hm7.below ((Below.refl _ w7).drew)
  have hmA := hmD.alloc (.cells #[.int .i64 k3, .int .i64 n2, .slice A1 n1 e1, .slice none 0 0, .slice none 0 0] 106)
  have y3 := hm7.out.box.cell 3
  have z0 := hm7.s.cell 0
  have z1 := hm7.s.cell 1
  have z2 := hm7.s.cell 2
  have z3 := hm7.s.cell 3
  have z4 := hm7.s.cell 4
  simp at y3 z0 z1 z2 z3 z4
  have hgf7 := hm7.out.box.lt
  have hgs7 := hm7.s.lt
  have hB7 : F.B ≤ w7.heap.size := Nat.le_trans OK.out.hB hm7.out.kept.size
  have KA := Keep.new w7.drew #[.int .i64 k3, .int .i64 n2, .slice A1 n1 e1, .slice none 0 0, .slice none 0 0] 106
  conv => arg 2; whnf
  refine wp_region_noPanic ?_
  refine wp_region_any (by kernel_rfl) ?_
  change wpAny _ _ _ _ _ _ _ (World.drew _)
  refine wpAny_take (i := 0) (oi := ⟨some 161, .move (.tmp 1), 135, "l3_prog.go:218", #[], none⟩) (v := .pointer (some ⟨F.gf, 0, none⟩)) rfl (by kernel_rfl) (by kernel_rfl) (by kernel_rfl) (fun _ _ _ h => h) (Or.inl ⟨by rfl, by intro w; go_simp⟩) ?_
  (try simp only [Act.put, List.setIfInBounds_toArray, List.set_cons_zero, List.set_cons_succ])
  refine wpAny_take (i := 1) (oi := ⟨some 162, .move (.tmp 1), 135, "l3_prog.go:218", #[], none⟩) (v := .pointer (some ⟨F.gf, 0, none⟩)) rfl (by kernel_rfl) (by kernel_rfl) (by kernel_rfl) (fun _ _ _ h => h) (Or.inl ⟨by rfl, by intro w; go_simp⟩) ?_
  (try simp only [Act.put, List.setIfInBounds_toArray, List.set_cons_zero, List.set_cons_succ])
  refine wpAny_take (i := 2) (oi := ⟨some 163, .nilCheck (.tmp 162), 0, "l3_prog.go:218", #[⟨1, .data⟩], none⟩) (v := .pointer (some ⟨F.gf, 0, none⟩)) rfl (by kernel_rfl) (by kernel_rfl) (by kernel_rfl) (fun _ _ _ h => h) (Or.inl ⟨by rfl, by intro w; go_simp⟩) ?_
  (try simp only [Act.put, List.setIfInBounds_toArray, List.set_cons_zero, List.set_cons_succ])
  refine wpAny_take (i := 3) (oi := ⟨some 164, .fieldAddr 58 (.tmp 163) 3, 0, "l3_prog.go:218", #[⟨2, .data⟩], none⟩) (v := .pointer (some ⟨F.gf, 3, none⟩)) rfl (by kernel_rfl) (by kernel_rfl) (by kernel_rfl) (fun _ _ _ h => h) (Or.inl ⟨by rfl, by intro w; go_simp⟩) ?_
  (try simp only [Act.put, List.setIfInBounds_toArray, List.set_cons_zero, List.set_cons_succ])
  refine wpAny_ready (rs := [4, 5]) (by kernel_rfl) (by simp) ?_
  refine AllReady.cons (o := ⟨some 165, .load 56 (.tmp 164), 56, "l3_prog.go:218", #[⟨3, .data⟩], none⟩) rfl (fun K hK => ?_) (AllReady.cons (o := ⟨some 166, .load 106 (.tmp 14), 106, "l3_prog.go:218", #[], none⟩) rfl (fun K hK => ?_) AllReady.nil)
  · go_simp
    refine hK _ _ ?_
    clear hK K
    (try simp only [Act.put, List.setIfInBounds_toArray, List.set_cons_zero, List.set_cons_succ])
    refine wpAny_ready (rs := [5]) (by kernel_rfl) (by simp) ?_
    refine AllReady.cons (o := ⟨some 166, .load 106 (.tmp 14), 106, "l3_prog.go:218", #[], none⟩) rfl (fun K hK => ?_) AllReady.nil
    go_simp
    refine hK _ _ ?_
    clear hK K
    (try simp only [Act.put, List.setIfInBounds_toArray, List.set_cons_zero, List.set_cons_succ])
    refine wpAny_ready (rs := [6]) (by kernel_rfl) (by simp) ?_
    refine AllReady.cons (o := ⟨some 167, .buildSlice 56 1 #[(0, .tmp 166)], 56, "l3_prog.go:218", #[⟨5, .data⟩], none⟩) rfl (fun K hK => ?_) AllReady.nil
    go_simp
    refine hK _ _ ?_
    clear hK K
    (try simp only [Act.put, List.setIfInBounds_toArray, List.set_cons_zero, List.set_cons_succ])
    refine wpAny_ready (rs := [7]) (by kernel_rfl) (by simp) ?_
    refine AllReady.cons (o := ⟨some 168, .call { callee := .builtin .append, args := #[.tmp 165, .tmp 167], argTypes := #[56, 56] }, 56, "l3_prog.go:218", #[⟨4, .data⟩, ⟨6, .data⟩], none⟩) rfl (fun K hK => ?_) AllReady.nil
    refine step_append_stmt rfl (.tmp 165) (.tmp 167) rfl F.B (.slice Asv ds.length csv) ds (by simp [Act.eval]) hmA.out.sts (by simp; omega) w7.heap.size ⟨k3, n2, .slice A1 n1 e1, .slice none 0 0, .slice none 0 0⟩ (by simp [Act.eval]) KA hmA.leads (by omega) ?_
    intro v8 w8 hs8 hg8 hat8
    have kb8 : Keep w8 F.gf #[.int .i64 F.pr, .int .i64 F.vs, .slice none 0 0, (.slice Asv ds.length csv)] 58 := (KeptX.of_grownBy hg8 (fun k e => e.symm) : KeptX (fun k => some k = (Value.ownBlock (.slice Asv ds.length csv))) _ w8).keep hmA.out.box (fun e => (hm7.out.rowNe e.symm).2 rfl)
    have y38 := kb8.cell 3
    have f38 := kb8.frozen 3
    simp at y38
    have hm9 := put (hmD.appended OK.out hs8 hg8 (by simpa using hat8))
    obtain ⟨A8, m8, c8, hv8⟩ : ∃ A8 m8 c8, v8 = .slice A8 m8 c8 := by obtain ⟨A, c, h⟩ := hs8.slice; exact ⟨A, _, c, h⟩
    subst hv8
    clear hs8 hg8 hat8 kb8
    refine hK _ _ ?_
    clear hK K
    (try simp only [Act.put, List.setIfInBounds_toArray, List.set_cons_zero, List.set_cons_succ])
    refine wpAny_ready (rs := [8]) (by kernel_rfl) (by simp) ?_
    refine AllReady.cons (o := ⟨some 169, .nilCheck (.tmp 161), 0, "l3_prog.go:218", #[⟨0, .data⟩, ⟨0, .phase⟩, ⟨1, .phase⟩, ⟨2, .phase⟩, ⟨3, .phase⟩, ⟨4, .phase⟩, ⟨5, .phase⟩, ⟨6, .phase⟩, ⟨7, .phase⟩], none⟩) rfl (fun K hK => ?_) AllReady.nil
    go_simp
    refine hK _ _ ?_
    clear hK K
    (try simp only [Act.put, List.setIfInBounds_toArray, List.set_cons_zero, List.set_cons_succ])
    refine wpAny_ready (rs := [9]) (by kernel_rfl) (by simp) ?_
    refine AllReady.cons (o := ⟨some 170, .fieldAddr 58 (.tmp 169) 3, 0, "l3_prog.go:218", #[⟨8, .data⟩, ⟨0, .phase⟩, ⟨1, .phase⟩, ⟨2, .phase⟩, ⟨3, .phase⟩, ⟨4, .phase⟩, ⟨5, .phase⟩, ⟨6, .phase⟩, ⟨7, .phase⟩], none⟩) rfl (fun K hK => ?_) AllReady.nil
    go_simp
    refine hK _ _ ?_
    clear hK K
    (try simp only [Act.put, List.setIfInBounds_toArray, List.set_cons_zero, List.set_cons_succ])
    refine wpAny_ready (rs := [10]) (by kernel_rfl) (by simp) ?_
    refine AllReady.cons (o := ⟨none, .store 56 (.tmp 170) (.tmp 168), 0, "l3_prog.go:218", #[⟨9, .data⟩, ⟨7, .data⟩, ⟨7, .chain⟩, ⟨0, .phase⟩, ⟨1, .phase⟩, ⟨2, .phase⟩, ⟨3, .phase⟩, ⟨4, .phase⟩, ⟨5, .phase⟩, ⟨6, .phase⟩, ⟨7, .phase⟩], none⟩) rfl (fun K hK => ?_) AllReady.nil
    go_simp
    refine hK _ _ ?_
    clear hK K
    (try simp only [Act.put, List.setIfInBounds_toArray, List.set_cons_zero, List.set_cons_succ])
    refine wpAny_done (by kernel_rfl) ?_ _
    refine NoPanic.normal ?_
    exact HK.out _ _ _ _ _ _ _ _ _ _ _ _ hm9.out
  · go_simp
    refine hK _ _ ?_
    clear hK K
    (try simp only [Act.put, List.setIfInBounds_toArray, List.set_cons_zero, List.set_cons_succ])
    refine wpAny_ready (rs := [4, 6]) (by kernel_rfl) (by simp) ?_
    refine AllReady.cons (o := ⟨some 165, .load 56 (.tmp 164), 56, "l3_prog.go:218", #[⟨3, .data⟩], none⟩) rfl (fun K hK => ?_) (AllReady.cons (o := ⟨some 167, .buildSlice 56 1 #[(0, .tmp 166)], 56, "l3_prog.go:218", #[⟨5, .data⟩], none⟩) rfl (fun K hK => ?_) AllReady.nil)
    · go_simp
      refine hK _ _ ?_
      clear hK K
      (try simp only [Act.put, List.setIfInBounds_toArray, List.set_cons_zero, List.set_cons_succ])
      refine wpAny_ready (rs := [6]) (by kernel_rfl) (by simp) ?_
      refine AllReady.cons (o := ⟨some 167, .buildSlice 56 1 #[(0, .tmp 166)], 56, "l3_prog.go:218", #[⟨5, .data⟩], none⟩) rfl (fun K hK => ?_) AllReady.nil
      go_simp
      refine hK _ _ ?_
      clear hK K
      (try simp only [Act.put, List.setIfInBounds_toArray, List.set_cons_zero, List.set_cons_succ])
      refine wpAny_ready (rs := [7]) (by kernel_rfl) (by simp) ?_
      refine AllReady.cons (o := ⟨some 168, .call { callee := .builtin .append, args := #[.tmp 165, .tmp 167], argTypes := #[56, 56] }, 56, "l3_prog.go:218", #[⟨4, .data⟩, ⟨6, .data⟩], none⟩) rfl (fun K hK => ?_) AllReady.nil
      refine step_append_stmt rfl (.tmp 165) (.tmp 167) rfl F.B (.slice Asv ds.length csv) ds (by simp [Act.eval]) hmA.out.sts (by simp; omega) w7.heap.size ⟨k3, n2, .slice A1 n1 e1, .slice none 0 0, .slice none 0 0⟩ (by simp [Act.eval]) KA hmA.leads (by omega) ?_
      intro v8 w8 hs8 hg8 hat8
      have kb8 : Keep w8 F.gf #[.int .i64 F.pr, .int .i64 F.vs, .slice none 0 0, (.slice Asv ds.length csv)] 58 := (KeptX.of_grownBy hg8 (fun k e => e.symm) : KeptX (fun k => some k = (Value.ownBlock (.slice Asv ds.length csv))) _ w8).keep hmA.out.box (fun e => (hm7.out.rowNe e.symm).2 rfl)
      have y38 := kb8.cell 3
      have f38 := kb8.frozen 3
      simp at y38
      have hm9 := put (hmD.appended OK.out hs8 hg8 (by simpa using hat8))
      obtain ⟨A8, m8, c8, hv8⟩ : ∃ A8 m8 c8, v8 = .slice A8 m8 c8 := by obtain ⟨A, c, h⟩ := hs8.slice; exact ⟨A, _, c, h⟩
      subst hv8
      clear hs8 hg8 hat8 kb8
      refine hK _ _ ?_
      clear hK K
      (try simp only [Act.put, List.setIfInBounds_toArray, List.set_cons_zero, List.set_cons_succ])
      refine wpAny_ready (rs := [8]) (by kernel_rfl) (by simp) ?_
      refine AllReady.cons (o := ⟨some 169, .nilCheck (.tmp 161), 0, "l3_prog.go:218", #[⟨0, .data⟩, ⟨0, .phase⟩, ⟨1, .phase⟩, ⟨2, .phase⟩, ⟨3, .phase⟩, ⟨4, .phase⟩, ⟨5, .phase⟩, ⟨6, .phase⟩, ⟨7, .phase⟩], none⟩) rfl (fun K hK => ?_) AllReady.nil
      go_simp
      refine hK _ _ ?_
      clear hK K
      (try simp only [Act.put, List.setIfInBounds_toArray, List.set_cons_zero, List.set_cons_succ])
      refine wpAny_ready (rs := [9]) (by kernel_rfl) (by simp) ?_
      refine AllReady.cons (o := ⟨some 170, .fieldAddr 58 (.tmp 169) 3, 0, "l3_prog.go:218", #[⟨8, .data⟩, ⟨0, .phase⟩, ⟨1, .phase⟩, ⟨2, .phase⟩, ⟨3, .phase⟩, ⟨4, .phase⟩, ⟨5, .phase⟩, ⟨6, .phase⟩, ⟨7, .phase⟩], none⟩) rfl (fun K hK => ?_) AllReady.nil
      go_simp
      refine hK _ _ ?_
      clear hK K
      (try simp only [Act.put, List.setIfInBounds_toArray, List.set_cons_zero, List.set_cons_succ])
      refine wpAny_ready (rs := [10]) (by kernel_rfl) (by simp) ?_
      refine AllReady.cons (o := ⟨none, .store 56 (.tmp 170) (.tmp 168), 0, "l3_prog.go:218", #[⟨9, .data⟩, ⟨7, .data⟩, ⟨7, .chain⟩, ⟨0, .phase⟩, ⟨1, .phase⟩, ⟨2, .phase⟩, ⟨3, .phase⟩, ⟨4, .phase⟩, ⟨5, .phase⟩, ⟨6, .phase⟩, ⟨7, .phase⟩], none⟩) rfl (fun K hK => ?_) AllReady.nil
      go_simp
      refine hK _ _ ?_
      clear hK K
      (try simp only [Act.put, List.setIfInBounds_toArray, List.set_cons_zero, List.set_cons_succ])
      refine wpAny_done (by kernel_rfl) ?_ _
      refine NoPanic.normal ?_
      exact HK.out _ _ _ _ _ _ _ _ _ _ _ _ hm9.out
    · go_simp
      refine hK _ _ ?_
      clear hK K
      (try simp only [Act.put, List.setIfInBounds_toArray, List.set_cons_zero, List.set_cons_succ])
      refine wpAny_ready (rs := [4]) (by kernel_rfl) (by simp) ?_
      refine AllReady.cons (o := ⟨some 165, .load 56 (.tmp 164), 56, "l3_prog.go:218", #[⟨3, .data⟩], none⟩) rfl (fun K hK => ?_) AllReady.nil
      go_simp
      refine hK _ _ ?_
      clear hK K
      (try simp only [Act.put, List.setIfInBounds_toArray, List.set_cons_zero, List.set_cons_succ])
      refine wpAny_ready (rs := [7]) (by kernel_rfl) (by simp) ?_
      refine AllReady.cons (o := ⟨some 168, .call { callee := .builtin .append, args := #[.tmp 165, .tmp 167], argTypes := #[56, 56] }, 56, "l3_prog.go:218", #[⟨4, .data⟩, ⟨6, .data⟩], none⟩) rfl (fun K hK => ?_) AllReady.nil
      refine step_append_stmt rfl (.tmp 165) (.tmp 167) rfl F.B (.slice Asv ds.length csv) ds (by simp [Act.eval]) hmA.out.sts (by simp; omega) w7.heap.size ⟨k3, n2, .slice A1 n1 e1, .slice none 0 0, .slice none 0 0⟩ (by simp [Act.eval]) KA hmA.leads (by omega) ?_
      intro v8 w8 hs8 hg8 hat8
      have kb8 : Keep w8 F.gf #[.int .i64 F.pr, .int .i64 F.vs, .slice none 0 0, (.slice Asv ds.length csv)] 58 := (KeptX.of_grownBy hg8 (fun k e => e.symm) : KeptX (fun k => some k = (Value.ownBlock (.slice Asv ds.length csv))) _ w8).keep hmA.out.box (fun e => (hm7.out.rowNe e.symm).2 rfl)
      have y38 := kb8.cell 3
      have f38 := kb8.frozen 3
      simp at y38
      have hm9 := put (hmD.appended OK.out hs8 hg8 (by simpa using hat8))
      obtain ⟨A8, m8, c8, hv8⟩ : ∃ A8 m8 c8, v8 = .slice A8 m8 c8 := by obtain ⟨A, c, h⟩ := hs8.slice; exact ⟨A, _, c, h⟩
      subst hv8
      clear hs8 hg8 hat8 kb8
      refine hK _ _ ?_
      clear hK K
      (try simp only [Act.put, List.setIfInBounds_toArray, List.set_cons_zero, List.set_cons_succ])
      refine wpAny_ready (rs := [8]) (by kernel_rfl) (by simp) ?_
      refine AllReady.cons (o := ⟨some 169, .nilCheck (.tmp 161), 0, "l3_prog.go:218", #[⟨0, .data⟩, ⟨0, .phase⟩, ⟨1, .phase⟩, ⟨2, .phase⟩, ⟨3, .phase⟩, ⟨4, .phase⟩, ⟨5, .phase⟩, ⟨6, .phase⟩, ⟨7, .phase⟩], none⟩) rfl (fun K hK => ?_) AllReady.nil
      go_simp
      refine hK _ _ ?_
      clear hK K
      (try simp only [Act.put, List.setIfInBounds_toArray, List.set_cons_zero, List.set_cons_succ])
      refine wpAny_ready (rs := [9]) (by kernel_rfl) (by simp) ?_
      refine AllReady.cons (o := ⟨some 170, .fieldAddr 58 (.tmp 169) 3, 0, "l3_prog.go:218", #[⟨8, .data⟩, ⟨0, .phase⟩, ⟨1, .phase⟩, ⟨2, .phase⟩, ⟨3, .phase⟩, ⟨4, .phase⟩, ⟨5, .phase⟩, ⟨6, .phase⟩, ⟨7, .phase⟩], none⟩) rfl (fun K hK => ?_) AllReady.nil
      go_simp
      refine hK _ _ ?_
      clear hK K
      (try simp only [Act.put, List.setIfInBounds_toArray, List.set_cons_zero, List.set_cons_succ])
      refine wpAny_ready (rs := [10]) (by kernel_rfl) (by simp) ?_
      refine AllReady.cons (o := ⟨none, .store 56 (.tmp 170) (.tmp 168), 0, "l3_prog.go:218", #[⟨9, .data⟩, ⟨7, .data⟩, ⟨7, .chain⟩, ⟨0, .phase⟩, ⟨1, .phase⟩, ⟨2, .phase⟩, ⟨3, .phase⟩, ⟨4, .phase⟩, ⟨5, .phase⟩, ⟨6, .phase⟩, ⟨7, .phase⟩], none⟩) rfl (fun K hK => ?_) AllReady.nil
      go_simp
      refine hK _ _ ?_
      clear hK K
      (try simp only [Act.put, List.setIfInBounds_toArray, List.set_cons_zero, List.set_cons_succ])
      refine wpAny_done (by kernel_rfl) ?_ _
      refine NoPanic.normal ?_
      exact HK.out _ _ _ _ _ _ _ _ _ _ _ _ hm9.out

end Go.Proofs.Ytfdijeeilfhjeaa
namespace Go.Proofs.Ytfdijeeilfhjeaa
open Go.RowKit Exs

set_option maxHeartbeats 8000000 in
set_option maxRecDepth 100000 in
theorem seg122 {d : Nat} {y : Int} {F : Fix} {T : Nat} {cs : List C5} (HN : Hid (d ≤ 2 ∧ 300 ≤ stp d ∧ stp d ≤ 13040 ∧ T + cost d ≤ 700000 ∧ cost d = 10 + 3 * stp d ∧ cs.length ≤ 12 ∧ y = d ∧ 0 ≤ F.vs ∧ F.vs ≤ 6)) (OK : Hid F.Ok) {m0 gn Tr : Nat} (HT1 : Hid (Tr + stp d ≤ T + 2 + (m0 - (gn - 1)) * stp d ∧ Tr + stp d ≤ T + cost d)) {Asv : Option Addr} {csv : Nat} {ds : List C5} {u11 : Value} {xs : List Int} {gs : Nat} {k3 : Int} {Bf : Nat} {Af : Option Addr} {cf : Nat} {fs : List Int} {b122 : Bool} {wc : World} {K : Act → World → Prop} {Q : Exit → Act → World → Prop} {sl3 sl4 sl5 sl6 sl7 sl8 sl9 sl10 sl11 sl12 sl13 sl15 sl16 sl17 sl18 sl19 sl20 sl21 sl22 sl23 sl24 sl25 sl26 sl27 sl28 sl29 sl30 sl31 sl32 sl33 sl34 sl35 sl36 sl37 sl38 sl39 sl40 sl41 sl42 sl43 sl44 sl45 sl46 sl47 sl48 sl49 sl50 sl51 sl52 sl53 sl54 sl55 sl56 sl57 sl58 sl59 sl60 sl61 sl62 sl63 sl64 sl65 sl66 sl67 sl68 sl69 sl70 sl71 sl72 sl73 sl74 sl75 sl76 sl77 sl78 sl79 sl80 sl81 sl82 sl83 sl84 sl85 sl86 sl87 sl88 sl89 sl90 sl91 sl92 sl93 sl94 sl95 sl96 sl97 sl98 sl99 sl100 sl101 sl102 sl103 sl104 sl105 sl106 sl107 sl108 sl109 sl110 sl111 sl112 sl113 sl114 sl115 sl116 sl117 sl118 sl119 sl120 sl121 sl123 sl124 sl125 sl126 sl127 sl128 sl129 sl130 sl131 sl132 sl133 sl134 sl135 sl136 sl137 sl138 sl139 sl140 sl141 sl142 sl143 sl144 sl145 sl146 sl147 sl148 sl149 sl150 sl151 sl152 sl153 sl154 sl155 sl156 sl157 sl158 sl159 sl160 sl161 sl162 sl163 sl164 sl165 sl166 sl167 sl168 sl169 sl170 sl171 sl172 sl173 sl174 sl175 sl176 sl177 sl178 sl179 sl180 sl181 sl182 sl183 sl184 sl185 sl186 sl187 sl188 sl189 sl190 sl191 sl192 sl193 sl194 sl195 sl196 sl197 sl198 sl199 sl200 sl201 sl202 sl203 sl204 sl205 sl206 sl207 sl208 sl209 : Value}
    (hmid4 : Mid F wc (Tr + 4) (.slice Asv ds.length csv) ds u11 xs gs ⟨k3, 0, .slice none 0 0, .slice none 0 0, .slice none 0 0⟩) (hfs : Nums wc Bf 3 .i64 (.slice Af fs.length cf) fs) (hbz4 : Bf ≤ wc.heap.size)
    (HK : Hid (∀ (u123 u124 u125 u126 u127 u128 u129 u130 u131 u132 u133 u134 u135 : Value) (v1 : Value) (wx : World), Mid F wx (Tr + 210) (.slice Asv ds.length csv) ds u11 xs gs ⟨k3, 0, v1, .slice none 0 0, .slice none 0 0⟩ → Nums wx Bf 3 .i64 (.slice Af fs.length cf) fs → Bf ≤ wx.heap.size → K ⟨#[.pointer (some ⟨F.gc, 0, none⟩), .pointer (some ⟨F.gf, 0, none⟩), .slice (some ⟨F.p, 0, none⟩) F.np F.cp, sl3, sl4, sl5, sl6, sl7, sl8, sl9, sl10, sl11, sl12, sl13, .pointer (some ⟨gs, 0, none⟩), sl15, sl16, sl17, sl18, sl19, sl20, sl21, sl22, sl23, sl24, sl25, sl26, sl27, sl28, sl29, sl30, sl31, sl32, sl33, sl34, sl35, sl36, sl37, sl38, sl39, sl40, sl41, sl42, sl43, sl44, sl45, sl46, sl47, sl48, sl49, sl50, sl51, sl52, sl53, sl54, sl55, sl56, sl57, sl58, sl59, sl60, sl61, sl62, sl63, sl64, sl65, sl66, sl67, sl68, sl69, sl70, sl71, sl72, sl73, sl74, sl75, sl76, sl77, sl78, sl79, sl80, sl81, sl82, sl83, sl84, sl85, sl86, sl87, sl88, sl89, sl90, sl91, sl92, sl93, sl94, sl95, sl96, sl97, sl98, sl99, sl100, sl101, sl102, sl103, sl104, sl105, sl106, sl107, sl108, sl109, sl110, sl111, sl112, sl113, sl114, sl115, sl116, sl117, sl118, sl119, sl120, sl121, .bool b122, u123, u124, u125, u126, u127, u128, u129, u130, u131, u132, u133, u134, u135, sl136, sl137, sl138, sl139, sl140, sl141, sl142, sl143, sl144, sl145, sl146, sl147, sl148, sl149, sl150, sl151, sl152, sl153, sl154, sl155, sl156, sl157, sl158, sl159, sl160, sl161, sl162, sl163, sl164, sl165, sl166, sl167, sl168, sl169, sl170, sl171, sl172, sl173, sl174, sl175, sl176, sl177, sl178, sl179, sl180, sl181, sl182, sl183, sl184, sl185, sl186, sl187, sl188, sl189, sl190, sl191, sl192, sl193, sl194, sl195, sl196, sl197, sl198, sl199, sl200, sl201, sl202, sl203, sl204, sl205, sl206, sl207, sl208, sl209], []⟩ wx)) :
    Code.wp Try.prog (pieceOf (isCond 122)) (Exit.then K Q) ⟨#[.pointer (some ⟨F.gc, 0, none⟩), .pointer (some ⟨F.gf, 0, none⟩), .slice (some ⟨F.p, 0, none⟩) F.np F.cp, sl3, sl4, sl5, sl6, sl7, sl8, sl9, sl10, sl11, sl12, sl13, .pointer (some ⟨gs, 0, none⟩), sl15, sl16, sl17, sl18, sl19, sl20, sl21, sl22, sl23, sl24, sl25, sl26, sl27, sl28, sl29, sl30, sl31, sl32, sl33, sl34, sl35, sl36, sl37, sl38, sl39, sl40, sl41, sl42, sl43, sl44, sl45, sl46, sl47, sl48, sl49, sl50, sl51, sl52, sl53, sl54, sl55, sl56, sl57, sl58, sl59, sl60, sl61, sl62, sl63, sl64, sl65, sl66, sl67, sl68, sl69, sl70, sl71, sl72, sl73, sl74, sl75, sl76, sl77, sl78, sl79, sl80, sl81, sl82, sl83, sl84, sl85, sl86, sl87, sl88, sl89, sl90, sl91, sl92, sl93, sl94, sl95, sl96, sl97, sl98, sl99, sl100, sl101, sl102, sl103, sl104, sl105, sl106, sl107, sl108, sl109, sl110, sl111, sl112, sl113, sl114, sl115, sl116, sl117, sl118, sl119, sl120, sl121, .bool b122, sl123, sl124, sl125, sl126, sl127, sl128, sl129, sl130, sl131, sl132, sl133, sl134, sl135, sl136, sl137, sl138, sl139, sl140, sl141, sl142, sl143, sl144, sl145, sl146, sl147, sl148, sl149, sl150, sl151, sl152, sl153, sl154, sl155, sl156, sl157, sl158, sl159, sl160, sl161, sl162, sl163, sl164, sl165, sl166, sl167, sl168, sl169, sl170, sl171, sl172, sl173, sl174, sl175, sl176, sl177, sl178, sl179, sl180, sl181, sl182, sl183, sl184, sl185, sl186, sl187, sl188, sl189, sl190, sl191, sl192, sl193, sl194, sl195, sl196, sl197, sl198, sl199, sl200, sl201, sl202, sl203, sl204, sl205, sl206, sl207, sl208, sl209], []⟩ wc := by
  conv => arg 2; whnf
  cases b122 with
  | false =>
    go_wp2
    exact HK.out _ _ _ _ _ _ _ _ _ _ _ _ _ _ _ (hmid4.more (by omega)) (hfs) (hbz4)
  | true =>
    have y1 := hmid4.out.box.cell 1
    have z2 := hmid4.s.cell 2
    have f2 := hmid4.s.frozen 2
    simp at y1 z2
    have hmD := hmid4.below ((Below.refl _ wc).drew)
    have hgs0 := hmid4.s.lt
    go_wp2
    go_region_held3 (fun w' => w'.cell? ⟨F.gf, 1, none⟩ = some (.int .i64 F.vs)) (first | (with_reducible exact y1) | (with_reducible exact yA) | (with_reducible exact yB) | (with_reducible exact yE) | (with_reducible exact yS) | exact y1) (first
      | (go_at_call 69; refine (pick_any F.gc F.A F.n F.c _ 2 _ hmD.out.cur (by have := HN.out; have := HT1.out; omega) (by omega) (by omega)).mono ?_; rintro e wA ⟨qA, hA0, hA1, rfl, hcA, hgA⟩; have hmA := hmD.cursor OK.out hgA hcA; have yA := hmA.out.box.cell 1; have zA := hmA.s.cell 2; have fA := hmA.s.frozen 2; simp at yA zA)
      | (go_at_call 112; refine (one_any F.gc F.A F.n F.c _ 2 wA hmA.out.cur (by have := HN.out; have := HT1.out; omega) (by omega) (by omega)).mono ?_; rintro e wB ⟨bB, rfl, hcB, hgB⟩; have hmB := hmA.cursor OK.out hgB hcB; have yB := hmB.out.box.cell 1; have zB := hmB.s.cell 2; have fB := hmB.s.frozen 2; simp at yB zB; obtain ⟨dq, hdq⟩ : ∃ dq : Nat, 1 + qA = dq := ⟨(1 + qA).toNat, by omega⟩; have hdq2 : dq ≤ 2 := (by omega))
      | (go_at_call 134; refine (expr_any dq (IntKind.i64.wrap (dq : Int)) F.gc F.A F.n F.c _ bB F.p F.np F.cp F.ps F.vs wB (IntWalk.i64_in _ ⟨by omega, by omega⟩) (by omega) hmB.out.cur (by have := HN.out; have := HT1.out; omega) hmB.out.pars OK.out.hp (by have := HN.out; omega) (by have := HN.out; omega)).mono ?_; rintro e wE ⟨vE, ts, rfl, htE, hl1, hlm, hcE, hgE⟩; have hmE := hmB.cursor OK.out hgE hcE; have yE := hmE.out.box.cell 1; have zE := hmE.s.cell 2; have fE := hmE.s.frozen 2; simp at yE zE; obtain ⟨AE, cE, hvE, _⟩ := htE.reads; subst hvE; have hset := (hmE.more (show Tr + 4 + 2 + 2 + far dq ≤ Tr + 210 by have := far_two hdq2; omega)).set OK.out ⟨k3, 0, .slice AE ts.length cE, .slice none 0 0, .slice none 0 0⟩ 2 (.slice AE ts.length cE) rfl ⟨⟨ts, htE.base (Nat.le_trans OK.out.hB hmB.out.kept.size), by have := far_two hdq2; omega⟩, ⟨[], Nums.nil _ _ _ _, by simp⟩, [], Nums.nil _ _ _ _, by simp⟩ (fun k h => absurd h (noInt _ _ _ _)) (fun k _ => noInt _ _ _ _); have yS : (wE.setCell ⟨gs, 2, none⟩ (.slice AE ts.length cE)).cell? ⟨F.gf, 1, none⟩ = some (.int .i64 F.vs) := hset.out.box.cell 1))
    all_goals (
      have hfsE := ((Nums.cur (W := wc.drew) hfs hmD.out.cur hgA).cur hmA.out.cur hgB).cur hmB.out.cur hgE
      have hszE : Bf ≤ wE.heap.size := Nat.le_trans hbz4 (Nat.le_trans hgA.size (Nat.le_trans hgB.size hgE.size))
      have hfsF := put (hfsE.put70 hmE.s 2 (.slice AE ts.length cE))
      have HSET := put hset
      clear hset yS hfsE hmE hmB hmA hmD hcA hgA hcB hgB hcE hgE htE hdq
      go_wp2
      exact HK.out _ _ _ _ _ _ _ _ _ _ _ _ _ _ _ (HSET.out) (hfsF.out) (by simpa [World.setCell] using hszE))

end Go.Proofs.Ytfdijeeilfhjeaa
namespace Go.Proofs.Ytfdijeeilfhjeaa
open Go.RowKit Exs

set_option maxHeartbeats 8000000 in
set_option maxRecDepth 100000 in
theorem segB4 {d : Nat} {y : Int} {F : Fix} {T : Nat} {cs : List C5} (HN : Hid (d ≤ 2 ∧ 300 ≤ stp d ∧ stp d ≤ 13040 ∧ T + cost d ≤ 700000 ∧ cost d = 10 + 3 * stp d ∧ cs.length ≤ 12 ∧ y = d ∧ 0 ≤ F.vs ∧ F.vs ≤ 6)) (OK : Hid F.Ok) {m0 gn Tr : Nat} (HT1 : Hid (Tr + stp d ≤ T + 2 + (m0 - (gn - 1)) * stp d ∧ Tr + stp d ≤ T + cost d)) {Asv : Option Addr} {csv : Nat} {ds : List C5} {u11 : Value} {xs : List Int} {gs : Nat} {k3 : Int} {Bf : Nat} {Af : Option Addr} {cf : Nat} {fs : List Int} {v1 : Value} {wc : World} {K : Act → World → Prop} {Q : Exit → Act → World → Prop} {sl2 sl3 sl4 sl5 sl6 sl7 sl8 sl9 sl10 sl11 sl12 sl13 sl16 sl17 sl18 sl19 sl20 sl21 sl22 sl23 sl24 sl25 sl26 sl27 sl28 sl29 sl30 sl31 sl32 sl33 sl34 sl35 sl36 sl37 sl38 sl39 sl40 sl41 sl42 sl43 sl44 sl45 sl46 sl47 sl48 sl49 sl50 sl51 sl52 sl53 sl54 sl55 sl56 sl57 sl58 sl59 sl60 sl61 sl62 sl63 sl64 sl65 sl66 sl67 sl68 sl69 sl70 sl71 sl72 sl73 sl74 sl75 sl76 sl77 sl78 sl79 sl80 sl81 sl82 sl83 sl84 sl85 sl86 sl87 sl88 sl89 sl90 sl91 sl92 sl93 sl94 sl95 sl96 sl97 sl98 sl99 sl100 sl101 sl102 sl103 sl104 sl105 sl106 sl107 sl108 sl109 sl110 sl111 sl112 sl113 sl114 sl115 sl116 sl117 sl118 sl119 sl120 sl121 sl122 sl123 sl124 sl125 sl126 sl127 sl128 sl129 sl130 sl131 sl132 sl133 sl134 sl135 sl136 sl138 sl139 sl140 sl141 sl142 sl143 sl144 sl145 sl146 sl147 sl148 sl149 sl150 sl151 sl152 sl153 sl154 sl155 sl156 sl157 sl158 sl159 sl160 sl161 sl162 sl163 sl164 sl165 sl166 sl167 sl168 sl169 sl170 sl171 sl172 sl173 sl174 sl175 sl176 sl177 sl178 sl179 sl180 sl181 sl182 sl183 sl184 sl185 sl186 sl187 sl188 sl189 sl190 sl191 sl192 sl193 sl194 sl195 sl196 sl197 sl198 sl199 sl200 sl201 sl202 sl203 sl204 sl205 sl206 sl207 sl208 sl209 : Value}
    (hmid5 : Mid F wc (Tr + 210) (.slice Asv ds.length csv) ds u11 xs gs ⟨k3, 0, v1, .slice none 0 0, .slice none 0 0⟩) (hfs5 : Nums wc Bf 3 .i64 (.slice Af fs.length cf) fs) (hfl2 : 1 ≤ fs.length ∧ fs.length ≤ 5)
    (HK : Hid (∀ (u138 u139 u140 u141 u142 u143 u144 u145 u146 u147 u148 u149 u150 u151 u152 u153 u154 u155 u156 : Value) (n2 : Int) (wx : World), Mid F wx (Tr + 212) (.slice Asv ds.length csv) ds u11 xs gs ⟨k3, n2, v1, .slice none 0 0, .slice none 0 0⟩ → K ⟨#[.pointer (some ⟨F.gc, 0, none⟩), .pointer (some ⟨F.gf, 0, none⟩), sl2, sl3, sl4, sl5, sl6, sl7, sl8, sl9, sl10, sl11, sl12, sl13, .pointer (some ⟨gs, 0, none⟩), .slice Af fs.length cf, sl16, sl17, sl18, sl19, sl20, sl21, sl22, sl23, sl24, sl25, sl26, sl27, sl28, sl29, sl30, sl31, sl32, sl33, sl34, sl35, sl36, sl37, sl38, sl39, sl40, sl41, sl42, sl43, sl44, sl45, sl46, sl47, sl48, sl49, sl50, sl51, sl52, sl53, sl54, sl55, sl56, sl57, sl58, sl59, sl60, sl61, sl62, sl63, sl64, sl65, sl66, sl67, sl68, sl69, sl70, sl71, sl72, sl73, sl74, sl75, sl76, sl77, sl78, sl79, sl80, sl81, sl82, sl83, sl84, sl85, sl86, sl87, sl88, sl89, sl90, sl91, sl92, sl93, sl94, sl95, sl96, sl97, sl98, sl99, sl100, sl101, sl102, sl103, sl104, sl105, sl106, sl107, sl108, sl109, sl110, sl111, sl112, sl113, sl114, sl115, sl116, sl117, sl118, sl119, sl120, sl121, sl122, sl123, sl124, sl125, sl126, sl127, sl128, sl129, sl130, sl131, sl132, sl133, sl134, sl135, sl136, .int .i64 k3, u138, u139, u140, u141, u142, u143, u144, u145, u146, u147, u148, u149, u150, u151, u152, u153, u154, u155, u156, sl157, sl158, sl159, sl160, sl161, sl162, sl163, sl164, sl165, sl166, sl167, sl168, sl169, sl170, sl171, sl172, sl173, sl174, sl175, sl176, sl177, sl178, sl179, sl180, sl181, sl182, sl183, sl184, sl185, sl186, sl187, sl188, sl189, sl190, sl191, sl192, sl193, sl194, sl195, sl196, sl197, sl198, sl199, sl200, sl201, sl202, sl203, sl204, sl205, sl206, sl207, sl208, sl209], []⟩ wx)) :
    Code.wp Try.prog (pieceOf (isBlock 4)) (Exit.then K Q) ⟨#[.pointer (some ⟨F.gc, 0, none⟩), .pointer (some ⟨F.gf, 0, none⟩), sl2, sl3, sl4, sl5, sl6, sl7, sl8, sl9, sl10, sl11, sl12, sl13, .pointer (some ⟨gs, 0, none⟩), .slice Af fs.length cf, sl16, sl17, sl18, sl19, sl20, sl21, sl22, sl23, sl24, sl25, sl26, sl27, sl28, sl29, sl30, sl31, sl32, sl33, sl34, sl35, sl36, sl37, sl38, sl39, sl40, sl41, sl42, sl43, sl44, sl45, sl46, sl47, sl48, sl49, sl50, sl51, sl52, sl53, sl54, sl55, sl56, sl57, sl58, sl59, sl60, sl61, sl62, sl63, sl64, sl65, sl66, sl67, sl68, sl69, sl70, sl71, sl72, sl73, sl74, sl75, sl76, sl77, sl78, sl79, sl80, sl81, sl82, sl83, sl84, sl85, sl86, sl87, sl88, sl89, sl90, sl91, sl92, sl93, sl94, sl95, sl96, sl97, sl98, sl99, sl100, sl101, sl102, sl103, sl104, sl105, sl106, sl107, sl108, sl109, sl110, sl111, sl112, sl113, sl114, sl115, sl116, sl117, sl118, sl119, sl120, sl121, sl122, sl123, sl124, sl125, sl126, sl127, sl128, sl129, sl130, sl131, sl132, sl133, sl134, sl135, sl136, .int .i64 k3, sl138, sl139, sl140, sl141, sl142, sl143, sl144, sl145, sl146, sl147, sl148, sl149, sl150, sl151, sl152, sl153, sl154, sl155, sl156, sl157, sl158, sl159, sl160, sl161, sl162, sl163, sl164, sl165, sl166, sl167, sl168, sl169, sl170, sl171, sl172, sl173, sl174, sl175, sl176, sl177, sl178, sl179, sl180, sl181, sl182, sl183, sl184, sl185, sl186, sl187, sl188, sl189, sl190, sl191, sl192, sl193, sl194, sl195, sl196, sl197, sl198, sl199, sl200, sl201, sl202, sl203, sl204, sl205, sl206, sl207, sl208, sl209], []⟩ wc := by
  conv => arg 2; whnf
  have f1 := hmid5.s.frozen 1
  have z1 := hmid5.s.cell 1
  have y1 := hmid5.out.box.cell 1
  simp at z1 y1
  by_cases h1 : k3 = 1
  · subst h1
    go_wp2_with fail
    refine (pick_free F.gc F.A F.n F.c _ F.vs _ hmid5.out.cur (by have := HN.out; have := HT1.out; omega) (by have := HN.out; omega)).mono ?_
    rintro e w6 ⟨q6, h60, h61, rfl, hc6, hg6⟩
    have hm6 := hmid5.cursor OK.out hg6 hc6
    have z6 := hm6.s.cell 1
    have f6 := hm6.s.frozen 1
    simp at z6
    have HS := put (hm6.set OK.out ⟨1, q6, v1, .slice none 0 0, .slice none 0 0⟩ 1 (.int .i64 q6) rfl hm6.leads (fun k h => absurd h (noInt _ _ _ _)) (fun k _ => noInt _ _ _ _))
    clear hm6 hc6 hg6
    go_wp2
    exact HK.out _ _ _ _ _ _ _ _ _ _ _ _ _ _ _ _ _ _ _ _ _ (HS.out)
  · have h1' := beq_of h1
    by_cases h3 : k3 = 3
    · subst h3
      have hfb : fs.length ≤ 5 := hfl2.2
      go_wp2_with fail
      refine (pick_any F.gc F.A F.n F.c _ (fs.length : Int) _ hmid5.out.cur (by have := HN.out; have := HT1.out; omega) (by omega) (by omega)).mono ?_
      rintro e w6 ⟨q6, h60, h61, rfl, hc6, hg6⟩
      have hm6 := hmid5.cursor OK.out hg6 hc6
      have hfs6 := hfs5.cur hmid5.out.cur hg6
      obtain ⟨i6, rfl⟩ := Int.eq_ofNat_of_zero_le h60
      have hi6 : i6 < fs.length := by omega
      obtain ⟨A6, c6, hv6, hr6⟩ := hfs6.reads
      injection hv6 with e1 e2 e3
      subst e1 e3
      obtain ⟨b6, off6, x6, hA6, hb6, hx6, _⟩ := hr6.at_ hi6
      subst hA6
      have z6 := hm6.s.cell 1
      have f6 := hm6.s.frozen 1
      simp at z6
      have HS := put (hm6.set OK.out ⟨3, x6, v1, .slice none 0 0, .slice none 0 0⟩ 1 (.int .i64 x6) rfl hm6.leads (fun k h => absurd h (noInt _ _ _ _)) (fun k _ => noInt _ _ _ _))
      clear hm6 hc6 hg6 hfs6 hr6 e2
      go_wp2
      exact HK.out _ _ _ _ _ _ _ _ _ _ _ _ _ _ _ _ _ _ _ _ _ (HS.out)
    · have h3' := beq_of h3
      go_wp2
      exact HK.out _ _ _ _ _ _ _ _ _ _ _ _ _ _ _ _ _ _ _ _ _ (hmid5.more (by omega))

end Go.Proofs.Ytfdijeeilfhjeaa
namespace Go.Proofs.Ytfdijeeilfhjeaa
open Go.RowKit Exs

set_option maxHeartbeats 8000000 in
set_option maxRecDepth 100000 in
theorem segB5 {d : Nat} {y : Int} {F : Fix} {T : Nat} {cs : List C5} {b : Bool} (HN : Hid (d ≤ 2 ∧ 300 ≤ stp d ∧ stp d ≤ 13040 ∧ T + cost d ≤ 700000 ∧ cost d = 10 + 3 * stp d ∧ cs.length ≤ 12 ∧ y = d ∧ 0 ≤ F.vs ∧ F.vs ≤ 6))
    (HI : Hid (∀ (z : Int) (G : Fix) (S : Nat) (es : List C5) (lp : Bool), 1 ≤ d → z = (d : Int) - 1 → G.Ok → Out G G.w0 S G.sv0 es (.slice none 0 0) [] → es.length ≤ 12 → S + cost (d - 1) ≤ 700000 → 0 ≤ G.vs → G.vs ≤ 6 → G.ps.getD 0 0 = 0 →
      Calls Try.prog 127 #[.pointer (some ⟨G.gc, 0, none⟩), .pointer (some ⟨G.gf, 0, none⟩), .slice (some ⟨G.p, 0, none⟩) G.np G.cp, .int .i64 z, .bool lp] G.w0 (GivesS G (S + cost (d - 1)) es.length)))
    (HP0 : Hid (F.ps.getD 0 0 = 0)) (OK : Hid F.Ok) {m0 gn Tr : Nat} (HT1 : Hid (Tr + stp d ≤ T + 2 + (m0 - (gn - 1)) * stp d ∧ Tr + stp d ≤ T + cost d)) {ds : List C5} {bv7 : Value} {ys : List Int} {gs : Nat} {k3 n2 : Int} {A1 : Option Addr} {n1 c1 : Nat} {sv8 : Value} {es : List C5} {wc : World} {K : Act → World → Prop} {Q : Exit → Act → World → Prop} {sl5 sl6 sl7 sl8 sl9 sl10 sl11 sl12 sl13 sl15 sl16 sl17 sl18 sl19 sl20 sl21 sl22 sl23 sl24 sl25 sl26 sl27 sl28 sl29 sl30 sl31 sl32 sl33 sl34 sl35 sl36 sl37 sl38 sl39 sl40 sl41 sl42 sl43 sl44 sl45 sl46 sl47 sl48 sl49 sl50 sl51 sl52 sl53 sl54 sl55 sl56 sl57 sl58 sl59 sl60 sl61 sl62 sl63 sl64 sl65 sl66 sl67 sl68 sl69 sl70 sl71 sl72 sl73 sl74 sl75 sl76 sl77 sl78 sl79 sl80 sl81 sl82 sl83 sl84 sl85 sl86 sl87 sl88 sl89 sl90 sl91 sl92 sl93 sl94 sl95 sl96 sl97 sl98 sl99 sl100 sl101 sl102 sl103 sl104 sl105 sl106 sl107 sl108 sl109 sl110 sl111 sl112 sl113 sl114 sl115 sl116 sl117 sl118 sl119 sl120 sl121 sl122 sl123 sl124 sl125 sl126 sl127 sl128 sl129 sl130 sl131 sl132 sl133 sl134 sl135 sl136 sl137 sl138 sl139 sl140 sl141 sl142 sl143 sl144 sl145 sl146 sl147 sl148 sl149 sl150 sl151 sl152 sl153 sl154 sl155 sl156 sl157 sl158 sl159 sl160 sl161 sl162 sl163 sl164 sl165 sl166 sl167 sl168 sl169 sl170 sl171 sl173 sl174 sl175 sl176 sl177 sl178 sl179 sl180 sl181 sl182 sl183 sl184 sl185 sl186 sl187 sl188 sl189 sl190 sl191 sl192 sl193 sl194 sl195 sl196 sl197 sl198 sl199 sl200 sl201 sl202 sl203 sl204 sl205 sl206 sl207 sl208 sl209 : Value}
    (hk3 : Hid (1 ≤ k3 ∧ k3 ≤ 9 ∧ (y = 0 → k3 ≠ 7 ∧ k3 ≠ 8))) (hmid8 : Mid F wc (Tr + 212) sv8 es bv7 ys gs ⟨k3, n2, .slice A1 n1 c1, .slice none 0 0, .slice none 0 0⟩) (HL8 : Hid (ds.length < es.length ∧ es.length ≤ 12))
    (HK : Hid (∀ (u173 u174 u175 u176 u177 u178 u179 u180 u181 u182 u183 u184 u185 u186 u187 u188 u189 u190 u191 u192 u193 u194 u195 u196 u197 u198 u199 u200 u201 : Value) (sv9 : Value) (fs9 : List C5) (v2 v3 : Value) (wx : World), Mid F wx (Tr + stp d) sv9 fs9 bv7 ys gs ⟨k3, n2, .slice A1 n1 c1, v2, v3⟩ → Hid (ds.length < fs9.length ∧ fs9.length ≤ 12) → K ⟨#[.pointer (some ⟨F.gc, 0, none⟩), .pointer (some ⟨F.gf, 0, none⟩), .slice (some ⟨F.p, 0, none⟩) F.np F.cp, .int .i64 y, .bool b, sl5, sl6, sl7, sl8, sl9, sl10, sl11, sl12, sl13, .pointer (some ⟨gs, 0, none⟩), sl15, sl16, sl17, sl18, sl19, sl20, sl21, sl22, sl23, sl24, sl25, sl26, sl27, sl28, sl29, sl30, sl31, sl32, sl33, sl34, sl35, sl36, sl37, sl38, sl39, sl40, sl41, sl42, sl43, sl44, sl45, sl46, sl47, sl48, sl49, sl50, sl51, sl52, sl53, sl54, sl55, sl56, sl57, sl58, sl59, sl60, sl61, sl62, sl63, sl64, sl65, sl66, sl67, sl68, sl69, sl70, sl71, sl72, sl73, sl74, sl75, sl76, sl77, sl78, sl79, sl80, sl81, sl82, sl83, sl84, sl85, sl86, sl87, sl88, sl89, sl90, sl91, sl92, sl93, sl94, sl95, sl96, sl97, sl98, sl99, sl100, sl101, sl102, sl103, sl104, sl105, sl106, sl107, sl108, sl109, sl110, sl111, sl112, sl113, sl114, sl115, sl116, sl117, sl118, sl119, sl120, sl121, sl122, sl123, sl124, sl125, sl126, sl127, sl128, sl129, sl130, sl131, sl132, sl133, sl134, sl135, sl136, sl137, sl138, sl139, sl140, sl141, sl142, sl143, sl144, sl145, sl146, sl147, sl148, sl149, sl150, sl151, sl152, sl153, sl154, sl155, sl156, sl157, sl158, sl159, sl160, sl161, sl162, sl163, sl164, sl165, sl166, sl167, sl168, sl169, sl170, sl171, .int .i64 k3, u173, u174, u175, u176, u177, u178, u179, u180, u181, u182, u183, u184, u185, u186, u187, u188, u189, u190, u191, u192, u193, u194, u195, u196, u197, u198, u199, u200, u201, sl202, sl203, sl204, sl205, sl206, sl207, sl208, sl209], []⟩ wx)) :
    Code.wp Try.prog (pieceOf (isBlock 5)) (Exit.then K Q) ⟨#[.pointer (some ⟨F.gc, 0, none⟩), .pointer (some ⟨F.gf, 0, none⟩), .slice (some ⟨F.p, 0, none⟩) F.np F.cp, .int .i64 y, .bool b, sl5, sl6, sl7, sl8, sl9, sl10, sl11, sl12, sl13, .pointer (some ⟨gs, 0, none⟩), sl15, sl16, sl17, sl18, sl19, sl20, sl21, sl22, sl23, sl24, sl25, sl26, sl27, sl28, sl29, sl30, sl31, sl32, sl33, sl34, sl35, sl36, sl37, sl38, sl39, sl40, sl41, sl42, sl43, sl44, sl45, sl46, sl47, sl48, sl49, sl50, sl51, sl52, sl53, sl54, sl55, sl56, sl57, sl58, sl59, sl60, sl61, sl62, sl63, sl64, sl65, sl66, sl67, sl68, sl69, sl70, sl71, sl72, sl73, sl74, sl75, sl76, sl77, sl78, sl79, sl80, sl81, sl82, sl83, sl84, sl85, sl86, sl87, sl88, sl89, sl90, sl91, sl92, sl93, sl94, sl95, sl96, sl97, sl98, sl99, sl100, sl101, sl102, sl103, sl104, sl105, sl106, sl107, sl108, sl109, sl110, sl111, sl112, sl113, sl114, sl115, sl116, sl117, sl118, sl119, sl120, sl121, sl122, sl123, sl124, sl125, sl126, sl127, sl128, sl129, sl130, sl131, sl132, sl133, sl134, sl135, sl136, sl137, sl138, sl139, sl140, sl141, sl142, sl143, sl144, sl145, sl146, sl147, sl148, sl149, sl150, sl151, sl152, sl153, sl154, sl155, sl156, sl157, sl158, sl159, sl160, sl161, sl162, sl163, sl164, sl165, sl166, sl167, sl168, sl169, sl170, sl171, .int .i64 k3, sl173, sl174, sl175, sl176, sl177, sl178, sl179, sl180, sl181, sl182, sl183, sl184, sl185, sl186, sl187, sl188, sl189, sl190, sl191, sl192, sl193, sl194, sl195, sl196, sl197, sl198, sl199, sl200, sl201, sl202, sl203, sl204, sl205, sl206, sl207, sl208, sl209], []⟩ wc := by
  conv => arg 2; whnf
  by_cases h7 : k3 = 7
  · subst h7
    have hyb : 1 ≤ y ∧ y ≤ 2 := by
      have := HN.out
      rcases (show y = 0 ∨ 1 ≤ y by omega) with h | h
      · exact absurd rfl (hk3.out.2.2 h).1
      · omega
    have HC := put (show 1 ≤ d ∧ stp d = 300 + 2 * cost (d - 1) ∧ cost (d - 1) ≤ 10000 by
      have := HN.out
      obtain ⟨d', rfl⟩ : ∃ d', d = d' + 1 := ⟨d - 1, by omega⟩
      have := stp_le (d := d') (by omega)
      refine ⟨by omega, ?_, ?_⟩
      · simp only [Nat.add_sub_cancel, cost, stp]; omega
      · simp only [Nat.add_sub_cancel, cost]
        have : d' ≤ 1 := by omega
        rcases d' with _ | _ | d'
        all_goals (simp only [stp]; omega))
    have hyb1 := hyb.1
    have hyb2 := hyb.2
    clear hyb
    go_wp2_with fail
    refine (HI.out (y - 1) (F.at wc sv8 es) (Tr + 212) es b (by have := HN.out; omega) (by have := HN.out; omega) (hmid8.out.okAt OK.out) hmid8.out.fresh (by have := HL8.out; omega) (by have := HN.out; have := HT1.out; have := HC.out; omega) (show 0 ≤ F.vs from HN.out.2.2.2.2.2.2.2.1) (show F.vs ≤ 6 from HN.out.2.2.2.2.2.2.2.2) HP0.out).mono ?_
    rintro e w9 ⟨v9, zs9, sv9, es9, rfl, ho9, hz9, hl9, h129, _⟩
    obtain ⟨hm9, hn9⟩ := hmid8.back OK.out ho9
    have hblk9 := ho9.blk
    have HL9 := put (show ds.length < es9.length ∧ es9.length ≤ 12 from ⟨Nat.lt_of_lt_of_le HL8.out.1 hl9, h129⟩)
    have hbn9 : ∀ k, v9.ownBlock = some k → wc.heap.size ≤ k := fun k hk => (World.ownsRow.lt hblk9 k hk).1
    have hbl9 : ∀ k, bv7.ownBlock = some k → k < wc.heap.size := fun k hk => (World.ownsRow.lt hmid8.out.blk k hk).2
    obtain ⟨Av9, mv9, cv9, hvv9⟩ : ∃ A m c, v9 = .slice A m c := by obtain ⟨A, c, h, _⟩ := hn9.reads; exact ⟨A, _, c, h⟩
    subst hvv9
    have z9 := hm9.s.cell 3
    have f9 := hm9.s.frozen 3
    simp at z9
    have hwb9 : F.w0.heap.size ≤ wc.heap.size := hmid8.out.kept.size
    have hm9s := hm9.set OK.out ⟨7, n2, .slice A1 n1 c1, .slice Av9 mv9 cv9, .slice none 0 0⟩ 3 (.slice Av9 mv9 cv9) rfl ⟨hm9.leads.1, ⟨zs9, hn9, by omega⟩, [], Nums.nil _ _ _ _, by simp⟩ (by intro k hk hlt; rcases hk with hk | hk; (have := hbn9 k hk; omega); (simp [Value.ownBlock] at hk)) (by intro k hk hr; rcases hr with hr | hr; (have := hbn9 k hr; have := hbl9 k hk; omega); (simp [Value.ownBlock] at hr))
    clear ho9 hn9 hblk9
    go_wp2_with fail
    refine (one_any F.gc F.A F.n F.c _ 2 _ hm9s.out.cur (by have := HN.out; have := HT1.out; have := HC.out; omega) (by omega) (by omega)).mono ?_
    rintro e w10 ⟨b10, rfl, hc10, hg10⟩
    have hm10 := hm9s.cursor OK.out hg10 hc10
    clear hm9s hm9 hc10 hg10 z9 f9
    cases b10 with
    | false =>
      go_wp2
      exact HK.out _ _ _ _ _ _ _ _ _ _ _ _ _ _ _ _ _ _ _ _ _ _ _ _ _ _ _ _ _ _ _ _ _ _ (hm10.more (by have := HN.out; have := HT1.out; have := HC.out; omega)) (HL9)
    | true =>
      have HL10 := HL9
      go_wp2_with fail
      refine (HI.out (y - 1) (F.at w10 sv9 es9) (Tr + 212 + cost (d - 1) + 2) es9 b (by have := HN.out; omega) (by have := HN.out; omega) (hm10.out.okAt OK.out) hm10.out.fresh (by have := HL9.out; omega) (by have := HN.out; have := HT1.out; have := HC.out; omega) (show 0 ≤ F.vs from HN.out.2.2.2.2.2.2.2.1) (show F.vs ≤ 6 from HN.out.2.2.2.2.2.2.2.2) HP0.out).mono ?_
      rintro e w11 ⟨v11, zs11, sv11, es11, rfl, ho11, hz11, hl11, h1211, _⟩
      obtain ⟨hm11, hn11⟩ := hm10.back OK.out ho11
      have hblk11 := ho11.blk
      have HL11 := put (show ds.length < es11.length ∧ es11.length ≤ 12 from ⟨Nat.lt_of_lt_of_le HL9.out.1 hl11, h1211⟩)
      have hbn11 : ∀ k, v11.ownBlock = some k → w10.heap.size ≤ k := fun k hk => (World.ownsRow.lt hblk11 k hk).1
      have hbl11 : ∀ k, bv7.ownBlock = some k → k < w10.heap.size := fun k hk => (World.ownsRow.lt hm10.out.blk k hk).2
      obtain ⟨Av11, mv11, cv11, hvv11⟩ : ∃ A m c, v11 = .slice A m c := by obtain ⟨A, c, h, _⟩ := hn11.reads; exact ⟨A, _, c, h⟩
      subst hvv11
      have z11 := hm11.s.cell 4
      have f11 := hm11.s.frozen 4
      simp at z11
      have hwb11 : F.w0.heap.size ≤ w10.heap.size := hm10.out.kept.size
      have hm11s := hm11.set OK.out ⟨7, n2, .slice A1 n1 c1, .slice Av9 mv9 cv9, .slice Av11 mv11 cv11⟩ 4 (.slice Av11 mv11 cv11) rfl ⟨hm11.leads.1, hm11.leads.2.1, zs11, hn11, by omega⟩ (by intro k hk hlt; rcases hk with hk | hk; (exact hm11.xnews k (.inl hk) hlt); (have := hbn11 k hk; omega)) (by intro k hk hr; rcases hr with hr | hr; (exact hm11.xapart k hk (.inl hr)); (have := hbn11 k hr; have := hbl11 k hk; omega))
      clear ho11 hn11 hblk11
      go_wp2
      exact HK.out _ _ _ _ _ _ _ _ _ _ _ _ _ _ _ _ _ _ _ _ _ _ _ _ _ _ _ _ _ _ _ _ _ _ (hm11s.more (by have := HN.out; have := HT1.out; have := HC.out; omega)) (HL11)
  · have h7' := beq_of h7
    by_cases h8 : k3 = 8
    · subst h8
      have hyb : 1 ≤ y ∧ y ≤ 2 := by
        have := HN.out
        rcases (show y = 0 ∨ 1 ≤ y by omega) with h | h
        · exact absurd rfl (hk3.out.2.2 h).2
        · omega
      have HC := put (show 1 ≤ d ∧ stp d = 300 + 2 * cost (d - 1) ∧ cost (d - 1) ≤ 10000 by
        have := HN.out
        obtain ⟨d', rfl⟩ : ∃ d', d = d' + 1 := ⟨d - 1, by omega⟩
        have := stp_le (d := d') (by omega)
        refine ⟨by omega, ?_, ?_⟩
        · simp only [Nat.add_sub_cancel, cost, stp]; omega
        · simp only [Nat.add_sub_cancel, cost]
          have : d' ≤ 1 := by omega
          rcases d' with _ | _ | d'
          all_goals (simp only [stp]; omega))
      have hyb1 := hyb.1
      have hyb2 := hyb.2
      clear hyb
      go_wp2_with fail
      refine (HI.out (y - 1) (F.at wc sv8 es) (Tr + 212) es true (by have := HN.out; omega) (by have := HN.out; omega) (hmid8.out.okAt OK.out) hmid8.out.fresh (by have := HL8.out; omega) (by have := HN.out; have := HT1.out; have := HC.out; omega) (show 0 ≤ F.vs from HN.out.2.2.2.2.2.2.2.1) (show F.vs ≤ 6 from HN.out.2.2.2.2.2.2.2.2) HP0.out).mono ?_
      rintro e w9 ⟨v9, zs9, sv9, es9, rfl, ho9, hz9, hl9, h129, _⟩
      obtain ⟨hm9, hn9⟩ := hmid8.back OK.out ho9
      have hblk9 := ho9.blk
      have HL9 := put (show ds.length < es9.length ∧ es9.length ≤ 12 from ⟨Nat.lt_of_lt_of_le HL8.out.1 hl9, h129⟩)
      have hbn9 : ∀ k, v9.ownBlock = some k → wc.heap.size ≤ k := fun k hk => (World.ownsRow.lt hblk9 k hk).1
      have hbl9 : ∀ k, bv7.ownBlock = some k → k < wc.heap.size := fun k hk => (World.ownsRow.lt hmid8.out.blk k hk).2
      obtain ⟨Av9, mv9, cv9, hvv9⟩ : ∃ A m c, v9 = .slice A m c := by obtain ⟨A, c, h, _⟩ := hn9.reads; exact ⟨A, _, c, h⟩
      subst hvv9
      have z9 := hm9.s.cell 3
      have f9 := hm9.s.frozen 3
      simp at z9
      have hwb9 : F.w0.heap.size ≤ wc.heap.size := hmid8.out.kept.size
      have hm9s := hm9.set OK.out ⟨8, n2, .slice A1 n1 c1, .slice Av9 mv9 cv9, .slice none 0 0⟩ 3 (.slice Av9 mv9 cv9) rfl ⟨hm9.leads.1, ⟨zs9, hn9, by omega⟩, [], Nums.nil _ _ _ _, by simp⟩ (by intro k hk hlt; rcases hk with hk | hk; (have := hbn9 k hk; omega); (simp [Value.ownBlock] at hk)) (by intro k hk hr; rcases hr with hr | hr; (have := hbn9 k hr; have := hbl9 k hk; omega); (simp [Value.ownBlock] at hr))
      clear ho9 hn9 hblk9
      go_wp2
      exact HK.out _ _ _ _ _ _ _ _ _ _ _ _ _ _ _ _ _ _ _ _ _ _ _ _ _ _ _ _ _ _ _ _ _ _ (hm9s.more (by have := HN.out; have := HT1.out; have := HC.out; omega)) (HL9)
    · have h8' := beq_of h8
      go_wp2
      exact HK.out _ _ _ _ _ _ _ _ _ _ _ _ _ _ _ _ _ _ _ _ _ _ _ _ _ _ _ _ _ _ _ _ _ _ (hmid8.more (by have := HN.out; omega)) (HL8)

end Go.Proofs.Ytfdijeeilfhjeaa
namespace Go.Proofs.Ytfdijeeilfhjeaa
open Go.RowKit Exs

set_option maxHeartbeats 8000000 in
set_option maxRecDepth 100000 in
theorem seg34 {F : Fix} {cs : List C5} (OK : Hid F.Ok) {Tr : Nat} {ds : List C5} {bv7 : Value} {ys : List Int} {gs : Nat} {k3 n2 : Int} {A1 : Option Addr} {n1 c1 : Nat} {sv9 : Value} {fs9 : List C5} {v2 v3 : Value} {wc : World} {Q : Exit → Act → World → Prop} {sl0 sl2 sl3 sl4 sl5 sl6 sl7 sl8 sl9 sl10 sl11 sl12 sl15 sl16 sl17 sl18 sl19 sl20 sl21 sl22 sl23 sl24 sl25 sl26 sl27 sl28 sl29 sl30 sl31 sl32 sl33 sl34 sl35 sl36 sl37 sl38 sl39 sl40 sl41 sl42 sl43 sl44 sl45 sl46 sl47 sl48 sl49 sl50 sl51 sl52 sl53 sl54 sl55 sl56 sl57 sl58 sl59 sl60 sl61 sl62 sl63 sl64 sl65 sl66 sl67 sl68 sl69 sl70 sl71 sl72 sl73 sl74 sl75 sl76 sl77 sl78 sl79 sl80 sl81 sl82 sl83 sl84 sl85 sl86 sl87 sl88 sl89 sl90 sl91 sl92 sl93 sl94 sl95 sl96 sl97 sl98 sl99 sl100 sl101 sl102 sl103 sl104 sl105 sl106 sl107 sl108 sl109 sl110 sl111 sl112 sl113 sl114 sl115 sl116 sl117 sl118 sl119 sl120 sl121 sl122 sl123 sl124 sl125 sl126 sl127 sl128 sl129 sl130 sl131 sl132 sl133 sl134 sl135 sl136 sl137 sl138 sl139 sl140 sl141 sl142 sl143 sl144 sl145 sl146 sl147 sl148 sl149 sl150 sl151 sl152 sl153 sl154 sl155 sl156 sl157 sl158 sl159 sl160 sl161 sl162 sl163 sl164 sl165 sl166 sl167 sl168 sl169 sl170 sl171 sl172 sl173 sl174 sl175 sl176 sl177 sl178 sl179 sl180 sl181 sl182 sl183 sl184 sl185 sl186 sl187 sl188 sl189 sl190 sl191 sl192 sl193 sl194 sl195 sl196 sl197 sl198 sl199 sl200 sl201 sl202 sl203 sl204 sl205 sl206 sl207 sl208 sl209 : Value}
    (hcd : cs.length ≤ ds.length) (hmid9 : Mid F wc Tr sv9 fs9 bv7 ys gs ⟨k3, n2, .slice A1 n1 c1, v2, v3⟩) (HL9 : Hid (ds.length < fs9.length ∧ fs9.length ≤ 12))
    (HK : Hid (∀ (u202 u203 u204 u205 u206 u207 u208 : Value) (sv' : Value) (fs' : List C5) (wx : World), Out F wx Tr sv' fs' bv7 ys → Hid (cs.length ≤ fs'.length ∧ fs'.length ≤ 12) → Q .normal ⟨#[sl0, .pointer (some ⟨F.gf, 0, none⟩), sl2, sl3, sl4, sl5, sl6, sl7, sl8, sl9, sl10, sl11, sl12, .int .i64 ds.length, .pointer (some ⟨gs, 0, none⟩), sl15, sl16, sl17, sl18, sl19, sl20, sl21, sl22, sl23, sl24, sl25, sl26, sl27, sl28, sl29, sl30, sl31, sl32, sl33, sl34, sl35, sl36, sl37, sl38, sl39, sl40, sl41, sl42, sl43, sl44, sl45, sl46, sl47, sl48, sl49, sl50, sl51, sl52, sl53, sl54, sl55, sl56, sl57, sl58, sl59, sl60, sl61, sl62, sl63, sl64, sl65, sl66, sl67, sl68, sl69, sl70, sl71, sl72, sl73, sl74, sl75, sl76, sl77, sl78, sl79, sl80, sl81, sl82, sl83, sl84, sl85, sl86, sl87, sl88, sl89, sl90, sl91, sl92, sl93, sl94, sl95, sl96, sl97, sl98, sl99, sl100, sl101, sl102, sl103, sl104, sl105, sl106, sl107, sl108, sl109, sl110, sl111, sl112, sl113, sl114, sl115, sl116, sl117, sl118, sl119, sl120, sl121, sl122, sl123, sl124, sl125, sl126, sl127, sl128, sl129, sl130, sl131, sl132, sl133, sl134, sl135, sl136, sl137, sl138, sl139, sl140, sl141, sl142, sl143, sl144, sl145, sl146, sl147, sl148, sl149, sl150, sl151, sl152, sl153, sl154, sl155, sl156, sl157, sl158, sl159, sl160, sl161, sl162, sl163, sl164, sl165, sl166, sl167, sl168, sl169, sl170, sl171, sl172, sl173, sl174, sl175, sl176, sl177, sl178, sl179, sl180, sl181, sl182, sl183, sl184, sl185, sl186, sl187, sl188, sl189, sl190, sl191, sl192, sl193, sl194, sl195, sl196, sl197, sl198, sl199, sl200, sl201, u202, u203, u204, u205, u206, u207, u208, sl209], []⟩ wx)) :
    Code.wp Try.prog (pieceOf (isRegion 34)) Q ⟨#[sl0, .pointer (some ⟨F.gf, 0, none⟩), sl2, sl3, sl4, sl5, sl6, sl7, sl8, sl9, sl10, sl11, sl12, .int .i64 ds.length, .pointer (some ⟨gs, 0, none⟩), sl15, sl16, sl17, sl18, sl19, sl20, sl21, sl22, sl23, sl24, sl25, sl26, sl27, sl28, sl29, sl30, sl31, sl32, sl33, sl34, sl35, sl36, sl37, sl38, sl39, sl40, sl41, sl42, sl43, sl44, sl45, sl46, sl47, sl48, sl49, sl50, sl51, sl52, sl53, sl54, sl55, sl56, sl57, sl58, sl59, sl60, sl61, sl62, sl63, sl64, sl65, sl66, sl67, sl68, sl69, sl70, sl71, sl72, sl73, sl74, sl75, sl76, sl77, sl78, sl79, sl80, sl81, sl82, sl83, sl84, sl85, sl86, sl87, sl88, sl89, sl90, sl91, sl92, sl93, sl94, sl95, sl96, sl97, sl98, sl99, sl100, sl101, sl102, sl103, sl104, sl105, sl106, sl107, sl108, sl109, sl110, sl111, sl112, sl113, sl114, sl115, sl116, sl117, sl118, sl119, sl120, sl121, sl122, sl123, sl124, sl125, sl126, sl127, sl128, sl129, sl130, sl131, sl132, sl133, sl134, sl135, sl136, sl137, sl138, sl139, sl140, sl141, sl142, sl143, sl144, sl145, sl146, sl147, sl148, sl149, sl150, sl151, sl152, sl153, sl154, sl155, sl156, sl157, sl158, sl159, sl160, sl161, sl162, sl163, sl164, sl165, sl166, sl167, sl168, sl169, sl170, sl171, sl172, sl173, sl174, sl175, sl176, sl177, sl178, sl179, sl180, sl181, sl182, sl183, sl184, sl185, sl186, sl187, sl188, sl189, sl190, sl191, sl192, sl193, sl194, sl195, sl196, sl197, sl198, sl199, sl200, sl201, sl202, sl203, sl204, sl205, sl206, sl207, sl208, sl209], []⟩ wc := by
  conv => arg 2; whnf
  obtain ⟨_, _, _, A2, n2', c2, A3, n3, c3, _, e2, e3⟩ := hmid9.leads.shape
  have e2' : v2 = .slice A2 n2' c2 := e2
  have e3' : v3 = .slice A3 n3 c3 := e3
  subst e2' e3'
  clear e2 e3
  have hj9 := HL9.out.1
  obtain ⟨g9, cap9, hsv9⟩ : ∃ g c, sv9 = .slice (some ⟨g, 0, none⟩) fs9.length c := by
    rcases hmid9.out.sts.shape with ⟨_, h⟩ | h
    · rw [h] at hj9; simp at hj9
    · exact h
  subst hsv9
  obtain ⟨x9, hx9, q0, q1, q2, q3, q4, qf⟩ := hmid9.out.sts.at_ hj9
  have qf0 := qf (ds.length * 5)
  have qf1 := qf (ds.length * 5 + 1)
  have qf2 := qf (ds.length * 5 + 2)
  have qf3 := qf (ds.length * 5 + 3)
  have qf4 := qf (ds.length * 5 + 4)
  clear qf
  have HX9 := put hx9
  clear hx9
  have y3 := hmid9.out.box.cell 3
  have z0 := hmid9.s.cell 0
  have z1 := hmid9.s.cell 1
  have z2 := hmid9.s.cell 2
  have z3 := hmid9.s.cell 3
  have z4 := hmid9.s.cell 4
  simp at y3 z0 z1 z2 z3 z4
  have hmD := hmid9.below ((Below.refl _ wc).drew)
  have HLF := put (show cs.length ≤ (fs9.set ds.length (⟨k3, n2, .slice A1 n1 c1, .slice A2 n2' c2, .slice A3 n3 c3⟩ : C5)).length ∧ (fs9.set ds.length (⟨k3, n2, .slice A1 n1 c1, .slice A2 n2' c2, .slice A3 n3 c3⟩ : C5)).length ≤ 12 by rw [List.length_set]; have := HL9.out; omega)
  have q0D : wc.drew.cell? ⟨g9, ds.length * 5, none⟩ = some (.int .i64 x9.k) := q0
  have q1D : wc.drew.cell? ⟨g9, ds.length * 5 + 1, none⟩ = some (.int .i64 x9.n) := q1
  have q2D : wc.drew.cell? ⟨g9, ds.length * 5 + 2, none⟩ = some x9.v1 := q2
  have q3D : wc.drew.cell? ⟨g9, ds.length * 5 + 3, none⟩ = some x9.v2 := q3
  have q4D : wc.drew.cell? ⟨g9, ds.length * 5 + 4, none⟩ = some x9.v3 := q4
  have r0D : wc.drew.frozen? ⟨g9, ds.length * 5, none⟩ = false := qf0
  have r1D : wc.drew.frozen? ⟨g9, ds.length * 5 + 1, none⟩ = false := qf1
  have r2D : wc.drew.frozen? ⟨g9, ds.length * 5 + 2, none⟩ = false := qf2
  have r3D : wc.drew.frozen? ⟨g9, ds.length * 5 + 3, none⟩ = false := qf3
  have r4D : wc.drew.frozen? ⟨g9, ds.length * 5 + 4, none⟩ = false := qf4
  clear q0 q1 q2 q3 q4 qf0 qf1 qf2 qf3 qf4 y3 z0 z1 z2 z3 z4
  have y3 := hmD.out.box.cell 3
  have z0 := hmD.s.cell 0
  have z1 := hmD.s.cell 1
  have z2 := hmD.s.cell 2
  have z3 := hmD.s.cell 3
  have z4 := hmD.s.cell 4
  simp at y3 z0 z1 z2 z3 z4
  clear hmid9
  go_wp2
  go_still_tail 7, (by kernel_rfl)
  change wpList _ _ _ _ _ wc.drew
  have HO := put (hmD.putRow OK.out hj9)
  generalize wc.drew = w2 at HO y3 z0 z1 z2 z3 z4 q0D q1D q2D q3D q4D r0D r1D r2D r3D r4D ⊢
  clear hmD
  generalize x9.v1 = p1 at q2D
  generalize x9.v2 = p2 at q3D
  generalize x9.v3 = p3 at q4D
  generalize x9.k = p4 at q0D
  generalize x9.n = p5 at q1D
  go_wp2
  exact HK.out _ _ _ _ _ _ _ _ _ _ (HO.out) HLF

end Go.Proofs.Ytfdijeeilfhjeaa

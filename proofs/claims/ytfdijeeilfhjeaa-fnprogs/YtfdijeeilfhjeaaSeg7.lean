/-
  Pieces of the drawing of statements.
-/
import Derived.Test.YtfdijeeilfhjeaaPkE
import Derived.Deep.DeepCutAuto
import Derived.Deep.CutBlock
import Derived.Deep.LoopGhost
import Derived.Deep.RegionLaw
import Derived.Deep.RegionHeld3
import Derived.StillTailTactics
namespace Go.Proofs.Ytfdijeeilfhjeaa
open Go.RowKit Exs

set_option maxHeartbeats 8000000 in
set_option maxRecDepth 100000 in
theorem seg7 {y : Int} {F : Fix} {b : Bool} {Tr : Nat} {Asv : Option Addr} {csv : Nat} {ds : List C5} {u11 : Value} {xs : List Int} {gs : Nat} {kd : Int} {W3 : World} {K : Act → World → Prop} {Q : Exit → Act → World → Prop} {sl0 sl2 sl5 sl6 sl7 sl8 sl9 sl10 sl11 sl12 sl13 sl15 sl16 sl17 sl18 sl19 sl20 sl21 sl22 sl23 sl24 sl25 sl26 sl27 sl28 sl29 sl30 sl31 sl32 sl33 sl34 sl35 sl36 sl37 sl38 sl39 sl40 sl41 sl42 sl43 sl44 sl45 sl46 sl47 sl48 sl49 sl50 sl51 sl52 sl53 sl54 sl55 sl56 sl57 sl58 sl59 sl60 sl61 sl62 sl63 sl64 sl65 sl66 sl67 sl68 sl69 sl70 sl71 sl72 sl73 sl74 sl75 sl76 sl77 sl78 sl79 sl80 sl81 sl82 sl83 sl84 sl85 sl86 sl87 sl88 sl89 sl90 sl91 sl92 sl93 sl94 sl95 sl96 sl97 sl98 sl99 sl100 sl101 sl102 sl103 sl104 sl105 sl106 sl107 sl108 sl109 sl110 sl111 sl112 sl113 sl114 sl115 sl116 sl117 sl118 sl119 sl120 sl121 sl122 sl123 sl124 sl125 sl126 sl127 sl128 sl129 sl130 sl131 sl132 sl133 sl134 sl135 sl136 sl137 sl138 sl139 sl140 sl141 sl142 sl143 sl144 sl145 sl146 sl147 sl148 sl149 sl150 sl151 sl152 sl153 sl154 sl155 sl156 sl157 sl158 sl159 sl160 sl161 sl162 sl163 sl164 sl165 sl166 sl167 sl168 sl169 sl170 sl171 sl172 sl173 sl174 sl175 sl176 sl177 sl178 sl179 sl180 sl181 sl182 sl183 sl184 sl185 sl186 sl187 sl188 sl189 sl190 sl191 sl192 sl193 sl194 sl195 sl196 sl197 sl198 sl199 sl200 sl201 sl202 sl203 sl204 sl205 sl206 sl207 sl208 sl209 : Value}
    (hmid : Mid F W3 (Tr) (.slice Asv ds.length csv) ds u11 xs gs ⟨kd, 0, .slice none 0 0, .slice none 0 0, .slice none 0 0⟩) (h12 : ds.length < 12)
    (HK : Hid (∀ (u42 u43 u44 u45 u46 u47 u48 u49 u50 u51 u52 u53 u54 u55 u56 u57 u58 u59 u60 u61 u62 u63 u64 u65 u66 u67 u68 u69 u70 u71 u72 u73 u74 u75 u76 u77 u78 u79 u80 u81 u82 u83 u84 u85 u86 u87 u88 u89 : Value) (bb : Bool) (wx : World), Hid (bb = false → y = 0 → kd ≠ 7 ∧ kd ≠ 8) → Below W3.heap.size W3 wx → K ⟨#[sl0, .pointer (some ⟨F.gf, 0, none⟩), sl2, .int .i64 y, .bool b, sl5, sl6, sl7, sl8, sl9, sl10, sl11, sl12, sl13, .pointer (some ⟨gs, 0, none⟩), sl15, sl16, sl17, sl18, sl19, sl20, sl21, sl22, sl23, sl24, sl25, sl26, sl27, sl28, sl29, sl30, sl31, sl32, sl33, sl34, sl35, sl36, sl37, sl38, sl39, sl40, sl41, u42, u43, u44, u45, u46, u47, u48, u49, u50, u51, u52, u53, u54, u55, u56, u57, u58, u59, u60, u61, u62, u63, u64, u65, u66, u67, u68, u69, u70, u71, u72, u73, u74, u75, u76, u77, u78, u79, u80, u81, u82, u83, u84, u85, u86, u87, u88, u89, .bool bb, sl91, sl92, sl93, sl94, sl95, sl96, sl97, sl98, sl99, sl100, sl101, sl102, sl103, sl104, sl105, sl106, sl107, sl108, sl109, sl110, sl111, sl112, sl113, sl114, sl115, sl116, sl117, sl118, sl119, sl120, sl121, sl122, sl123, sl124, sl125, sl126, sl127, sl128, sl129, sl130, sl131, sl132, sl133, sl134, sl135, sl136, sl137, sl138, sl139, sl140, sl141, sl142, sl143, sl144, sl145, sl146, sl147, sl148, sl149, sl150, sl151, sl152, sl153, sl154, sl155, sl156, sl157, sl158, sl159, sl160, sl161, sl162, sl163, sl164, sl165, sl166, sl167, sl168, sl169, sl170, sl171, sl172, sl173, sl174, sl175, sl176, sl177, sl178, sl179, sl180, sl181, sl182, sl183, sl184, sl185, sl186, sl187, sl188, sl189, sl190, sl191, sl192, sl193, sl194, sl195, sl196, sl197, sl198, sl199, sl200, sl201, sl202, sl203, sl204, sl205, sl206, sl207, sl208, sl209], []⟩ wx)) :
    Code.wp Try.prog (pieceOf (isRegion 7)) (Exit.then K Q) ⟨#[sl0, .pointer (some ⟨F.gf, 0, none⟩), sl2, .int .i64 y, .bool b, sl5, sl6, sl7, sl8, sl9, sl10, sl11, sl12, sl13, .pointer (some ⟨gs, 0, none⟩), sl15, sl16, sl17, sl18, sl19, sl20, sl21, sl22, sl23, sl24, sl25, sl26, sl27, sl28, sl29, sl30, sl31, sl32, sl33, sl34, sl35, sl36, sl37, sl38, sl39, sl40, sl41, sl42, sl43, sl44, sl45, sl46, sl47, sl48, sl49, sl50, sl51, sl52, sl53, sl54, sl55, sl56, sl57, sl58, sl59, sl60, sl61, sl62, sl63, sl64, sl65, sl66, sl67, sl68, sl69, sl70, sl71, sl72, sl73, sl74, sl75, sl76, sl77, sl78, sl79, sl80, sl81, sl82, sl83, sl84, sl85, sl86, sl87, sl88, sl89, sl90, sl91, sl92, sl93, sl94, sl95, sl96, sl97, sl98, sl99, sl100, sl101, sl102, sl103, sl104, sl105, sl106, sl107, sl108, sl109, sl110, sl111, sl112, sl113, sl114, sl115, sl116, sl117, sl118, sl119, sl120, sl121, sl122, sl123, sl124, sl125, sl126, sl127, sl128, sl129, sl130, sl131, sl132, sl133, sl134, sl135, sl136, sl137, sl138, sl139, sl140, sl141, sl142, sl143, sl144, sl145, sl146, sl147, sl148, sl149, sl150, sl151, sl152, sl153, sl154, sl155, sl156, sl157, sl158, sl159, sl160, sl161, sl162, sl163, sl164, sl165, sl166, sl167, sl168, sl169, sl170, sl171, sl172, sl173, sl174, sl175, sl176, sl177, sl178, sl179, sl180, sl181, sl182, sl183, sl184, sl185, sl186, sl187, sl188, sl189, sl190, sl191, sl192, sl193, sl194, sl195, sl196, sl197, sl198, sl199, sl200, sl201, sl202, sl203, sl204, sl205, sl206, sl207, sl208, sl209], []⟩ W3 := by
  conv => arg 2; whnf
  have z0 := hmid.s.cell 0
  have y0 := hmid.out.box.cell 0
  have y1 := hmid.out.box.cell 1
  have y2 := hmid.out.box.cell 2
  have y3 := hmid.out.box.cell 3
  simp at z0 y0 y1 y2 y3
  obtain ⟨Ass, dss, ss, hssv, hss, hssm⟩ := hmid.out.sts.reads
  injection hssv with hA1 hA2 hA3
  subst hA1 hA3
  have HSITES := put (fun W (hW : Below W3.heap.size W3 W) => l3Sites_any ⟨F.pr, F.vs, [], ss⟩ none 0 0 Asv ds.length csv W ⟨⟨rfl, fun h => absurd h (by omega)⟩, hss.now hW⟩ (by omega))
  unfold fcV at HSITES
  clear hA2 hss hssm
  by_cases hy0 : y = 0
  · cases b with
    | true =>
      as_aux_lemma =>
        subst hy0
        by_cases h3 : kd = 3
        · subst h3
          go_wp2
          exact HK.out _ _ _ _ _ _ _ _ _ _ _ _ _ _ _ _ _ _ _ _ _ _ _ _ _ _ _ _ _ _ _ _ _ _ _ _ _ _ _ _ _ _ _ _ _ _ _ _ _ _ (put (fun h => by cases h)) (Below.refl _ _)
        · have h3' := beq_of h3
          by_cases h7 : kd = 7
          · subst h7
            go_wp2
            exact HK.out _ _ _ _ _ _ _ _ _ _ _ _ _ _ _ _ _ _ _ _ _ _ _ _ _ _ _ _ _ _ _ _ _ _ _ _ _ _ _ _ _ _ _ _ _ _ _ _ _ _ (put (fun h => by cases h)) (Below.refl _ _)
          · have h7' := beq_of h7
            by_cases h8 : kd = 8
            · subst h8
              go_wp2
              exact HK.out _ _ _ _ _ _ _ _ _ _ _ _ _ _ _ _ _ _ _ _ _ _ _ _ _ _ _ _ _ _ _ _ _ _ _ _ _ _ _ _ _ _ _ _ _ _ _ _ _ _ (put (fun h => by cases h)) (Below.refl _ _)
            · have h8' := beq_of h8
              by_cases h1 : kd = 1
              · subst h1
                by_cases hvs : F.vs = 0
                · rw [hvs] at y1
                  go_wp2
                  exact HK.out _ _ _ _ _ _ _ _ _ _ _ _ _ _ _ _ _ _ _ _ _ _ _ _ _ _ _ _ _ _ _ _ _ _ _ _ _ _ _ _ _ _ _ _ _ _ _ _ _ _ (put (fun _ _ => ⟨by decide, by decide⟩)) (Below.refl _ _)
                · have hvs' := beq_of hvs
                  go_wp2
                  exact HK.out _ _ _ _ _ _ _ _ _ _ _ _ _ _ _ _ _ _ _ _ _ _ _ _ _ _ _ _ _ _ _ _ _ _ _ _ _ _ _ _ _ _ _ _ _ _ _ _ _ _ (put (fun _ _ => ⟨by decide, by decide⟩)) (Below.refl _ _)
              · have h1' := beq_of h1
                go_wp2
                exact HK.out _ _ _ _ _ _ _ _ _ _ _ _ _ _ _ _ _ _ _ _ _ _ _ _ _ _ _ _ _ _ _ _ _ _ _ _ _ _ _ _ _ _ _ _ _ _ _ _ _ _ (put (fun _ _ => ⟨h7, h8⟩)) (Below.refl _ _)
    | false =>
      as_aux_lemma =>
        subst hy0
        by_cases h3 : kd = 3
        · subst h3
          go_wp2_with (go_at_call 63; refine (HSITES.out _ (Below.refl _ _)).mono ?_; rintro e w4 ⟨v4, rfl, hn4, hb4⟩; obtain ⟨A4, c4, rfl, _⟩ := hn4.reads)
          exact HK.out _ _ _ _ _ _ _ _ _ _ _ _ _ _ _ _ _ _ _ _ _ _ _ _ _ _ _ _ _ _ _ _ _ _ _ _ _ _ _ _ _ _ _ _ _ _ _ _ _ _ (put (fun _ _ => ⟨by decide, by decide⟩)) (hb4)
        · have h3' := beq_of h3
          by_cases h7 : kd = 7
          · subst h7
            go_wp2
            exact HK.out _ _ _ _ _ _ _ _ _ _ _ _ _ _ _ _ _ _ _ _ _ _ _ _ _ _ _ _ _ _ _ _ _ _ _ _ _ _ _ _ _ _ _ _ _ _ _ _ _ _ (put (fun h => by cases h)) (Below.refl _ _)
          · have h7' := beq_of h7
            by_cases h8 : kd = 8
            · subst h8
              go_wp2
              exact HK.out _ _ _ _ _ _ _ _ _ _ _ _ _ _ _ _ _ _ _ _ _ _ _ _ _ _ _ _ _ _ _ _ _ _ _ _ _ _ _ _ _ _ _ _ _ _ _ _ _ _ (put (fun h => by cases h)) (Below.refl _ _)
            · have h8' := beq_of h8
              by_cases h1 : kd = 1
              · subst h1
                by_cases hvs : F.vs = 0
                · rw [hvs] at y1
                  go_wp2
                  exact HK.out _ _ _ _ _ _ _ _ _ _ _ _ _ _ _ _ _ _ _ _ _ _ _ _ _ _ _ _ _ _ _ _ _ _ _ _ _ _ _ _ _ _ _ _ _ _ _ _ _ _ (put (fun _ _ => ⟨by decide, by decide⟩)) (Below.refl _ _)
                · have hvs' := beq_of hvs
                  go_wp2
                  exact HK.out _ _ _ _ _ _ _ _ _ _ _ _ _ _ _ _ _ _ _ _ _ _ _ _ _ _ _ _ _ _ _ _ _ _ _ _ _ _ _ _ _ _ _ _ _ _ _ _ _ _ (put (fun _ _ => ⟨by decide, by decide⟩)) (Below.refl _ _)
              · have h1' := beq_of h1
                go_wp2
                exact HK.out _ _ _ _ _ _ _ _ _ _ _ _ _ _ _ _ _ _ _ _ _ _ _ _ _ _ _ _ _ _ _ _ _ _ _ _ _ _ _ _ _ _ _ _ _ _ _ _ _ _ (put (fun _ _ => ⟨h7, h8⟩)) (Below.refl _ _)
  · have hy' := beq_of hy0
    cases b with
    | true =>
      as_aux_lemma =>
        by_cases h3 : kd = 3
        · subst h3
          go_wp2
          exact HK.out _ _ _ _ _ _ _ _ _ _ _ _ _ _ _ _ _ _ _ _ _ _ _ _ _ _ _ _ _ _ _ _ _ _ _ _ _ _ _ _ _ _ _ _ _ _ _ _ _ _ (put (fun h => by cases h)) (Below.refl _ _)
        · have h3' := beq_of h3
          by_cases h7 : kd = 7
          · subst h7
            go_wp2
            exact HK.out _ _ _ _ _ _ _ _ _ _ _ _ _ _ _ _ _ _ _ _ _ _ _ _ _ _ _ _ _ _ _ _ _ _ _ _ _ _ _ _ _ _ _ _ _ _ _ _ _ _ (put (fun _ h => absurd h hy0)) (Below.refl _ _)
          · have h7' := beq_of h7
            by_cases h8 : kd = 8
            · subst h8
              go_wp2
              exact HK.out _ _ _ _ _ _ _ _ _ _ _ _ _ _ _ _ _ _ _ _ _ _ _ _ _ _ _ _ _ _ _ _ _ _ _ _ _ _ _ _ _ _ _ _ _ _ _ _ _ _ (put (fun _ h => absurd h hy0)) (Below.refl _ _)
            · have h8' := beq_of h8
              by_cases h1 : kd = 1
              · subst h1
                by_cases hvs : F.vs = 0
                · rw [hvs] at y1
                  go_wp2
                  exact HK.out _ _ _ _ _ _ _ _ _ _ _ _ _ _ _ _ _ _ _ _ _ _ _ _ _ _ _ _ _ _ _ _ _ _ _ _ _ _ _ _ _ _ _ _ _ _ _ _ _ _ (put (fun _ _ => ⟨by decide, by decide⟩)) (Below.refl _ _)
                · have hvs' := beq_of hvs
                  go_wp2
                  exact HK.out _ _ _ _ _ _ _ _ _ _ _ _ _ _ _ _ _ _ _ _ _ _ _ _ _ _ _ _ _ _ _ _ _ _ _ _ _ _ _ _ _ _ _ _ _ _ _ _ _ _ (put (fun _ _ => ⟨by decide, by decide⟩)) (Below.refl _ _)
              · have h1' := beq_of h1
                go_wp2
                exact HK.out _ _ _ _ _ _ _ _ _ _ _ _ _ _ _ _ _ _ _ _ _ _ _ _ _ _ _ _ _ _ _ _ _ _ _ _ _ _ _ _ _ _ _ _ _ _ _ _ _ _ (put (fun _ _ => ⟨h7, h8⟩)) (Below.refl _ _)
    | false =>
      as_aux_lemma =>
        by_cases h3 : kd = 3
        · subst h3
          go_wp2_with (go_at_call 63; refine (HSITES.out _ (Below.refl _ _)).mono ?_; rintro e w4 ⟨v4, rfl, hn4, hb4⟩; obtain ⟨A4, c4, rfl, _⟩ := hn4.reads)
          exact HK.out _ _ _ _ _ _ _ _ _ _ _ _ _ _ _ _ _ _ _ _ _ _ _ _ _ _ _ _ _ _ _ _ _ _ _ _ _ _ _ _ _ _ _ _ _ _ _ _ _ _ (put (fun _ _ => ⟨by decide, by decide⟩)) (hb4)
        · have h3' := beq_of h3
          by_cases h7 : kd = 7
          · subst h7
            go_wp2
            exact HK.out _ _ _ _ _ _ _ _ _ _ _ _ _ _ _ _ _ _ _ _ _ _ _ _ _ _ _ _ _ _ _ _ _ _ _ _ _ _ _ _ _ _ _ _ _ _ _ _ _ _ (put (fun _ h => absurd h hy0)) (Below.refl _ _)
          · have h7' := beq_of h7
            by_cases h8 : kd = 8
            · subst h8
              go_wp2
              exact HK.out _ _ _ _ _ _ _ _ _ _ _ _ _ _ _ _ _ _ _ _ _ _ _ _ _ _ _ _ _ _ _ _ _ _ _ _ _ _ _ _ _ _ _ _ _ _ _ _ _ _ (put (fun _ h => absurd h hy0)) (Below.refl _ _)
            · have h8' := beq_of h8
              by_cases h1 : kd = 1
              · subst h1
                by_cases hvs : F.vs = 0
                · rw [hvs] at y1
                  go_wp2
                  exact HK.out _ _ _ _ _ _ _ _ _ _ _ _ _ _ _ _ _ _ _ _ _ _ _ _ _ _ _ _ _ _ _ _ _ _ _ _ _ _ _ _ _ _ _ _ _ _ _ _ _ _ (put (fun _ _ => ⟨by decide, by decide⟩)) (Below.refl _ _)
                · have hvs' := beq_of hvs
                  go_wp2
                  exact HK.out _ _ _ _ _ _ _ _ _ _ _ _ _ _ _ _ _ _ _ _ _ _ _ _ _ _ _ _ _ _ _ _ _ _ _ _ _ _ _ _ _ _ _ _ _ _ _ _ _ _ (put (fun _ _ => ⟨by decide, by decide⟩)) (Below.refl _ _)
              · have h1' := beq_of h1
                go_wp2
                exact HK.out _ _ _ _ _ _ _ _ _ _ _ _ _ _ _ _ _ _ _ _ _ _ _ _ _ _ _ _ _ _ _ _ _ _ _ _ _ _ _ _ _ _ _ _ _ _ _ _ _ _ (put (fun _ _ => ⟨h7, h8⟩)) (Below.refl _ _)

end Go.Proofs.Ytfdijeeilfhjeaa

/-
  What LowerFunc's law asks of a code: how long, compared, marked.
-/
import Derived.Test.YtpmpjiigmjnniaaGreatJMkd
import Derived.Test.YtpmpjiigmjnniaaGreatJCoEq
import Derived.Test.YtpmpjiigmjnniaaGreatJPrgTo2
namespace Go.Proofs.YtpmpjiigmjnniaaGreat
open Go.RowKit Exs

theorem own_cd {W : World} {B : Nat} {C : Cd} {A1 A2 A3 : Option Addr} {n1 c1 n2 c2 n3 c3 : Nat} (h : OwnCd W B C (.slice A1 n1 c1) (.slice A2 n2 c2) (.slice A3 n3 c3)) : IsCd W W.heap.size C A1 n1 A2 n2 A3 n3 := by
  obtain ⟨D1, m1, d1, D2, m2, d2, D3, m3, d3, e1, e2, e3, r⟩ := h.is
  injection e1 with a1 a2 a3
  injection e2 with b1 b2 b3
  injection e3 with f1 f2 f3
  subst a1; subst a2; subst b1; subst b2; subst f1; subst f2
  exact r
theorem own_is {W : World} {B : Nat} {C : Cd} {vs vi vr : Value} (h : OwnCd W B C vs vi vr) : ∃ A1 c1 A2 c2 A3 c3, vs = .slice A1 C.sites.length c1 ∧ vi = .slice A2 C.ins.length c2 ∧ vr = .slice A3 C.rows.length c3 := by
  obtain ⟨A1, c1, e1, _⟩ := h.sites.reads
  obtain ⟨A2, c2, e2, _⟩ := h.ins.reads
  obtain ⟨A3, c3, e3, _⟩ := h.rows.reads
  exact ⟨A1, c1, A2, c2, A3, c3, e1, e2, e3⟩
theorem row_inked {W W' : World} {B L R e size n : Nat} {v : Value} {xs : List Value} (h : W.ownsRow B e size v n xs) (hR : R ≤ B) (hi : Inked L R W W') : W'.ownsRow B e size v n xs := by
  refine ⟨h.1, ?_⟩
  rcases h.2 with h2 | ⟨g, cap, cur, hv, hg, hh, r⟩
  · exact .inl h2
  · exact .inr ⟨g, cap, cur, hv, hg, (hi.above g (by omega) (Array.getElem?_eq_some_iff.1 hh).1).trans hh, r⟩
theorem own_inked {W W' : World} {B L R : Nat} {C : Cd} {vs vi vr : Value} (h : OwnCd W B C vs vi vr) (hR : R ≤ B) (hi : Inked L R W W') : OwnCd W' B C vs vi vr := ⟨row_inked h.sites hR hi, row_inked h.ins hR hi, row_inked h.rows hR hi⟩
theorem Keep.inked {W W' : World} {L R g : Nat} {cs : Array Value} {t : TypeId} (h : Keep W g cs t) (hR : R ≤ g) (hi : Inked L R W W') : Keep W' g cs t := (hi.above g hR h.lt).trans h
theorem own_drew {W : World} {B : Nat} {C : Cd} {vs vi vr : Value} (h : OwnCd W B C vs vi vr) : OwnCd W.drew B C vs vi vr := ⟨h.sites, h.ins, h.rows⟩
theorem ownsRow_below {W W' : World} {B e size n : Nat} {v : Value} {xs : List Value} (h : W.ownsRow B e size v n xs) (hb : Below W.heap.size W W') : W'.ownsRow B e size v n xs := by
  refine ⟨h.1, ?_⟩
  rcases h.2 with h0 | ⟨g, cap, cur, hv, hB, hg, r⟩
  · exact .inl h0
  · exact .inr ⟨g, cap, cur, hv, hB, (hb.block g (Array.getElem?_eq_some_iff.1 hg).1).trans hg, r⟩
theorem eqCode_own {w : World} {B B' : Nat} (C : Cd) (A1 A2 A3 D1 D2 D3 : Option Addr) (c1 c2 c3 d1 d2 d3 : Nat) (h : OwnCd w B C (.slice A1 C.sites.length c1) (.slice A2 C.ins.length c2) (.slice A3 C.rows.length c3)) (h' : OwnCd w B' C (.slice D1 C.sites.length d1) (.slice D2 C.ins.length d2) (.slice D3 C.rows.length d3)) (hs : SmallC C) :
    Calls Tryz.prog 9 #[.agg #[.int .i64 C.params, .int .i64 C.vars, .slice A1 C.sites.length c1, .slice A2 C.ins.length c2, .slice A3 C.rows.length c3], .agg #[.int .i64 C.params, .int .i64 C.vars, .slice D1 C.sites.length d1, .slice D2 C.ins.length d2, .slice D3 C.rows.length d3]] w fun e w' => e = .returned (.bool true) ∧ Below w.heap.size w w' :=
  eqCode_same C A1 _ c1 A2 _ c2 A3 _ c3 D1 d1 D2 d2 D3 d3 w (own_cd h) (own_cd h') hs
theorem hasF_parts {fs : List Fc} {k : Int} (h : hasF fs k = true) : (0 ≤ k ∧ k < fs.length) ∧ progB fs = true := by
  unfold hasF at h
  simp only [Bool.and_eq_true, decide_eq_true_eq] at h
  exact h
theorem lf_small (fs : List Fc) (k : Int) (hs : SmallP fs) : SmallC ((lfAns fs k).getD noCd) ∧ ((lfAns fs k).getD noCd).sites.length ≤ 1048576 ∧ ((lfAns fs k).getD noCd).ins.length ≤ 1048576 ∧ ((lfAns fs k).getD noCd).rows.length ≤ 1048576 := by
  suffices h : SmallC ((lfAns fs k).getD noCd) from ⟨h, h⟩
  cases hh : hasF fs k with
  | false => rw [lfAns_no hh]; exact ⟨Nat.zero_le _, Nat.zero_le _, Nat.zero_le _⟩
  | true =>
    obtain ⟨⟨h0, h1⟩, hg⟩ := hasF_parts hh
    obtain ⟨q, rfl⟩ : ∃ q : Nat, k = q := ⟨k.toNat, by omega⟩
    obtain ⟨f, hf⟩ : ∃ f, fs[q]? = some f := ⟨_, List.getElem?_eq_getElem (by omega)⟩
    rw [lfAns_at hh hf, Option.getD_some]
    have hm := List.mem_of_getElem? hf
    have h3 := prog_fn hg hm (hs.2 f hm)
    have h4 := prog_len hg hm (hs.2 f hm)
    exact ⟨by unfold lowC; simp only [List.length_map]; omega, by omega, by unfold lowC; simp only [List.length_cons, rowsTo_length]; omega⟩

end Go.Proofs.YtpmpjiigmjnniaaGreat

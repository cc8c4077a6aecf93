/-
  NewVm of both sides where the image is good, at the lengths of its first code.
-/
import Derived.Test.YtcpjddkhclaafaaDoorNwG
namespace Go.Proofs.YtcpjddkhclaafaaDoor
open Go.RowKit Go.Deep Exs

theorem specNewVm_g (A : Option Addr) (n c : Nat) (cs : List Cd) (s : Cd) (nv nl : Nat) (w : World) (hr : ReadsC w w.heap.size A n cs) (hsm : SmallI cs) (hg : giB cs = true) (hn : 0 < n) (hs : cs[0]? = some s) (hv : s.vars = (nv : Int)) (h6 : nv ≤ 6) (hl : s.sites.length = nl) (h4 : nl ≤ 4) :
    Calls Tryd.prog 5 #[.agg #[.slice A n c]] w fun e w' => ∃ gf gv gl, e = .returned (.tuple #[.agg #[.slice (some ⟨gf, 0, none⟩) 1 1, .slice none 0 0, .int .i64 0, .int .i64 0, .int .i64 0, .int .i64 1, .slice none 0 0], .bool true]) ∧ One w' w.heap.size gf gv gl nv nl #[.int .i64 0, .int .i64 0, .int .i64 0, .slice none 0 0, .slice (some ⟨gv, 0, none⟩) nv nv, .slice (some ⟨gl, 0, none⟩) nl nl, .int .i64 0, .int .i64 0, .int .i64 0, .int .i64 1, .bool false] (zs nv) (fs nl) ∧ Below w.heap.size w w' := by
  subst hl
  exact specNewVm_good A n c cs s nv w hr hsm hg hn hs hv h6 h4

theorem implNewVm_g (A : Option Addr) (n c : Nat) (cs : List Cd) (s : Cd) (nv nl : Nat) (w : World) (hr : ReadsC w w.heap.size A n cs) (hk : Kinds w) (hpos : 0 < w.heap.size) (hg : giB cs = true) (hn : 0 < n) (hs : cs[0]? = some s) (hv : s.vars = (nv : Int)) (h6 : nv ≤ 6) (hl : s.sites.length = nl) (h4 : nl ≤ 4) :
    Calls Tryd.prog 7 #[.agg #[.slice A n c]] w fun e w' => ∃ gf gv gl, e = .returned (.tuple #[.agg #[.slice (some ⟨gf, 0, none⟩) 1 1, .slice none 0 0, .int .i64 0, .int .i64 0, .int .i64 0, .int .i64 1, .slice none 0 0], .bool true]) ∧ One w' w.heap.size gf gv gl nv nl #[.int .i64 0, .int .i64 0, .int .i64 0, .slice none 0 0, .slice (some ⟨gv, 0, none⟩) nv nv, .slice (some ⟨gl, 0, none⟩) nl nl, .int .i64 0, .int .i64 0, .int .i64 0, .int .i64 1, .bool false] (zs nv) (fs nl) ∧ Below w.heap.size w w' := by
  subst hl
  exact implNewVm_good A n c cs s nv w hr hk hpos hg hn hs hv h6 h4

end Go.Proofs.YtcpjddkhclaafaaDoor

/-
  Contracts of the reference's drawn numbers.
-/
import Derived.Test.YtpknbdaicmacjaaGreatDoorCur
namespace Go.Proofs.YtpknbdaicmacjaaGreatDoor
open Go.RowKit

theorem Room.lit {w : World} {t : TypeId} {k : IntKind} {cs : Array Value} {xs : List Int} {n : Nat} (h : cs.toList = xs.map (Value.int k)) (hn : cs.size = n) : Room (w.alloc (.cells cs t)) w.heap.size t n k xs :=
  ⟨cs, heap_alloc_new _ _, hn, by rw [h, List.take_of_length_le (by simp)]⟩

def nineU : List Int := [0, 1, 127, 128, 16383, 16384, 9223372036854775807, 9223372036854775808, 18446744073709551615]
theorem nineU_range (j : Nat) (h : j < 9) : 0 ≤ nineU.getD j 0 ∧ nineU.getD j 0 ≤ 18446744073709551615 := by
  have : ∀ i : Fin 9, 0 ≤ nineU.getD i.val 0 ∧ nineU.getD i.val 0 ≤ 18446744073709551615 := by decide
  exact this ⟨j, h⟩

/-- What a drawn number is, made from bytes that came in: within bounds, and nothing that was there has turned. -/
def Drawn (k : IntKind) (lo hi : Int) (w : World) (e : Ending) (w' : World) : Prop := ∃ x : Int, lo ≤ x ∧ x ≤ hi ∧ e = .returned (.int k x) ∧ Below w.heap.size w w'

/-- A new cursor. -/
theorem Cur.new {w : World} {A : Option Addr} {n c : Nat} {bs : List Int} (hr : Reads w w.heap.size .u8 A n bs) (hbs : ∀ x ∈ bs, 0 ≤ x ∧ x ≤ 255) (hn : n ≤ 1048576) (T : Nat) :
    Cur (w.alloc (.cells #[.slice A n c, .int .i64 0, .int .u64 0] 48)) w.heap.size A n c T :=
  ⟨0, 0, bs, heap_alloc_new _ _, by omega, by omega, by omega, by omega, hr.below ((Below.refl _ _).alloc (Nat.le_refl _) _), hbs, hn⟩
theorem below_of_cur {w w' : World} {o : Obj} (hg : (w.alloc o).grownBy w' (some w.heap.size)) : Below w.heap.size w w' :=
  ((Below.refl w.heap.size w).alloc (Nat.le_refl _) o).grown hg (by simp) (fun k hk => by injection hk with hk; omega)

end Go.Proofs.YtpknbdaicmacjaaGreatDoor

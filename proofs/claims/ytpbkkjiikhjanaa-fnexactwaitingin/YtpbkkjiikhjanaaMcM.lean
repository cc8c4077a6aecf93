/-
  Machines in memory.
-/
import Derived.Test.YtpbkkjiikhjanaaFrM
namespace Go.Proofs.Ytpbkkjiikhjanaa
open Go.RowKit Exs

structure Mc where
  frames : List Fr
  trace : List Int
  used : Int
  code : Int
  value : Int
  made : Int
  notes : List Row3
/-- Its cells. -/
def mcL (s : Mc) (A1 : Option Addr) (n1 c1 : Nat) (A2 : Option Addr) (n2 c2 : Nat) (A3 : Option Addr) (n3 c3 : Nat) : List Value := [.slice A1 n1 c1, .slice A2 n2 c2, .int .i64 s.used, .int .i64 s.code, .int .i64 s.value, .int .i64 s.made, .slice A3 n3 c3]
def mcV (s : Mc) (A1 : Option Addr) (n1 c1 : Nat) (A2 : Option Addr) (n2 c2 : Nat) (A3 : Option Addr) (n3 c3 : Nat) : Value := .agg #[.slice A1 n1 c1, .slice A2 n2 c2, .int .i64 s.used, .int .i64 s.code, .int .i64 s.value, .int .i64 s.made, .slice A3 n3 c3]
structure IsMc (w : World) (B : Nat) (s : Mc) (A1 : Option Addr) (n1 : Nat) (A2 : Option Addr) (n2 : Nat) (A3 : Option Addr) (n3 : Nat) : Prop where
  frames : ReadsFr w B A1 n1 s.frames
  trace : Reads w B .i64 A2 n2 s.trace
  notes : ReadsR w B A3 n3 s.notes
theorem IsMc.below {w w' : World} {B : Nat} {s : Mc} {A1 : Option Addr} {n1 : Nat} {A2 : Option Addr} {n2 : Nat} {A3 : Option Addr} {n3 : Nat} (h : IsMc w B s A1 n1 A2 n2 A3 n3) (hb : Below B w w') : IsMc w' B s A1 n1 A2 n2 A3 n3 := ⟨h.frames.below hb, h.trace.below hb, h.notes.below hb⟩
theorem IsMc.more {w : World} {B B' : Nat} {s : Mc} {A1 : Option Addr} {n1 : Nat} {A2 : Option Addr} {n2 : Nat} {A3 : Option Addr} {n3 : Nat} (h : IsMc w B s A1 n1 A2 n2 A3 n3) (hB : B ≤ B') : IsMc w B' s A1 n1 A2 n2 A3 n3 := ⟨h.frames.more hB, h.trace.more hB, h.notes.more hB⟩
theorem IsMc.now {w w' : World} {s : Mc} {A1 : Option Addr} {n1 : Nat} {A2 : Option Addr} {n2 : Nat} {A3 : Option Addr} {n3 : Nat} (h : IsMc w w.heap.size s A1 n1 A2 n2 A3 n3) (hb : Below w.heap.size w w') : IsMc w' w'.heap.size s A1 n1 A2 n2 A3 n3 := (h.below hb).more hb.size
/-- Sizes within what the laws let through; within what memory lets be; how many values the laws count. -/
def SmallMc (s : Mc) : Prop := s.frames.length ≤ 1048576 ∧ (∀ x ∈ s.frames, SmallFr x) ∧ s.trace.length ≤ 1048576 ∧ s.notes.length ≤ 1048576
def LongMc (s : Mc) : Prop := s.frames.length ≤ maxLen ∧ (∀ x ∈ s.frames, LongFr x) ∧ s.trace.length ≤ maxLen ∧ s.notes.length ≤ maxLen
def manyMc (s : Mc) : Nat := s.frames.length + manyFrs s.frames + s.trace.length + s.notes.length
structure MMc (w : World) (L : Nat) (s : Mc) (A1 : Option Addr) (n1 : Nat) (A2 : Option Addr) (n2 : Nat) (A3 : Option Addr) (n3 : Nat) : Prop where
  frames : MFrs w L A1 n1 s.frames
  trace : MInts w L A2 n2 s.trace
  notes : MRows w L A3 n3 s.notes
theorem MMc.same {w w' : World} {L : Nat} {s : Mc} {A1 : Option Addr} {n1 : Nat} {A2 : Option Addr} {n2 : Nat} {A3 : Option Addr} {n3 : Nat} (h : MMc w L s A1 n1 A2 n2 A3 n3) (hs : SameFrom L w w') : MMc w' L s A1 n1 A2 n2 A3 n3 := ⟨h.frames.same hs, h.trace.same hs, h.notes.same hs⟩
theorem MMc.from {w : World} {L L' : Nat} {s : Mc} {A1 : Option Addr} {n1 : Nat} {A2 : Option Addr} {n2 : Nat} {A3 : Option Addr} {n3 : Nat} (h : MMc w L s A1 n1 A2 n2 A3 n3) (hL : L' ≤ L) : MMc w L' s A1 n1 A2 n2 A3 n3 := ⟨h.frames.from hL, h.trace.from hL, h.notes.from hL⟩
theorem MMc.reads {w : World} {L : Nat} {s : Mc} {A1 : Option Addr} {n1 : Nat} {A2 : Option Addr} {n2 : Nat} {A3 : Option Addr} {n3 : Nat} (h : MMc w L s A1 n1 A2 n2 A3 n3) : IsMc w w.heap.size s A1 n1 A2 n2 A3 n3 := ⟨h.frames.reads, h.trace.reads, h.notes.reads⟩

end Go.Proofs.Ytpbkkjiikhjanaa

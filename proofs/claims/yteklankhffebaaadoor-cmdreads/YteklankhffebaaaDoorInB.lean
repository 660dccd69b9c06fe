/-
  Bytes that come in.
-/
import Derived.Test.YteklankhffebaaaDoorBase
namespace Go.Proofs.YteklankhffebaaaDoor
open Go.RowKit

/-- Bytes that came in. -/
structure BIn (w : World) (a : Option Addr) (cap : Nat) (l : List Nat) : Prop where
  lies : Lies w a l
  all : AllB l
  big : l.length ≤ 140737488355328
  nil : a = none → cap = 0
  cap : l.length ≤ cap
theorem BIn.below {w w' : World} {a : Option Addr} {cap : Nat} {l : List Nat} (h : BIn w a cap l) (hb : Below w.heap.size w w') : BIn w' a cap l := ⟨h.lies.below hb, h.all, h.big, h.nil, h.cap⟩
end Go.Proofs.YteklankhffebaaaDoor

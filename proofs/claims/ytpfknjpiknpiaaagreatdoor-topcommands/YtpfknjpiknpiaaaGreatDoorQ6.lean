/- Part of the proof. -/
import Derived.Test.YtpfknjpiknpiaaaGreatDoorQNComp
import Derived.Laws.StructEq
namespace Go.Proofs.YtpfknjpiknpiaaaGreatDoorQ
open Go.Proofs.YtpfknjpiknpiaaaGreatDoorM
open Go.RowKit
set_option linter.unusedVariables false
theorem newest_any (pa : Option Addr) (pc : Nat) (L : List Pg) (n : Int) (w : World) (h0 : ¬ n < 1) (h8 : ¬ n > 8) (hl : L.length ≤ 4096) (hp : Pgs w pa L) :
    Calls (Al.progOf Tryz.prog) 11 #[.slice pa L.length pc, .int .i64 n] w fun e w' => NewPost w w' e L := newest_of compact_any pa pc L n w h0 h8 hl hp
--FI
--FI
--FI
theorem Pgs.below {w w' : World} {pa : Option Addr} {L : List Pg} (h : Pgs w pa L) (hb : Below w.heap.size w w') : Pgs w' pa L := by
  rcases h with h | ⟨b, off, e, h⟩
  · exact .inl h
  · exact .inr ⟨b, off, e, h.below hb⟩
end Go.Proofs.YtpfknjpiknpiaaaGreatDoorQ

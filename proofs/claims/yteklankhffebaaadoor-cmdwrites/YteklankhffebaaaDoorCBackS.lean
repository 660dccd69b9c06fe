/-
  What lies there between the calls of CmdWrites.
-/
import Derived.Test.YteklankhffebaaaDoorMathCmd
namespace Go.Proofs.YteklankhffebaaaDoor
open Go.RowKit
set_option linter.unusedVariables false

/-- What lies there between the calls. -/
structure CB (w wx : World) (op id lba cnt fst snd di dq dh ds : Int) (ph : Bool) : Prop where
  bel : Below w.heap.size w wx
  c : Stc wx w.heap.size 23 [.int .i64 op, .int .i64 id, .int .i64 lba, .int .i64 cnt, .int .i64 fst, .int .i64 snd]
  d : Stc wx (w.heap.size + 1) 25 [.int .i64 di, .int .i64 dq, .int .i64 dh, .int .i64 ds, .bool ph]
theorem CB.below {w wx wy : World} {op id lba cnt fst snd di dq dh ds : Int} {ph : Bool} (h : CB w wx op id lba cnt fst snd di dq dh ds ph) (hb : Below wx.heap.size wx wy) : CB w wy op id lba cnt fst snd di dq dh ds ph :=
  ⟨h.bel.trans (hb.mono h.bel.size), h.c.keep (Keep.of_below (S := fun _ => False) hb) (fun e => e), h.d.keep (Keep.of_below (S := fun _ => False) hb) (fun e => e)⟩
end Go.Proofs.YteklankhffebaaaDoor

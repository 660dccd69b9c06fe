/-
  What the calls of Len and keep give.
-/
import Derived.Test.YtphacdnepjpmoafRem
namespace Go.Proofs.Ytphacdnepjpmoaf
open Go.RowKit Go.Maps
set_option linter.unusedVariables false

theorem zeroP (w : World) : (zeroValue 56).run Try.prog w = .ok (.pointer none) w := by kernel_rfl
/-- What is found of an lba. -/
theorem MP.look {w : World} {mb : Nat} {N : List Nd} (h : MP w mb N) (k : Int) (hk : -9223372036854775808 ≤ k ∧ k ≤ 9223372036854775807) :
    (Instr.lookup 55 (.map (some mb)) (.int .i64 k) true).run Try.prog w = .ok (.tuple #[ptr ((fndN N k).map (·.g)), .bool (fndN N k).isSome]) w := by
  obtain ⟨D, hD, hs, hq⟩ := h
  obtain ⟨v, ps, hrun, hv⟩ := hD.look_ok law Try.underlying55 (zeroP w) pEl_none (key_lit k hk)
  rw [(hq k).2] at hv
  have hval : v = ptr ((fndN N k).map (·.g)) := ?_
  · rw [hrun, (hq k).1, hval]
  rcases pEl_inv hv with ⟨e1, e2⟩ | ⟨g, e1, e2⟩
  · rw [e2]
    cases hf : fndN N k with
    | none => rfl
    | some x => rw [hf] at e1; simp [gI] at e1
  · rw [e2]
    cases hf : fndN N k with
    | none => rw [hf] at e1; simp [gI] at e1
    | some x =>
      rw [hf] at e1
      simp only [gI, Int.natCast_inj] at e1
      rw [← e1]
      rfl
theorem MP.len {w : World} {mb : Nat} {N : List Nd} (h : MP w mb N) (ty : TypeId) : (Builtin.len_ #[55] ty #[.map (some mb)]).run Try.prog w = .ok (.int .i64 (N.length : Nat)) w := by
  obtain ⟨D, hD, hs, hq⟩ := h
  rw [hD.len Try.underlying55 ty, hs]
theorem len_any {w : World} {B bb mb most : Nat} {N : List Nd} (h : BU w B bb mb most N) : Calls Try.prog 14 #[.pointer (some ⟨bb, 0, none⟩)] w fun e w' => e = .returned (.int .i64 (N.length : Nat)) ∧ w' = w := by
  have c3 : w.cell? ⟨bb, 3, none⟩ = some (.map (some mb)) := (ptr_at h.bc.bk).trans rfl
  have hl := h.mp.len 3
  go_enter Try.func14, Try.ntmps14
  go_wp2
  go_ret
  exact ⟨rfl, rfl⟩
/-- The item's own block. -/
def iObj (it : It) (a : Option Addr) (cap : Nat) : Obj := .cells #[.int .i64 it.lba, .bool it.gone, .slice a it.data.length cap] 45
set_option maxRecDepth 100000 in
set_option maxHeartbeats 1000000 in
theorem keep_range (w : World) (bb : Nat) (l : Int) (gn : Bool) (sa : Option Addr) (sn sc : Nat) (h : l < 0) :
    Calls Try.prog 19 #[.pointer (some ⟨bb, 0, none⟩), .agg #[.int .i64 l, .bool gn, .slice sa sn sc]] w fun e w' => e = .returned (.iface 48 (.int .i64 1)) ∧ Below w.heap.size w w' := by
  have HB : Hid (Below w.heap.size w (w.alloc (.cells #[.int .i64 l, .bool gn, .slice sa sn sc] 45))) := alloc_below' w _
  go_enter Try.func19, Try.ntmps19
  go_wp2
  go_ret
  exact ⟨rfl, HB.out⟩
set_option maxRecDepth 100000 in
set_option maxHeartbeats 1000000 in
theorem keep_full {w : World} {B bb mb most : Nat} {N : List Nd} (hB : BU w B bb mb most N) (l : Int) (gn : Bool) (sa : Option Addr) (sn sc : Nat) (h : 0 ≤ l) (hl : l ≤ 9223372036854775807) (hf : fndN N l = none) (hm : N.length = most) :
    Calls Try.prog 19 #[.pointer (some ⟨bb, 0, none⟩), .agg #[.int .i64 l, .bool gn, .slice sa sn sc]] w fun e w' => e = .returned (.iface 48 (.int .i64 3)) ∧ Below w.heap.size w w' := by
  have HB : Hid (∀ q, Below w.heap.size w ((w.alloc (.cells #[.int .i64 l, .bool gn, .slice sa sn sc] 45)).drewN q)) := fun q => below_drewN (alloc_below' w _) q
  have hB1 : ∀ q, BU ((w.alloc (.cells #[.int .i64 l, .bool gn, .slice sa sn sc] 45)).drewN q) B bb mb most N := fun q => hB.below (HB.out q)
  have c3 : w.cell? ⟨bb, 3, none⟩ = some (.map (some mb)) := (ptr_at hB.bc.bk).trans rfl
  have c0 : w.cell? ⟨bb, 0, none⟩ = some (.int .i64 most) := (ptr_at hB.bc.bk).trans rfl
  have hbl := heap_lt hB.bc.bk
  have hlk : (Instr.lookup 55 (.map (some mb)) (.int .i64 l) true).run Try.prog (w.alloc (.cells #[.int .i64 l, .bool gn, .slice sa sn sc] 45)).drew = .ok (.tuple #[.pointer none, .bool false]) (w.alloc (.cells #[.int .i64 l, .bool gn, .slice sa sn sc] 45)).drew := by
    have := (hB1 1).mp.look l (by omega)
    rw [hf] at this
    exact this
  have HL : Hid (∀ q, Calls Try.prog 14 #[.pointer (some ⟨bb, 0, none⟩)] ((w.alloc (.cells #[.int .i64 l, .bool gn, .slice sa sn sc] 45)).drewN q) fun e w' => e = .returned (.int .i64 (most : Nat)) ∧ w' = ((w.alloc (.cells #[.int .i64 l, .bool gn, .slice sa sn sc] 45)).drewN q)) := fun q => by
    have := len_any (hB1 q)
    rw [hm] at this
    exact this
  clear hB1 hf hm hB
  go_enter Try.func19, Try.ntmps19
  go_wp2
  go_region
  all_goals (try go_wp2)
  go_quiet (first | exact (HL.out _).mono (fun _ _ ⟨he, hm⟩ => ⟨he, _, hm⟩))
  go_wp2
  go_ret
  exact ⟨rfl, HB.out _⟩
end Go.Proofs.Ytphacdnepjpmoaf

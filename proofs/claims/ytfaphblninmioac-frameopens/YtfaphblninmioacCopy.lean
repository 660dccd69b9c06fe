/-
  A law of my own for 'copy' into a row that is known whole, as one step of a region that draws its order; and what 'make' of bytes gives.
-/
import Derived.Test.YtfaphblninmioacPut
namespace Go.Proofs.Ytfaphblninmioac
open Go.RowKit

theorem keep_setRow (w : World) (g : Nat) (cs : Array Value) : Keep (fun b => b = g) w (w.setRow g cs) :=
  ⟨rfl, rfl, rfl, by simp [World.setRow], fun k _ hk => setRow_other w g k cs hk⟩
theorem copy_step {ops : Array Oper} {o : Oper} {a : Act} {w : World} {K : Act → World → Prop} {Q : Exit → Act → World → Prop} {E : Prop} (hgd : o.guard = none) (d s : Operand)
    (ho : o.op = .call { callee := .builtin .copy, args := #[d, s], argTypes := #[22, 22] }) (g off dLen dCap : Nat) (sb so sLen sCap : Nat)
    (hd : a.eval d = .slice (some ⟨g, off, none⟩) dLen dCap) (hs : a.eval s = .slice (some ⟨sb, so, none⟩) sLen sCap)
    (l xs : List Nat) (hg : w.heap[g]? = some (.cells (l.map bv).toArray 5 (0, 0))) (hn : xs.length = Nat.min sLen dLen)
    (hsrc : ∀ j, j < xs.length → w.cell? ⟨sb, so + j, none⟩ = some (.int .u8 ((xs[j]?.getD 0 : Nat) : Int))) (hfit : off + xs.length ≤ l.length)
    (h : ∀ w', Hid (Row w' g (splice l off xs)) → Keep (fun b => b = g) w w' → K (a.put o.dst (goInt xs.length)) w') :
    if Region.wanted o (yielded ops a.tmps) = true then Oper.wp Try.prog o a w K Q else E := by
  have hw : Region.wanted o (yielded ops a.tmps) = true := by simp [Region.wanted, hgd]
  rw [if_pos hw]
  have hsz : (Try.prog.info? 5).map (·.size) = some 1 := by kernel_rfl
  have hrun := run_copy_row (P := Try.prog) w 22 22 o.type 5 g off dLen dCap ⟨sb, so, none⟩ sLen sCap (l.map bv).toArray 5 (xs.map bv) Try.underlying22 hsz hg (by rw [List.length_map]; exact hn)
    (fun j v hj => by
      have hl : j < xs.length := by
        have := (List.getElem?_eq_some_iff.1 hj).1
        simpa using this
      have e := hsrc j hl
      rw [List.getElem?_map, List.getElem?_eq_getElem hl] at hj
      rw [List.getElem?_eq_getElem hl] at e
      simp only [Option.map_some, Option.some.injEq] at hj
      subst hj
      have hadd : (⟨sb, so, none⟩ : Addr).add j = ⟨sb, so + j, none⟩ := by unfold Addr.add; split <;> simp_all
      rw [hadd, e]
      rfl) (by simpa using hfit) (fun u hu => by obtain ⟨x, _, rfl⟩ := List.mem_map.1 hu; rfl)
  unfold Oper.wp
  simp [execOp, ho, resolve, invoke, builtin, hd, hs, hrun, Result.andThen]
  refine h _ ?_ (keep_setRow _ _ _)
  show _ = _
  rw [setRow_heap w g _ _ 5 _ hg]
  simp [splice, List.map_append, List.map_take, List.map_drop]
theorem copy_lies {ops : Array Oper} {o : Oper} {a : Act} {w : World} {K : Act → World → Prop} {Q : Exit → Act → World → Prop} {E : Prop} (hgd : o.guard = none) (d s : Operand)
    (ho : o.op = .call { callee := .builtin .copy, args := #[d, s], argTypes := #[22, 22] }) (g off dLen dCap : Nat) (sa : Option Addr) (sCap : Nat) (l xs : List Nat)
    (hd : a.eval d = .slice (some ⟨g, off, none⟩) dLen dCap) (hs : a.eval s = .slice sa xs.length sCap)
    (hg : Row w g l) (hn : xs.length ≤ dLen) (hL : Lies w sa xs) (hfit : off + xs.length ≤ l.length)
    (h : ∀ w', Hid (Row w' g (splice l off xs)) → Keep (fun b => b = g) w w' → K (a.put o.dst (goInt xs.length)) w') :
    if Region.wanted o (yielded ops a.tmps) = true then Oper.wp Try.prog o a w K Q else E := by
  rcases hL with rfl | ⟨sb, so, rfl, hc⟩
  · have hw : Region.wanted o (yielded ops a.tmps) = true := by simp [Region.wanted, hgd]
    rw [if_pos hw]
    have hsz : (Try.prog.info? 5).map (·.size) = some 1 := by kernel_rfl
    have hrun := run_copy_none (P := Try.prog) w 22 22 o.type 5 (some ⟨g, off, none⟩) sa dLen dCap 0 sCap Try.underlying22 hsz (Nat.min_eq_left (Nat.zero_le _))
    have hs' : a.eval s = .slice sa 0 sCap := hs
    unfold Oper.wp
    simp [execOp, ho, resolve, invoke, builtin, hd, hs', hrun, Result.andThen]
    exact h _ (by rw [splice_nil]; exact hg) (Keep.refl _ _)
  · exact copy_step hgd d s ho g off dLen dCap sb so xs.length sCap hd hs l xs hg (Nat.min_eq_left hn).symm hc hfit h
theorem info5 : (Try.prog.info? 5).map (fun i => (i.zero, i.size, i.bytes)) = some (some (.int .u8 0), 1, 1) := by kernel_rfl
def mkB (n : Nat) : Array Value := ((List.replicate n 0).map bv).toArray
theorem made_bytes (n : Nat) (hn : n ≤ 1048576) (w : World) : (Instr.makeSlice 22 (.int .i64 (n : Int)) (.int .i64 (n : Int))).run Try.prog w = .ok (.slice (some ⟨w.heap.size, 0, none⟩) n n) (w.alloc (.cells (mkB n) 5)) := by
  obtain ⟨i0, hi, hz0, hz1, hz2⟩ := info_parts info5
  have h := run_make (P := Try.prog) w 22 5 i0 (.int .u8 0) Try.underlying22 hi hz0 .i64 .i64 n n (by omega) (by omega) (by rw [hz2]; omega) (by omega)
  rw [h]
  have e : madeCells (Value.int .u8 0).cells ((n : Int).toNat * i0.size) = mkB n := by
    unfold mkB
    apply Array.toList_inj.1
    rw [hz1, Int.toNat_natCast, Nat.mul_one]
    have := toList_madeCells_one (Value.int .u8 0) n
    simp only [List.map_replicate]
    exact this
  rw [e]
  simp
end Go.Proofs.Ytfaphblninmioac

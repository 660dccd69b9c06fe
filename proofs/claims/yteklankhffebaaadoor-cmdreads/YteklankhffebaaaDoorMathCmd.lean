/-
  Plain mathematics of commands and completions: what is written is read again; bytes that are none of a command's do not count. Structs that are alike are told alike.
-/
import Derived.Test.YteklankhffebaaaDoorFour2
import Derived.Laws.StructEq
namespace Go.Proofs.YteklankhffebaaaDoor
open Go.RowKit
set_option linter.unusedVariables false

theorem holdB_out {x : Int} {m : Nat} (h : holdB x m = true) : 0 ≤ x ∧ x ≤ (m : Int) := of_decide_eq_true h
theorem holdC {op id lba cnt fst snd : Int} (h : holdL CF [op, id, lba, cnt, fst, snd] 6) :
    (0 ≤ op ∧ op ≤ 255) ∧ (0 ≤ id ∧ id ≤ 65535) ∧ (0 ≤ lba ∧ lba ≤ 4611686018427387904) ∧ (0 ≤ cnt ∧ cnt ≤ 4294967295) ∧ (0 ≤ fst ∧ fst ≤ 4611686018427387904) ∧ (0 ≤ snd ∧ snd ≤ 4611686018427387904) :=
  ⟨holdB_out (h 0 (by decide)), holdB_out (h 1 (by decide)), holdB_out (h 2 (by decide)), holdB_out (h 3 (by decide)), holdB_out (h 4 (by decide)), holdB_out (h 5 (by decide))⟩
theorem holdC_of {op id lba cnt fst snd : Int} (h : (0 ≤ op ∧ op ≤ 255) ∧ (0 ≤ id ∧ id ≤ 65535) ∧ (0 ≤ lba ∧ lba ≤ 4611686018427387904) ∧ (0 ≤ cnt ∧ cnt ≤ 4294967295) ∧ (0 ≤ fst ∧ fst ≤ 4611686018427387904) ∧ (0 ≤ snd ∧ snd ≤ 4611686018427387904)) :
    holdL CF [op, id, lba, cnt, fst, snd] 6 := fun j hj => by
  have : j = 0 ∨ j = 1 ∨ j = 2 ∨ j = 3 ∨ j = 4 ∨ j = 5 := by omega
  rcases this with rfl | rfl | rfl | rfl | rfl | rfl
  · exact decide_eq_true h.1
  · exact decide_eq_true h.2.1
  · exact decide_eq_true h.2.2.1
  · exact decide_eq_true h.2.2.2.1
  · exact decide_eq_true h.2.2.2.2.1
  · exact decide_eq_true h.2.2.2.2.2
theorem holdD {id q h st : Int} (hh : holdL DF [id, q, h, st] 4) : (0 ≤ id ∧ id ≤ 65535) ∧ (0 ≤ q ∧ q ≤ 65535) ∧ (0 ≤ h ∧ h ≤ 65535) ∧ (0 ≤ st ∧ st ≤ 255) :=
  ⟨holdB_out (hh 0 (by decide)), holdB_out (hh 1 (by decide)), holdB_out (hh 2 (by decide)), holdB_out (hh 3 (by decide))⟩
theorem holdD_of {id q h st : Int} (hh : (0 ≤ id ∧ id ≤ 65535) ∧ (0 ≤ q ∧ q ≤ 65535) ∧ (0 ≤ h ∧ h ≤ 65535) ∧ (0 ≤ st ∧ st ≤ 255)) : holdL DF [id, q, h, st] 4 := fun j hj => by
  have : j = 0 ∨ j = 1 ∨ j = 2 ∨ j = 3 := by omega
  rcases this with rfl | rfl | rfl | rfl
  · exact decide_eq_true hh.1
  · exact decide_eq_true hh.2.1
  · exact decide_eq_true hh.2.2.1
  · exact decide_eq_true hh.2.2.2
/-- The bytes of a command. -/
theorem wrtC (op id lba cnt fst snd : Int) : wrt CF [op, id, lba, cnt, fst, snd] 64 6 = low 1 op.toNat ++ [0] ++ low 2 id.toNat ++ [0, 0, 0, 0] ++ low 8 lba.toNat ++ low 4 cnt.toNat ++ [0, 0, 0, 0] ++ low 8 fst.toNat ++ low 8 snd.toNat ++ List.replicate 24 0 := rfl
theorem wrtD (id q h st : Int) : wrt DF [id, q, h, st] 16 4 = low 2 id.toNat ++ low 2 q.toNat ++ low 2 h.toNat ++ low 1 st.toNat ++ List.replicate 9 0 := rfl
/-- WHAT IS WRITTEN IS READ. -/
theorem backC {op id lba cnt fst snd : Int} (h : holdL CF [op, id, lba, cnt, fst, snd] 6) :
    ((rdN CF (wrt CF [op, id, lba, cnt, fst, snd] 64 6) 0 : Nat) : Int) = op ∧ ((rdN CF (wrt CF [op, id, lba, cnt, fst, snd] 64 6) 1 : Nat) : Int) = id ∧ ((rdN CF (wrt CF [op, id, lba, cnt, fst, snd] 64 6) 2 : Nat) : Int) = lba ∧ ((rdN CF (wrt CF [op, id, lba, cnt, fst, snd] 64 6) 3 : Nat) : Int) = cnt ∧ ((rdN CF (wrt CF [op, id, lba, cnt, fst, snd] 64 6) 4 : Nat) : Int) = fst ∧ ((rdN CF (wrt CF [op, id, lba, cnt, fst, snd] 64 6) 5 : Nat) : Int) = snd := by
  obtain ⟨h0, h1, h2, h3, h4, h5⟩ := holdC h
  rw [wrtC]
  refine ⟨?_, ?_, ?_, ?_, ?_, ?_⟩
  · show ((num (low 1 op.toNat) : Nat) : Int) = op
    rw [num_low 1 _ (by omega)]; omega
  · show ((num (low 2 id.toNat) : Nat) : Int) = id
    rw [num_low 2 _ (by omega)]; omega
  · show ((num (low 8 lba.toNat) : Nat) : Int) = lba
    rw [num_low 8 _ (by omega)]; omega
  · show ((num (low 4 cnt.toNat) : Nat) : Int) = cnt
    rw [num_low 4 _ (by omega)]; omega
  · show ((num (low 8 fst.toNat) : Nat) : Int) = fst
    rw [num_low 8 _ (by omega)]; omega
  · show ((num (low 8 snd.toNat) : Nat) : Int) = snd
    rw [num_low 8 _ (by omega)]; omega
theorem fitC {op id lba cnt fst snd : Int} {l : List Nat} (h : holdL CF [op, id, lba, cnt, fst, snd] 6) (hr : ∀ i, i < 6 → rdN CF l i = rdN CF (wrt CF [op, id, lba, cnt, fst, snd] 64 6) i) : fitL CF l 6 := fun j hj => by
  obtain ⟨h0, h1, h2, h3, h4, h5⟩ := holdC h
  obtain ⟨b0, b1, b2, b3, b4, b5⟩ := backC h
  rw [hr j hj]
  have : j = 0 ∨ j = 1 ∨ j = 2 ∨ j = 3 ∨ j = 4 ∨ j = 5 := by omega
  rcases this with rfl | rfl | rfl | rfl | rfl | rfl
  · show _ ≤ 255
    omega
  · show _ ≤ 65535
    omega
  · show _ ≤ 4611686018427387904
    omega
  · show _ ≤ 4294967295
    omega
  · show _ ≤ 4611686018427387904
    omega
  · show _ ≤ 4611686018427387904
    omega
theorem doneL_len {v : List Int} {ph : Bool} : (doneL v ph).length = 16 := by
  unfold doneL
  cases ph
  · exact wrt_len okDF 4 (by decide)
  · show ((wrt DF v 16 4).set 7 1).length = 16
    rw [List.length_set]; exact wrt_len okDF 4 (by decide)
theorem AllB.set {l : List Nat} (h : AllB l) (i v : Nat) (hv : v < 256) : AllB (l.set i v) := fun x hx => by
  rcases List.mem_or_eq_of_mem_set hx with h1 | rfl
  · exact h x h1
  · exact hv
theorem doneL_all {v : List Int} {ph : Bool} : AllB (doneL v ph) := by
  unfold doneL
  cases ph
  · exact wrt_all 4
  · exact (wrt_all 4).set 7 1 (by decide)
theorem backD {id q h st : Int} {ph : Bool} (hh : holdL DF [id, q, h, st] 4) :
    ((rdN DF (doneL [id, q, h, st] ph) 0 : Nat) : Int) = id ∧ ((rdN DF (doneL [id, q, h, st] ph) 1 : Nat) : Int) = q ∧ ((rdN DF (doneL [id, q, h, st] ph) 2 : Nat) : Int) = h ∧ ((rdN DF (doneL [id, q, h, st] ph) 3 : Nat) : Int) = st ∧ phB (doneL [id, q, h, st] ph) = ph := by
  obtain ⟨h0, h1, h2, h3⟩ := holdD hh
  unfold doneL
  rw [wrtD]
  cases ph
  · refine ⟨?_, ?_, ?_, ?_, ?_⟩
    · show ((num (low 2 id.toNat) : Nat) : Int) = id
      rw [num_low 2 _ (by omega)]; omega
    · show ((num (low 2 q.toNat) : Nat) : Int) = q
      rw [num_low 2 _ (by omega)]; omega
    · show ((num (low 2 h.toNat) : Nat) : Int) = h
      rw [num_low 2 _ (by omega)]; omega
    · show ((num (low 1 st.toNat) : Nat) : Int) = st
      rw [num_low 1 _ (by omega)]; omega
    · rfl
  · refine ⟨?_, ?_, ?_, ?_, ?_⟩
    · show ((num (low 2 id.toNat) : Nat) : Int) = id
      rw [num_low 2 _ (by omega)]; omega
    · show ((num (low 2 q.toNat) : Nat) : Int) = q
      rw [num_low 2 _ (by omega)]; omega
    · show ((num (low 2 h.toNat) : Nat) : Int) = h
      rw [num_low 2 _ (by omega)]; omega
    · show ((num (low 1 st.toNat) : Nat) : Int) = st
      rw [num_low 1 _ (by omega)]; omega
    · rfl
/-- A byte that none of the fields reads. -/
def Loose (k : Nat) : Prop := k < 64 ∧ ∀ i, i < 6 → k < (gF CF i).a ∨ (gF CF i).a + (gF CF i).k ≤ k
theorem cut_set {l : List Nat} {k v a n : Nat} (h : k < a ∨ a + n ≤ k) : cut (l.set k v) a n = cut l a n := by
  apply List.ext_getElem?
  intro j
  unfold cut
  rw [List.getElem?_take, List.getElem?_take]
  split
  · rw [List.getElem?_drop, List.getElem?_drop, List.getElem?_set_ne (by omega)]
  · rfl
theorem rdN_set {l : List Nat} {k v i : Nat} (h : Loose k) (hi : i < 6) : rdN CF (l.set k v) i = rdN CF l i := by
  unfold rdN
  rw [cut_set (h.2 i hi)]
theorem loose_of {k : Nat} (h : k = 1 ∨ (4 ≤ k ∧ k < 8) ∨ (20 ≤ k ∧ k < 24) ∨ (40 ≤ k ∧ k < 64)) : Loose k := by
  refine ⟨by omega, fun i hi => ?_⟩
  have : i = 0 ∨ i = 1 ∨ i = 2 ∨ i = 3 ∨ i = 4 ∨ i = 5 := by omega
  rcases this with rfl | rfl | rfl | rfl | rfl | rfl
  · show k < 0 ∨ 0 + 1 ≤ k
    omega
  · show k < 2 ∨ 2 + 2 ≤ k
    omega
  · show k < 8 ∨ 8 + 8 ≤ k
    omega
  · show k < 16 ∨ 16 + 4 ≤ k
    omega
  · show k < 24 ∨ 24 + 8 ≤ k
    omega
  · show k < 32 ∨ 32 + 8 ≤ k
    omega
theorem guard_cmd (op : BinOp) (x y : Operand) (xs ys : Array Value) (wz : World) : (eqGuard op 23 x y (.agg xs) (.agg ys)).run Tryd.prog wz = .ok () wz := run_eqGuard_agg wz op _ x y xs ys (by kernel_rfl)
theorem guard_done (op : BinOp) (x y : Operand) (xs ys : Array Value) (wz : World) : (eqGuard op 25 x y (.agg xs) (.agg ys)).run Tryd.prog wz = .ok () wz := run_eqGuard_agg wz op _ x y xs ys (by kernel_rfl)
theorem neq_cmd (a b c d e f : Int) (wz : World) : (binOp .neq 23 (cmdV a b c d e f) (cmdV a b c d e f)).run Tryd.prog wz = .ok (.bool false) wz := by
  have ht : Tryd.prog.underlying 23 = some (.struct (Tryd.prog.fieldsOf 23)) := by kernel_rfl
  have hp : Tryd.prog.stoodInHeld 23 = false := by kernel_rfl
  rw [run_neq_struct, run_equalIn_struct wz 9999 23 _ _ ht hp]
  simp [Program.fieldsOf, Tryd.underlying23, Op.eqFields, go_sem]
theorem eql_cmd (a b c d e f : Int) (wz : World) : (binOp .eql 23 (cmdV a b c d e f) (cmdV a b c d e f)).run Tryd.prog wz = .ok (.bool true) wz := by
  have ht : Tryd.prog.underlying 23 = some (.struct (Tryd.prog.fieldsOf 23)) := by kernel_rfl
  have hp : Tryd.prog.stoodInHeld 23 = false := by kernel_rfl
  rw [run_eql_struct, run_equalIn_struct wz 9999 23 _ _ ht hp]
  simp [Program.fieldsOf, Tryd.underlying23, Op.eqFields, go_sem]
theorem eql_done (a b c d : Int) (p : Bool) (wz : World) : (binOp .eql 25 (doneV a b c d p) (doneV a b c d p)).run Tryd.prog wz = .ok (.bool true) wz := by
  have ht : Tryd.prog.underlying 25 = some (.struct (Tryd.prog.fieldsOf 25)) := by kernel_rfl
  have hp : Tryd.prog.stoodInHeld 25 = false := by kernel_rfl
  rw [run_eql_struct, run_equalIn_struct wz 9999 25 _ _ ht hp]
  simp [Program.fieldsOf, Tryd.underlying25, Op.eqFields, go_sem]
end Go.Proofs.YteklankhffebaaaDoor

/- Part of the proof. -/
import Derived.Test.YtobpjijdebnaoaaDoorQGood
import Derived.Laws.AppendOwnNone
import Derived.Laws.BytesArg
import Derived.Lib.Bytes
namespace Go.Proofs.YtobpjijdebnaoaaDoorQ
open Go.Proofs.YtobpjijdebnaoaaDoorM
open Go.RowKit
set_option linter.unusedVariables false
/-- THE BYTES ys ARE THE CALL's OWN, at a (nil: there are none). -/
def OwnA (w : World) (base : Nat) (a : Option Addr) (cap : Nat) (ys : List Nat) : Prop := w.ownsRow base 5 1 (.slice a ys.length cap) ys.length (ys.map bv)
theorem OwnA.parts {w : World} {base cap : Nat} {a : Option Addr} {ys : List Nat} (h : OwnA w base a cap ys) :
    (a = none ∧ cap = 0 ∧ ys = []) ∨ ∃ g cur, a = some ⟨g, 0, none⟩ ∧ base ≤ g ∧ w.heap[g]? = some (.cells cur 5 (0, 0)) ∧ ys.length ≤ cap ∧ cap ≤ maxLen ∧ cur.size = cap ∧ cur.toList.take ys.length = ys.map bv := by
  rcases h.2 with ⟨h2, h3⟩ | ⟨g, cap', cur, hv, r1, r2, r3, r4, r5, r6⟩
  · simp at h2
    exact Or.inl ⟨h2.1, h2.2.2, h2.2.1⟩
  · simp at hv
    obtain ⟨rfl, rfl⟩ := hv
    exact Or.inr ⟨g, cur, rfl, r1, r2, r3, r4, by simpa using r5, by simpa using r6⟩
theorem OwnA.lies {w : World} {base cap : Nat} {a : Option Addr} {ys : List Nat} (h : OwnA w base a cap ys) : Lies w a ys := by
  rcases h.parts with ⟨_, _, h⟩ | ⟨g, cur, rfl, h1, h2, h3, h4, h5, h6⟩
  · exact Or.inl h
  · refine Or.inr ⟨g, 0, rfl, fun i hi => ?_⟩
    have e : (cur.toList.take ys.length)[i]? = (ys.map bv)[i]? := by rw [h6]
    rw [List.getElem?_take, if_pos hi, List.getElem?_map, List.getElem?_eq_getElem hi] at e
    rw [List.getElem?_eq_getElem hi, Nat.zero_add]
    simp only [World.cell?, h2]
    rw [← Array.getElem?_toList]
    simpa [bv] using e
theorem OwnA.nil0 {w : World} {base cap : Nat} {a : Option Addr} {ys : List Nat} (h : OwnA w base a cap ys) : a = none → cap = 0 := by
  rcases h.parts with ⟨_, h, _⟩ | ⟨g, cur, rfl, _⟩
  · exact fun _ => h
  · exact fun e => by cases e
/-- The blocks that an address names. -/
def blk (a : Option Addr) (b : Nat) : Prop := ∃ x, a = some x ∧ x.block = b
theorem OwnA.ge {w : World} {base cap : Nat} {a : Option Addr} {ys : List Nat} (h : OwnA w base a cap ys) {b : Nat} (hb : blk a b) : base ≤ b ∧ b < w.heap.size := by
  obtain ⟨x, rfl, rfl⟩ := hb
  rcases h.parts with ⟨e, _, _⟩ | ⟨g, cur, e, h1, h2, _⟩
  · cases e
  · cases e
    exact ⟨h1, heap_lt h2⟩
theorem OwnA.keep {S : Nat → Prop} {w w' : World} {base cap : Nat} {a : Option Addr} {ys : List Nat} (h : OwnA w base a cap ys) (hk : Keep S w w') (hs : ∀ b, blk a b → ¬ S b) : OwnA w' base a cap ys := by
  refine ⟨h.1, ?_⟩
  rcases h.2 with h2 | ⟨g, cap', cur, hv, r1, r2, r3⟩
  · exact Or.inl h2
  · have e : a = some ⟨g, 0, none⟩ := by simp at hv; exact hv.1
    exact Or.inr ⟨g, cap', cur, hv, r1, by rw [hk.block g (heap_lt r2) (hs g ⟨_, e, rfl⟩)]; exact r2, r3⟩
theorem OwnA.below {w w' : World} {base cap : Nat} {a : Option Addr} {ys : List Nat} (h : OwnA w base a cap ys) (hb : Below w.heap.size w w') : OwnA w' base a cap ys := h.keep (S := fun _ => False) (Keep.of_below hb) (fun _ _ e => e)
theorem OwnA.base {w : World} {base base' cap : Nat} {a : Option Addr} {ys : List Nat} (h : OwnA w base a cap ys) (hb : base' ≤ base) : OwnA w base' a cap ys := by
  refine ⟨h.1, ?_⟩
  rcases h.2 with h2 | ⟨g, cap', cur, hv, r1, r2⟩
  · exact Or.inl h2
  · exact Or.inr ⟨g, cap', cur, hv, by omega, r2⟩
theorem own_nil (w : World) (base : Nat) : OwnA w base none 0 [] := ⟨rfl, Or.inl ⟨rfl, rfl⟩⟩
theorem own_new (w : World) (base : Nat) (l : List Nat) (hb : base ≤ w.heap.size) (hl : l.length ≤ 1048576) (cs : Array Value) (hcs : cs = (l.map bv).toArray) : OwnA (w.alloc (.cells cs 5)) base (some ⟨w.heap.size, 0, none⟩) l.length l := by
  subst hcs
  refine ⟨by simp, Or.inr ⟨w.heap.size, l.length, (l.map bv).toArray, rfl, hb, heap_alloc_new w _, Nat.le_refl _, by unfold maxLen; omega, by simp, by rw [Nat.mul_one]; exact List.take_of_length_le (by simp)⟩⟩
theorem one_bv (bs : List Nat) : ∀ u ∈ bs.map bv, u.oneCell' = true := by
  intro u hu
  obtain ⟨x, _, rfl⟩ := List.mem_map.1 hu
  rfl
theorem news_of {w : World} {b off : Nat} {bs : List Nat} (hc : ∀ i, i < bs.length → w.cell? ⟨b, off + i, none⟩ = some (.int .u8 ((bs[i]?.getD 0 : Nat) : Int))) : ∀ j u, (bs.map bv)[j]? = some u → w.cell? ((⟨b, off, none⟩ : Addr).add j) = some u := by
  intro j u hj
  have hl : j < bs.length := by
    have := (List.getElem?_eq_some_iff.1 hj).1
    simpa using this
  rw [List.getElem?_map, List.getElem?_eq_getElem hl] at hj
  have e := hc j hl
  rw [List.getElem?_eq_getElem hl] at e
  simp only [Option.map_some, Option.some.injEq] at hj
  subst hj
  have hadd : (⟨b, off, none⟩ : Addr).add j = ⟨b, off + j, none⟩ := by unfold Addr.add; split <;> simp_all
  rw [hadd, e]
  rfl
theorem keep_grown {w w' : World} {a : Option Addr} {n c : Nat} (h : w.grownBy w' (Value.slice a n c).ownBlock) : Keep (blk a) w w' :=
  ⟨h.os, h.tape, h.output, h.size, fun k hk hs => h.block k hk (fun e => hs (by
    cases a with
    | none => cases e
    | some x => exact ⟨x, rfl, by simp [Value.ownBlock] at e; exact e.symm⟩))⟩
/-- APPEND to a slice of the call's own, from bytes that lie anywhere. -/
theorem app_step {ops : Array Oper} {rest : List Oper} {o : Oper} {a : Act} {w : World} {Q : Exit → Act → World → Prop} (hgd : o.guard = none) (s x : Operand)
    (ho : o.op = .call { callee := .builtin .append, args := #[s, x], argTypes := #[22, 22] }) (base : Nat) (a0 : Option Addr) (cap0 : Nat) (ys : List Nat) (hs : a.eval s = .slice a0 ys.length cap0) (hown : OwnA w base a0 cap0 ys)
    (sa : Option Addr) (c : Nat) (zs : List Nat) (hx : a.eval x = .slice sa zs.length c) (hnil : sa = none → c = 0) (hL : Lies w sa zs) (rs : List Nat) (hrs : rs = ys ++ zs) (hb : rs.length ≤ 1048576) (hbase : base ≤ w.heap.size)
    (h : ∀ a1 cap1 w', OwnA w' base a1 cap1 rs → Keep (blk a0) w w' → wpList (Al.progOf Tryd.prog) ops Q rest (a.put o.dst (.slice a1 rs.length cap1)) w') : wpList (Al.progOf Tryd.prog) ops Q (o :: rest) a w := by
  obtain ⟨i0, hi, hz0, hz1, hz2⟩ := info_parts info5
  subst hrs
  rw [List.length_append] at hb
  have fin : ∀ v' w', w'.ownsRow base 5 1 v' (ys.length + zs.length) (ys.map bv ++ zs.map bv) → w.grownBy w' (Value.slice a0 ys.length cap0).ownBlock → wpList (Al.progOf Tryd.prog) ops Q rest (a.put o.dst v') w' := by
    intro v' w' h1 h2
    have hv : ∃ a1 cap1, v' = .slice a1 (ys ++ zs).length cap1 := by
      rcases h1.2 with ⟨e, e2⟩ | ⟨g, cap', cur, e, _⟩
      · exact ⟨none, 0, by rw [e, List.length_append, e2]⟩
      · exact ⟨_, cap', by rw [e, List.length_append]⟩
    obtain ⟨a1, cap1, rfl⟩ := hv
    refine h a1 cap1 w' ?_ (keep_grown h2)
    unfold OwnA
    rw [List.map_append, List.length_append]
    rw [List.length_append] at h1
    exact h1
  have own' : w.ownsRow base 5 1 (.slice a0 ys.length cap0) ys.length (ys.map bv) := hown
  cases hsa : sa with
  | none =>
    subst hsa
    have hz : zs = [] := by
      rcases hL with h | ⟨b, off, e, _⟩
      · exact h
      · cases e
    subst hz
    have hc0 := hnil rfl
    subst hc0
    refine wpList_append_own_none hgd s x 22 ho base 5 i0 1 Al.underlying22 hi _ _ _ hs own' hx ?_
    exact fin _ w (by simpa using own') ⟨rfl, rfl, rfl, Nat.le_refl _, fun _ _ _ => rfl⟩
  | some ad =>
    subst hsa
    refine wpList_append_own _ hgd s x 22 ho base 5 i0 (.int .u8 0) 1 1 Al.underlying22 hi hz0 hz1 hz2 rfl (by decide) _ _ _ hs own' ad zs.length c (zs.map bv) hx (by simp) ?_ (one_bv zs) (by unfold maxLen; omega) (by omega) hbase (fun v' w' h1 h2 _ => fin v' w' h1 h2)
    rcases hL with h | ⟨b, off, e, hc⟩
    · subst h
      intro j u hj
      simp at hj
    · cases e
      exact news_of hc
theorem Keep.blk_below {w w' : World} {a : Option Addr} {B : Nat} (h : Keep (blk a) w w') (hB : B ≤ w.heap.size) (hs : ∀ b, blk a b → B ≤ b) : Below B w w' := h.below hB hs
set_option maxHeartbeats 800000 in
theorem isErased_any (r : Bool) (a : Option Addr) (bs : List Nat) (cap : Nat) (w : World) (hr : r = true ↔ ErasedP bs) (hm : bs.length ≤ 9223372036854775807) (hL : Lies w a bs) :
    Calls (Al.progOf Tryd.prog) 21 #[.slice a bs.length cap] w fun e w' => e = .returned (.bool r) ∧ w' = w := by
  rcases hL with rfl | ⟨b, off, rfl, hc⟩
  · obtain rfl : r = false := by
      cases r
      · rfl
      · exact absurd (hr.1 rfl).1 (by simp)
    clear hr
    go_enter Al.func21, Tryd.ntmps21
    go_wp2
    go_loop [7] (fun i => i = .int .i64 0) (fun _ => 0)
    case atStart => rfl
    case round =>
      subst hrel
      go_wp2
      go_ret
      exact ⟨rfl, rfl⟩
  · have HR : Hid (r = true ↔ ErasedP bs) := hr
    clear hr
    go_enter Al.func21, Tryd.ntmps21
    go_wp2
    go_loop [7] (fun i => ∃ k : Nat, k ≤ bs.length ∧ i = .int .i64 k ∧ Hid (∀ j, j < k → bs[j]?.getD 0 = 255)) (fun i => bs.length - (intOf i).toNat)
    case atStart => exact ⟨0, by omega, rfl, fun j h => by omega⟩
    case round =>
      obtain ⟨k, hk, rfl, hall⟩ := hrel
      by_cases hlt : k < bs.length
      · have hck := hc k hlt
        by_cases h255 : bs[k]?.getD 0 = 255
        · have HN : Hid (∀ j, j < k + 1 → bs[j]?.getD 0 = 255) := fun j hj => by
            by_cases e : j = k
            · subst e; exact h255
            · exact hall.out j (by omega)
          rw [h255] at hck
          clear h255 hall hc
          go_wp2
          go_round
          case rel => exact ⟨k + 1, by omega, by go_num, HN.out⟩
          case measure => simp [intOf]; omega
        · obtain rfl : r = false := by
            cases r
            · rfl
            · exact absurd ((HR.out.1 rfl).2 k hlt) h255
          generalize bs[k]?.getD 0 = X at hck h255
          have hx : ((X : Int) != 255) = true := by simp; omega
          clear h255 hall hc
          go_wp2
          go_ret
          exact ⟨rfl, rfl⟩
      · obtain rfl : k = bs.length := by omega
        by_cases h0 : bs.length = 0
        · obtain rfl : r = false := by
            cases r
            · rfl
            · exact absurd (HR.out.1 rfl).1 (by omega)
          have H0 : Hid (decide (0 < bs.length) = false) := decide_eq_false (by omega)
          clear h0
          go_wp2
          go_ret
          refine ⟨?_, rfl⟩
          show Ending.returned (.bool (decide (0 < bs.length))) = _
          rw [H0.out]
        · obtain rfl : r = true := HR.out.2 ⟨by omega, hall.out⟩
          have H0 : Hid (decide (0 < bs.length) = true) := decide_eq_true (by omega)
          clear h0
          go_wp2
          go_ret
          refine ⟨?_, rfl⟩
          show Ending.returned (.bool (decide (0 < bs.length))) = _
          rw [H0.out]
theorem wrapEq (x : Int) : IntKind.i64.wrap x = wrap64 x := by rw [IntKind.wrap_i64]; unfold wrap64; omega
/-- A number as an int of 64 bits has it. -/
def wr (n : Nat) : Int := IntKind.i64.wrap (n : Int)
theorem wr_small {n : Nat} (h : n < 9223372036854775808) : wr n = (n : Int) := by unfold wr; rw [IntKind.wrap_i64]; omega
theorem wr_neg {n : Nat} (h : 9223372036854775808 ≤ n) (h2 : n < 18446744073709551616) : wr n < 0 := by unfold wr; rw [IntKind.wrap_i64]; omega
theorem wr_bits {n : Nat} (h : n < 18446744073709551616) : (BitVec.ofInt 64 (wr n)).toNat = n := by
  rw [BitVec.toNat_ofInt]
  unfold wr
  rw [IntKind.wrap_i64]
  omega
theorem or_wr {a b : Nat} (ha : a < 18446744073709551616) (hb : b < 18446744073709551616) : bits .or .i64 (wr a) (wr b) = wr (a ||| b) := by
  show IntKind.i64.wrap ((BitVec.ofInt 64 (wr a) ||| BitVec.ofInt 64 (wr b)).toNat : Int) = _
  rw [BitVec.toNat_or, wr_bits ha, wr_bits hb]
  rfl
theorem or_num (l : List Nat) (B : Nat) (hl : AllB l) (hB : B < 256) (hk : l.length < 8) : bits .or .i64 (wr (num l)) (IntKind.i64.wrap ((B : Int) * 2 ^ (8 * l.length))) = wr (num (l ++ [B])) := by
  have e : (B : Int) * 2 ^ (8 * l.length) = ((B * 2 ^ (8 * l.length) : Nat) : Int) := by simp
  have h1 := num_lt l hl
  have hp : 2 ^ (8 * l.length) * 256 ≤ 18446744073709551616 := by
    have : 2 ^ (8 * (l.length + 1)) ≤ 2 ^ 64 := Nat.pow_le_pow_right (by decide) (by omega)
    rw [pow8] at this
    omega
  rw [e, ← num_or l B hl]
  refine or_wr (by omega) ?_
  generalize 2 ^ (8 * l.length) = P at *
  have h3 : B * P ≤ 255 * P := Nat.mul_le_mul_right _ (by omega)
  have h4 : 0 < P := by omega
  omega
set_option maxHeartbeats 800000 in
theorem number_any (b off : Nat) (bs : List Nat) (cap : Nat) (w : World) (hn : bs.length ≤ 8) (hA : AllB bs) (hc : ∀ i, i < bs.length → w.cell? ⟨b, off + i, none⟩ = some (.int .u8 ((bs[i]?.getD 0 : Nat) : Int))) :
    Calls (Al.progOf Tryd.prog) 36 #[.slice (some ⟨b, off, none⟩) bs.length cap] w fun e w' => e = .returned (.int .i64 (wr (num bs))) ∧ w' = w := by
  go_enter Al.func36, Tryd.ntmps36
  go_wp2
  go_loop [3, 8] (fun t i => ∃ k : Nat, k ≤ bs.length ∧ i = .int .i64 k ∧ t = .int .i64 (wr (num (bs.take k)))) (fun _ i => bs.length - (intOf i).toNat)
  case atStart => exact ⟨0, by omega, rfl, rfl⟩
  case round =>
    obtain ⟨k, hk, rfl, rfl⟩ := hrel
    by_cases hlt : k < bs.length
    · have hck := hc k hlt
      have hzk := hA.at k
      have HS : Hid (bits .or .i64 (wr (num (bs.take k))) (wrap64 (((bs[k]?.getD 0 : Nat) : Int) * 2 ^ (8 * k))) = wr (num (bs.take (k + 1)))) := by
        have hl : (bs.take k).length = k := by rw [List.length_take]; omega
        have := or_num (bs.take k) (bs[k]?.getD 0) (hA.take k) hzk (by omega)
        rw [hl] at this
        rw [take_snocN bs k hlt, ← wrapEq]
        exact this
      generalize wr (num (bs.take k)) = V at HS ⊢
      generalize bs[k]?.getD 0 = B at hck hzk HS
      clear hc
      go_wp2
      go_round
      case rel => exact ⟨k + 1, by omega, by go_num, val_int HS.out⟩
      case measure => simp [intOf]; omega
    · obtain rfl : k = bs.length := by omega
      go_wp2
      go_ret
      exact ⟨rfl, rfl⟩
def numsZ (xs : List Nat) : List Int := xs.map Int.ofNat
theorem str_eq (xs ys : List Nat) (hx : AllB xs) (hy : AllB ys) : ((strOfNums (numsZ xs)).toList == (strOfNums (numsZ ys)).toList) = decide (xs = ys) := by
  by_cases h : xs = ys
  · subst h; simp
  · rw [decide_eq_false h, beq_eq_false_iff_ne]
    intro e
    apply h
    have e2 := e
    rw [Lib.strOfNums_toList, Lib.strOfNums_toList] at e2
    unfold Lib.bytesOf at e2
    have hb : ∀ l : List Nat, AllB l → ((numsZ l).map fun n => UInt8.ofNat n.toNat).map UInt8.toNat = l := fun l hl => by
      unfold numsZ
      rw [List.map_map, List.map_map]
      conv => rhs; rw [← List.map_id l]
      apply List.map_congr_left
      intro x hx
      have := hl x hx
      simp
      omega
    rw [← hb xs hx, ← hb ys hy, e2]
theorem numsZ_cell {w : World} {b off : Nat} {xs : List Nat} (hc : ∀ i, i < xs.length → w.cell? ⟨b, off + i, none⟩ = some (.int .u8 ((xs[i]?.getD 0 : Nat) : Int))) : ∀ i, i < xs.length → w.cell? ⟨b, off + i, none⟩ = some (.int .u8 ((numsZ xs).getD i 0)) := fun i hi => by
  rw [hc i hi]
  unfold numsZ
  rw [List.getD_eq_getElem?_getD, List.getElem?_map, List.getElem?_eq_getElem hi]
  rfl
set_option maxHeartbeats 800000 in
theorem equal_any (b off : Nat) (xs : List Nat) (c : Nat) (b2 off2 : Nat) (ys : List Nat) (c2 : Nat) (w : World) (hx : AllB xs) (hy : AllB ys)
    (h1 : ∀ i, i < xs.length → w.cell? ⟨b, off + i, none⟩ = some (.int .u8 ((xs[i]?.getD 0 : Nat) : Int))) (h2 : ∀ i, i < ys.length → w.cell? ⟨b2, off2 + i, none⟩ = some (.int .u8 ((ys[i]?.getD 0 : Nat) : Int))) :
    Calls (Al.progOf Tryd.prog) 23 #[.slice (some ⟨b, off, none⟩) xs.length c, .slice (some ⟨b2, off2, none⟩) ys.length c2] w fun e w' => e = .returned (.bool (decide (xs = ys))) ∧ w' = w := by
  have e1 := run_convert_bytes_arg (P := (Al.progOf Tryd.prog)) w 22 5 Al.underlying22 Al.underlying5 b off xs.length c (numsZ xs) (by simp [numsZ]) (numsZ_cell h1) 9 Al.underlying9
  have e2 := run_convert_bytes_arg (P := (Al.progOf Tryd.prog)) w 22 5 Al.underlying22 Al.underlying5 b2 off2 ys.length c2 (numsZ ys) (by simp [numsZ]) (numsZ_cell h2) 9 Al.underlying9
  have HE : Hid (((strOfNums (numsZ xs)).toList == (strOfNums (numsZ ys)).toList) = decide (xs = ys)) := str_eq xs ys hx hy
  clear h1 h2
  generalize strOfNums (numsZ xs) = S at e1 HE
  generalize strOfNums (numsZ ys) = T at e2 HE
  go_enter Al.func23, Tryd.ntmps23
  go_wp2
  go_ret
  rw [← HE.out]
  exact ⟨rfl, rfl⟩
end Go.Proofs.YtobpjijdebnaoaaDoorQ

/-
  What the call of the document's answer granaryref1.SlotSeq gives: the number and the body of a whole slot; -1, where it is not whole.
-/
import Derived.Test.YtbajdgadljdnkaeDoorRefSlot
namespace Go.Proofs.YtbajdgadljdnkaeDoor
open Go.RowKit
set_option linter.unusedVariables false

/-- What SlotSeq gives. -/
def SqPost (e : Ending) (a : Option Addr) (s : List Nat) (cap : Nat) : Prop :=
  (Whole s ∧ e = .returned (.tuple #[.int .i64 (seqS s : Nat), .slice (dropA a cap 12) (bodyS s).length (cap - 12)])) ∨ (¬ Whole s ∧ e = .returned (.tuple #[.int .i64 (-1), .slice none 0 0]))
theorem seq_parts {s : List Nat} (h : 8 ≤ s.length) : seqS s = num (s.take 7) + s[7]?.getD 0 * 72057594037927936 := by
  unfold seqS
  rw [take_snocN s 7 (by omega), num_snoc, List.length_take, Nat.min_eq_left (by omega)]
theorem seq_small {s : List Nat} (ha : AllB s) (h : 8 ≤ s.length) (h7 : s[7]?.getD 0 ≤ 127) : seqS s < 9223372036854775808 := by
  have h1 := num_lt _ (ha.take 7)
  rw [List.length_take, Nat.min_eq_left (by omega), show 2 ^ (8 * 7) = 72057594037927936 by decide] at h1
  rw [seq_parts h]
  generalize s[7]?.getD 0 = B at *
  generalize num (s.take 7) = N at *
  omega
theorem seq_big {s : List Nat} (h : 8 ≤ s.length) (h7 : 127 < s[7]?.getD 0) : mx < seqS s := by
  rw [seq_parts h]
  generalize s[7]?.getD 0 = B at *
  generalize num (s.take 7) = N at *
  unfold mx
  omega
theorem LookF.seqR {w : World} {b off : Nat} {s : List Nat} {cap : Nat} (h : LookF w b off s cap) (hs : seqS s < 9223372036854775808) : Calls Tryd.prog 35 #[.slice (some ⟨b, off, none⟩) 8 cap] w fun e w' => e = .returned (.int .i64 (seqS s : Nat)) ∧ w' = w := by
  have := ofLow_any b off (s.take 8) cap w (by rw [List.length_take]; omega) (h.all.take 8) hs (cells_take h.cells 8)
  rw [List.length_take, Nat.min_eq_left (by have := h.len; omega)] at this
  exact this
theorem LookF.longR {w : World} {b off : Nat} {s : List Nat} {cap : Nat} (h : LookF w b off s cap) : Calls Tryd.prog 35 #[.slice (some ⟨b, off + 8, none⟩) 4 (cap - 8)] w fun e w' => e = .returned (.int .i64 (longS s : Nat)) ∧ w' = w := by
  have hl := longS_lt h.all
  have := ofLow_any b (off + 8) ((s.drop 8).take 4) (cap - 8) w (by rw [List.length_take]; omega) ((h.all.drop 8).take 4) (by unfold longS at hl; omega) (cells_mid h.cells 8 4 (by have := h.len; omega))
  rw [List.length_take, List.length_drop, Nat.min_eq_left (by have := h.len; omega)] at this
  exact this
set_option maxHeartbeats 800000 in
theorem sq_short (a : Option Addr) (s : List Nat) (cap : Nat) (w : World) (h : s.length < 16) :
    Calls Tryd.prog 22 #[.slice a s.length cap] w fun e w' => SqPost e a s cap ∧ Below w.heap.size w w' := by
  have HP : Hid (SqPost (.returned (.tuple #[.int .i64 (-1), .slice none 0 0])) a s cap) := Or.inr ⟨fun e => by have := e.1; omega, rfl⟩
  have h' : ((s.length : Nat) : Int) < 16 := by omega
  clear h
  go_enter Tryd.func22, Tryd.ntmps22
  go_wp2
  go_ret2
  exact ⟨HP.out, Below.refl _ _⟩
set_option maxHeartbeats 800000 in
theorem sq_seven (b off : Nat) (s : List Nat) (cap : Nat) (w : World) (hF : LookF w b off s cap) (h : 16 ≤ s.length) (h7 : 127 < s[7]?.getD 0) :
    Calls Tryd.prog 22 #[.slice (some ⟨b, off, none⟩) s.length cap] w fun e w' => SqPost e (some ⟨b, off, none⟩) s cap ∧ Below w.heap.size w w' := by
  have HP : Hid (SqPost (.returned (.tuple #[.int .i64 (-1), .slice none 0 0])) (some ⟨b, off, none⟩) s cap) := Or.inr ⟨fun e => by have h1 := e.2.1; have h2 := seq_big (by omega) h7; omega, rfl⟩
  have hl16 : (16 : Int) ≤ ((s.length : Nat) : Int) := by omega
  have hc7 := hF.cells 7 (by omega)
  have h7' : (127 : Int) < ((s[7]?.getD 0 : Nat) : Int) := by omega
  clear hF h h7
  generalize s[7]?.getD 0 = B at *
  go_enter Tryd.func22, Tryd.ntmps22
  go_wp2
  go_ret2
  exact ⟨HP.out, Below.refl _ _⟩
set_option maxRecDepth 20000 in
set_option maxHeartbeats 1600000 in
theorem sq_range (b off : Nat) (s : List Nat) (cap : Nat) (w : World) (hF : LookF w b off s cap) (h : 16 ≤ s.length) (h7 : s[7]?.getD 0 ≤ 127) (hq : mx < seqS s) :
    Calls Tryd.prog 22 #[.slice (some ⟨b, off, none⟩) s.length cap] w fun e w' => SqPost e (some ⟨b, off, none⟩) s cap ∧ Below w.heap.size w w' := by
  have HP : Hid (SqPost (.returned (.tuple #[.int .i64 (-1), .slice none 0 0])) (some ⟨b, off, none⟩) s cap) := Or.inr ⟨fun e => by have h1 := e.2.1; omega, rfl⟩
  have l8 : (8 : Int) ≤ (cap : Int) := by have := hF.len; have := hF.lc; omega
  have l12 : (12 : Int) ≤ (cap : Int) := by have := hF.len; have := hF.lc; omega
  have n8 : ¬ cap = 8 := by omega
  have hl16 : (16 : Int) ≤ ((s.length : Nat) : Int) := by omega
  have hbg := hF.big
  have hc7 := hF.cells 7 (by omega)
  have h7' : ((s[7]?.getD 0 : Nat) : Int) ≤ 127 := by omega
  have hls := longS_lt hF.all
  have HS : Hid (Calls Tryd.prog 35 #[.slice (some ⟨b, off, none⟩) 8 cap] w fun e w' => e = .returned (.int .i64 (seqS s : Nat)) ∧ w' = w) := hF.seqR (seq_small hF.all (by omega) h7)
  have HL : Hid (Calls Tryd.prog 35 #[.slice (some ⟨b, off + 8, none⟩) 4 (cap - 8)] w fun e w' => e = .returned (.int .i64 (longS s : Nat)) ∧ w' = w) := hF.longR
  have HFt : Hid (Calls Tryd.prog 20 #[.int .i64 (seqS s : Nat), .slice none 0 0] w fun e w' => e = .returned (.int .i64 1) ∧ w' = w) := by
    refine (fault_any (seqS s : Nat) none 0 0 w (by omega)).mono ?_
    rintro e w' ⟨rfl, rfl⟩
    refine ⟨?_, rfl⟩
    unfold putE
    rw [if_pos (Or.inr (by unfold mx at hq; omega))]
    rfl
  clear hF h hq h7
  generalize s[7]?.getD 0 = B at *
  generalize longS s = L at *
  generalize seqS s = Q at *
  go_enter Tryd.func22, Tryd.ntmps22
  go_wp2_with fail
  refine HS.out.mono ?_
  rintro e w' ⟨rfl, rfl⟩
  go_wp2_with fail
  refine HL.out.mono ?_
  rintro e w' ⟨rfl, rfl⟩
  go_wp2_with fail
  refine HFt.out.mono ?_
  rintro e w' ⟨rfl, rfl⟩
  clear HS HL HFt
  go_wp2
  go_ret2
  exact ⟨HP.out, Below.refl _ _⟩
/-- .. no fault of the number. -/
theorem fault_no (q : Nat) (w : World) (hq : q ≤ mx) : Calls Tryd.prog 20 #[.int .i64 (q : Nat), .slice none 0 0] w fun e w' => e = .returned (.int .i64 0) ∧ w' = w := by
  refine (fault_any (q : Nat) none 0 0 w (by omega)).mono ?_
  rintro e w' ⟨rfl, rfl⟩
  refine ⟨?_, rfl⟩
  unfold putE
  rw [if_neg (by unfold mx at hq; omega), if_neg (by omega)]
  rfl
set_option maxRecDepth 20000 in
set_option maxHeartbeats 1600000 in
theorem sq_long (b off : Nat) (s : List Nat) (cap : Nat) (w : World) (hF : LookF w b off s cap) (h : 16 ≤ s.length) (h7 : s[7]?.getD 0 ≤ 127) (hq : seqS s ≤ mx) (hL : 4096 < longS s ∨ s.length < 16 + longS s) :
    Calls Tryd.prog 22 #[.slice (some ⟨b, off, none⟩) s.length cap] w fun e w' => SqPost e (some ⟨b, off, none⟩) s cap ∧ Below w.heap.size w w' := by
  have HP : Hid (SqPost (.returned (.tuple #[.int .i64 (-1), .slice none 0 0])) (some ⟨b, off, none⟩) s cap) := Or.inr ⟨fun e => by have h1 := e.1; have h2 := e.2.2.1; omega, rfl⟩
  have l8 : (8 : Int) ≤ (cap : Int) := by have := hF.len; have := hF.lc; omega
  have l12 : (12 : Int) ≤ (cap : Int) := by have := hF.len; have := hF.lc; omega
  have n8 : ¬ cap = 8 := by omega
  have hl16 : (16 : Int) ≤ ((s.length : Nat) : Int) := by omega
  have hbg := hF.big
  have hc7 := hF.cells 7 (by omega)
  have h7' : ((s[7]?.getD 0 : Nat) : Int) ≤ 127 := by omega
  have hls := longS_lt hF.all
  have HS : Hid (Calls Tryd.prog 35 #[.slice (some ⟨b, off, none⟩) 8 cap] w fun e w' => e = .returned (.int .i64 (seqS s : Nat)) ∧ w' = w) := hF.seqR (seq_small hF.all (by omega) h7)
  have HL : Hid (Calls Tryd.prog 35 #[.slice (some ⟨b, off + 8, none⟩) 4 (cap - 8)] w fun e w' => e = .returned (.int .i64 (longS s : Nat)) ∧ w' = w) := hF.longR
  have HFt : Hid (Calls Tryd.prog 20 #[.int .i64 (seqS s : Nat), .slice none 0 0] w fun e w' => e = .returned (.int .i64 0) ∧ w' = w) := fault_no _ w hq
  clear hF h hq h7
  generalize s[7]?.getD 0 = B at *
  generalize longS s = L at *
  generalize seqS s = Q at *
  by_cases hL1 : 4096 < L
  · have hL1' : (4096 : Int) < (L : Int) := by omega
    clear hL hL1
    go_enter Tryd.func22, Tryd.ntmps22
    go_wp2_with fail
    refine HS.out.mono ?_
    rintro e w' ⟨rfl, rfl⟩
    go_wp2_with fail
    refine HL.out.mono ?_
    rintro e w' ⟨rfl, rfl⟩
    go_wp2_with fail
    refine HFt.out.mono ?_
    rintro e w' ⟨rfl, rfl⟩
    clear HS HL HFt
    go_wp2
    go_ret2
    exact ⟨HP.out, Below.refl _ _⟩
  · have hL1' : (L : Int) ≤ (4096 : Int) := by omega
    have hL2' : ((s.length : Nat) : Int) < 16 + (L : Int) := by omega
    clear hL hL1
    go_enter Tryd.func22, Tryd.ntmps22
    go_wp2_with fail
    refine HS.out.mono ?_
    rintro e w' ⟨rfl, rfl⟩
    go_wp2_with fail
    refine HL.out.mono ?_
    rintro e w' ⟨rfl, rfl⟩
    go_wp2_with fail
    refine HFt.out.mono ?_
    rintro e w' ⟨rfl, rfl⟩
    clear HS HL HFt
    go_wp2
    go_ret2
    exact ⟨HP.out, Below.refl _ _⟩
theorem add0 (a : Option Addr) : a.map (·.add 0) = a := by
  cases a with
  | none => rfl
  | some a => obtain ⟨b, o, s⟩ := a; cases s <;> rfl
theorem slice_toN (a : Option Addr) (n cap p : Nat) (q : Int) (hq : q = (p : Int)) (h : p ≤ cap) (w : World) : (Instr.slice 23 (.slice a n cap) none (some (.int .i64 q)) none).run Tryd.prog w = .ok (.slice a p cap) w := by
  subst hq
  have hu : Tryd.prog.underlying 23 = some (.slice (Tryd.prog.elem 23)) := by kernel_rfl
  have hs : (sizeOf (Tryd.prog.elem 23)).run Tryd.prog w = .ok 1 w := by kernel_rfl
  rw [run_slice_h w 23 _ n cap hu .i64 (p : Int) (by omega) (by omega), hs]
  simp [Result.andThen, sliced, add0]
theorem Lies.take {w : World} {a : Option Addr} {bs : List Nat} (h : Lies w a bs) (k : Nat) : Lies w a (bs.take k) := by
  rcases h with h | ⟨b, off, rfl, h⟩
  · exact Or.inl (by rw [h, List.take_nil])
  · refine Or.inr ⟨b, off, rfl, fun i hi => ?_⟩
    rw [List.length_take] at hi
    rw [List.getElem?_take, if_pos (by omega)]
    exact h i (by omega)
theorem whole_iff2 {s : List Nat} (h : 16 + longS s ≤ s.length) (hq : seqS s ≤ mx) (hl : longS s ≤ 4096) : decide (slotL (seqS s) (bodyS s) = s.take (16 + longS s)) = decide (Whole s) := by
  rw [decide_eq_decide]
  exact ⟨fun e => ⟨h, hq, hl, e.symm⟩, fun e => e.2.2.2.symm⟩
set_option maxRecDepth 20000 in
set_option maxHeartbeats 1600000 in
theorem sq_put (b off : Nat) (s : List Nat) (cap : Nat) (w : World) (hF : LookF w b off s cap) (h : 16 ≤ s.length) (h7 : s[7]?.getD 0 ≤ 127) (hq : seqS s ≤ mx) (hl : longS s ≤ 4096) (hle : 16 + longS s ≤ s.length) :
    Calls Tryd.prog 22 #[.slice (some ⟨b, off, none⟩) s.length cap] w fun e w' => SqPost e (some ⟨b, off, none⟩) s cap ∧ Below w.heap.size w w' := by
  have HY : Hid (Whole s → SqPost (.returned (.tuple #[.int .i64 (seqS s : Nat), .slice (dropA (some ⟨b, off, none⟩) cap 12) (longS s) (cap - 12)])) (some ⟨b, off, none⟩) s cap) := fun e => Or.inl ⟨e, by rw [bodyS_len (by omega)]⟩
  have HN : Hid (¬ Whole s → SqPost (.returned (.tuple #[.int .i64 (-1), .slice none 0 0])) (some ⟨b, off, none⟩) s cap) := fun e => Or.inr ⟨e, rfl⟩
  have l8 : (8 : Int) ≤ (cap : Int) := by have := hF.len; have := hF.lc; omega
  have l12 : (12 : Int) ≤ (cap : Int) := by have := hF.len; have := hF.lc; omega
  have n8 : ¬ cap = 8 := by omega
  have hl16 : (16 : Int) ≤ ((s.length : Nat) : Int) := by omega
  have hbg := hF.big
  have hc7 := hF.cells 7 (by omega)
  have h7' : ((s[7]?.getD 0 : Nat) : Int) ≤ 127 := by omega
  have hls := longS_lt hF.all
  have HS : Hid (Calls Tryd.prog 35 #[.slice (some ⟨b, off, none⟩) 8 cap] w fun e w' => e = .returned (.int .i64 (seqS s : Nat)) ∧ w' = w) := hF.seqR (seq_small hF.all (by omega) h7)
  have HL : Hid (Calls Tryd.prog 35 #[.slice (some ⟨b, off + 8, none⟩) 4 (cap - 8)] w fun e w' => e = .returned (.int .i64 (longS s : Nat)) ∧ w' = w) := hF.longR
  have HFt : Hid (Calls Tryd.prog 20 #[.int .i64 (seqS s : Nat), .slice none 0 0] w fun e w' => e = .returned (.int .i64 0) ∧ w' = w) := fault_no _ w hq
  have HOf : Hid (Calls Tryd.prog 21 #[.int .i64 (seqS s : Nat), .slice (dropA (some ⟨b, off, none⟩) cap 12) (longS s) (cap - 12)] w fun e w' => OwnPost w w' e (slotL (seqS s) (bodyS s))) := by
    have := slotOf_any (seqS s) (dropA (some ⟨b, off, none⟩) cap 12) (bodyS s) (cap - 12) w hq (by rw [bodyS_len (by omega)]; exact hl) (bodyS_all hF.all) (hF.lies.body hF.lc) (fun e => by unfold dropA at e; split at e <;> simp at e)
    rw [bodyS_len (by omega)] at this
    exact this
  obtain ⟨M, HM⟩ : ∃ M, Hid (M = 16 + longS s) := ⟨_, rfl⟩
  have HBy : Hid (∀ wz g c, Below w.heap.size w wz → Lies wz g (slotL (seqS s) (bodyS s)) → Calls Tryd.prog 13 #[.slice g (slotL (seqS s) (bodyS s)).length c, .slice (some ⟨b, off, none⟩) M cap] wz fun e w' => e = .returned (.bool (decide (Whole s))) ∧ Below wz.heap.size wz w') := fun wz g c hb hz => by
    rw [← whole_iff2 hle hq hl, HM.out]
    have := bytes_any g (some ⟨b, off, none⟩) (slotL (seqS s) (bodyS s)) (s.take (16 + longS s)) c cap wz (by rw [slotL_len, bodyS_len (by omega)]; omega) (by rw [List.length_take]; omega) hz ((hF.lies.below hb).take _)
    rw [List.length_take, Nat.min_eq_left hle] at this
    exact this
  have hsl := fun wz => slice_mid (some ⟨b, off, none⟩) s.length cap (longS s) (by have := hF.lc; omega) wz
  have hst := fun wz => slice_toN (some ⟨b, off, none⟩) s.length cap M (16 + ((longS s : Nat) : Int)) (by rw [HM.out]; omega) (by rw [HM.out]; have := hF.lc; omega) wz
  have hl' : ((longS s : Nat) : Int) ≤ 4096 := by omega
  have hle' : 16 + ((longS s : Nat) : Int) ≤ ((s.length : Nat) : Int) := by omega
  have HBT : Hid (Whole s → decide (Whole s) = true) := fun e => decide_eq_true e
  have HBF : Hid (¬ Whole s → decide (Whole s) = false) := fun e => decide_eq_false e
  generalize decide (Whole s) = BW at HBy HBT HBF
  obtain ⟨P, HPP⟩ : ∃ P, Hid (slotL (seqS s) (bodyS s) = P) := ⟨_, rfl⟩
  rw [HPP.out] at HOf HBy
  have w12 : IntKind.i64.wrap (12 + ((longS s : Nat) : Int)) = 12 + ((longS s : Nat) : Int) := by rw [IntKind.wrap_i64]; omega
  clear hF h hq hl hle HPP HM h7
  generalize dropA (some ⟨b, off, none⟩) cap 12 = DA at *
  generalize s[7]?.getD 0 = B at *
  generalize longS s = L at *
  generalize seqS s = Q at *
  go_enter Tryd.func22, Tryd.ntmps22
  go_wp2_with fail
  refine HS.out.mono ?_
  rintro e w' ⟨rfl, rfl⟩
  go_wp2_with fail
  refine HL.out.mono ?_
  rintro e w' ⟨rfl, rfl⟩
  go_wp2_with fail
  refine HFt.out.mono ?_
  rintro e w' ⟨rfl, rfl⟩
  clear HS HL HFt
  go_wp2_with fail
  refine HOf.out.mono ?_
  rintro e w1 ⟨a1, c1, rfl, o1, b1⟩
  clear HOf
  by_cases hW : Whole s
  · have HH : Hid (Calls Tryd.prog 13 #[.slice a1 P.length c1, .slice (some ⟨b, off, none⟩) M cap] w1 fun e w' => e = .returned (.bool true) ∧ Below w1.heap.size w1 w') := by
      have := HBy.out w1 a1 c1 b1 o1.lies
      rw [HBT.out hW] at this
      exact this
    have HR' : Hid (SqPost (.returned (.tuple #[.int .i64 (Q : Nat), .slice DA L (cap - 12)])) (some ⟨b, off, none⟩) s cap) := HY.out hW
    clear HY HN HBT HBF HBy hW o1
    go_wp2_with fail
    refine HH.out.mono ?_
    rintro e w2 ⟨rfl, b2⟩
    have bb := b1.trans (b2.mono b1.size)
    clear HH b1 b2 hst
    go_wp2
    go_quiet (fail)
    go_wp2
    have bb2 := below_drewN bb nq
    go_ret2
    exact ⟨HR'.out, bb2⟩
  · have HH : Hid (Calls Tryd.prog 13 #[.slice a1 P.length c1, .slice (some ⟨b, off, none⟩) M cap] w1 fun e w' => e = .returned (.bool false) ∧ Below w1.heap.size w1 w') := by
      have := HBy.out w1 a1 c1 b1 o1.lies
      rw [HBF.out hW] at this
      exact this
    have HR' : Hid (SqPost (.returned (.tuple #[.int .i64 (-1), .slice none 0 0])) (some ⟨b, off, none⟩) s cap) := HN.out hW
    clear HY HN HBT HBF HBy hW o1
    go_wp2_with fail
    refine HH.out.mono ?_
    rintro e w2 ⟨rfl, b2⟩
    have bb := b1.trans (b2.mono b1.size)
    clear HH b1 b2
    go_wp2
    go_ret2
    exact ⟨HR'.out, bb⟩
theorem slotSeq_any (a : Option Addr) (s : List Nat) (cap : Nat) (w : World) (hI : BIn w a cap s) :
    Calls Tryd.prog 22 #[.slice a s.length cap] w fun e w' => SqPost e a s cap ∧ Below w.heap.size w w' := by
  by_cases h1 : s.length < 16
  · exact sq_short a s cap w h1
  · obtain ⟨b, off, rfl, hc⟩ := hI.lies.some_of (by omega)
    have hF : LookF w b off s cap := ⟨by omega, hI.big, hI.lc, hI.all, hc⟩
    by_cases h7 : 127 < s[7]?.getD 0
    · exact sq_seven b off s cap w hF (by omega) h7
    · by_cases hq : mx < seqS s
      · exact sq_range b off s cap w hF (by omega) (by omega) hq
      · by_cases hL : 4096 < longS s ∨ s.length < 16 + longS s
        · exact sq_long b off s cap w hF (by omega) (by omega) (by omega) hL
        · exact sq_put b off s cap w hF (by omega) (by omega) (by omega) (by omega) (by omega)
end Go.Proofs.YtbajdgadljdnkaeDoor

/-
  What the call of slot.open gives: the number and the body of a whole slot; that it is not whole.
-/
import Derived.Test.YtbajdgadljdnkaeDoorPut
namespace Go.Proofs.YtbajdgadljdnkaeDoor
open Go.RowKit
set_option linter.unusedVariables false

/-- Where a slice begins that is cut from place l on. -/
def dropA (a : Option Addr) (cap l : Nat) : Option Addr := if cap = l then a else a.map (·.add l)
/-- A slice from 12 on, of L bytes. -/
theorem slice_mid (a : Option Addr) (n cap L : Nat) (h : 12 + L ≤ cap) (w : World) : (Instr.slice 23 (.slice a n cap) (some (.int .i64 12)) (some (.int .i64 (12 + (L : Int)))) none).run Tryd.prog w = .ok (.slice (dropA a cap 12) L (cap - 12)) w := by
  have hu : Tryd.prog.underlying 23 = some (.slice (Tryd.prog.elem 23)) := by kernel_rfl
  have hs : (sizeOf (Tryd.prog.elem 23)).run Tryd.prog w = .ok 1 w := by kernel_rfl
  rw [run_slice_lh w 23 _ n cap hu .i64 .i64 (12 : Int) (12 + (L : Int)) (by omega) (by omega) (by omega), hs]
  have e : (12 + (L : Int)).toNat - 12 = L := by omega
  simp [Result.andThen, sliced, dropA, e]
theorem Lies.mid {w : World} {a : Option Addr} {bs : List Nat} {cap : Nat} (h : Lies w a bs) (l k : Nat) (hc : bs.length ≤ cap) : Lies w (dropA a cap l) ((bs.drop l).take k) := by
  by_cases hl : l < bs.length
  · rcases h with h | ⟨b, off, rfl, h⟩
    · rw [h] at hl; simp at hl
    · refine Or.inr ⟨b, off + l, ?_, fun i hi => ?_⟩
      · unfold dropA
        rw [if_neg (by omega)]
        simp [Go.WideShapes.add_plain]
      · rw [List.length_take, List.length_drop] at hi
        rw [List.getElem?_take, if_pos (by omega), List.getElem?_drop, Nat.add_assoc]
        exact h (l + i) (by omega)
  · exact Or.inl (by rw [List.drop_eq_nil_of_le (by omega), List.take_nil])
theorem Lies.body {w : World} {a : Option Addr} {s : List Nat} {cap : Nat} (h : Lies w a s) (hc : s.length ≤ cap) : Lies w (dropA a cap 12) (bodyS s) := h.mid 12 (longS s) hc
theorem Lies.some_of {w : World} {a : Option Addr} {p : List Nat} (h : Lies w a p) (h0 : 0 < p.length) : ∃ b off, a = some ⟨b, off, none⟩ ∧ ∀ i, i < p.length → w.cell? ⟨b, off + i, none⟩ = some (.int .u8 ((p[i]?.getD 0 : Nat) : Int)) := by
  rcases h with h | h
  · rw [h] at h0; exact absurd h0 (Nat.not_lt_zero _)
  · exact h
theorem cells_mid {w : World} {b off : Nat} {p : List Nat} (hc : ∀ i, i < p.length → w.cell? ⟨b, off + i, none⟩ = some (.int .u8 ((p[i]?.getD 0 : Nat) : Int))) (o k : Nat) (h : o + k ≤ p.length) : ∀ i, i < ((p.drop o).take k).length → w.cell? ⟨b, off + o + i, none⟩ = some (.int .u8 ((((p.drop o).take k)[i]?.getD 0 : Nat) : Int)) := fun i hi => by
  rw [List.length_take, List.length_drop] at hi
  rw [List.getElem?_take, if_pos (by omega), List.getElem?_drop, Nat.add_assoc]
  exact hc (o + i) (by omega)
/-- What open gives. -/
def OpPost (e : Ending) (a : Option Addr) (s : List Nat) (cap : Nat) : Prop :=
  (Whole s ∧ e = .returned (.tuple #[.int .i64 (seqS s : Nat), .slice (dropA a cap 12) (bodyS s).length (cap - 12), .bool true])) ∨ (¬ Whole s ∧ e = .returned (.tuple #[.int .i64 0, .slice none 0 0, .bool false]))
set_option maxHeartbeats 800000 in
theorem look_short (a : Option Addr) (s : List Nat) (cap : Nat) (w : World) (h : s.length < 12) :
    Calls Tryd.prog 36 #[.slice a s.length cap] w fun e w' => OpPost e a s cap ∧ Below w.heap.size w w' := by
  have HP : Hid (OpPost (.returned (.tuple #[.int .i64 0, .slice none 0 0, .bool false])) a s cap) := Or.inr ⟨fun e => by have := e.1; omega, rfl⟩
  have h' : ((s.length : Nat) : Int) < 12 := by omega
  clear h
  go_enter Tryd.func36, Tryd.ntmps36
  go_wp2
  go_ret3
  exact ⟨HP.out, Below.refl _ _⟩
/-- What a look at twelve bytes and more meets. -/
structure LookF (w : World) (b off : Nat) (s : List Nat) (cap : Nat) : Prop where
  len : 12 ≤ s.length
  big : s.length ≤ 9223372036854775807
  lc : s.length ≤ cap
  all : AllB s
  cells : ∀ i, i < s.length → w.cell? ⟨b, off + i, none⟩ = some (.int .u8 ((s[i]?.getD 0 : Nat) : Int))
theorem LookF.lies {w : World} {b off : Nat} {s : List Nat} {cap : Nat} (h : LookF w b off s cap) : Lies w (some ⟨b, off, none⟩) s := Or.inr ⟨b, off, rfl, h.cells⟩
theorem LookF.seq {w : World} {b off : Nat} {s : List Nat} {cap : Nat} (h : LookF w b off s cap) : Calls Tryd.prog 46 #[.slice (some ⟨b, off, none⟩) 8 cap] w fun e w' => e = .returned (.int .i64 (wr (seqS s))) ∧ w' = w := by
  have := number_any b off (s.take 8) cap w (by rw [List.length_take]; omega) (h.all.take 8) (cells_take h.cells 8)
  rw [List.length_take, Nat.min_eq_left (by have := h.len; omega)] at this
  exact this
theorem LookF.long {w : World} {b off : Nat} {s : List Nat} {cap : Nat} (h : LookF w b off s cap) : Calls Tryd.prog 46 #[.slice (some ⟨b, off + 8, none⟩) 4 (cap - 8)] w fun e w' => e = .returned (.int .i64 (longS s : Nat)) ∧ w' = w := by
  have := number_any b (off + 8) ((s.drop 8).take 4) (cap - 8) w (by rw [List.length_take]; omega) ((h.all.drop 8).take 4) (cells_mid h.cells 8 4 (by have := h.len; omega))
  rw [List.length_take, List.length_drop, Nat.min_eq_left (by have := h.len; omega), wr_small (n := num ((s.drop 8).take 4)) (by have := longS_lt h.all; unfold longS at this; omega)] at this
  exact this
set_option maxHeartbeats 1600000 in
theorem look_long (b off : Nat) (s : List Nat) (cap : Nat) (w : World) (hF : LookF w b off s cap) (h : s.length < 12 + longS s) :
    Calls Tryd.prog 36 #[.slice (some ⟨b, off, none⟩) s.length cap] w fun e w' => OpPost e (some ⟨b, off, none⟩) s cap ∧ Below w.heap.size w w' := by
  have HP : Hid (OpPost (.returned (.tuple #[.int .i64 0, .slice none 0 0, .bool false])) (some ⟨b, off, none⟩) s cap) := Or.inr ⟨fun e => by have := e.1; omega, rfl⟩
  have HS : Hid (Calls Tryd.prog 46 #[.slice (some ⟨b, off, none⟩) 8 cap] w fun e w' => e = .returned (.int .i64 (wr (seqS s))) ∧ w' = w) := hF.seq
  have HL : Hid (Calls Tryd.prog 46 #[.slice (some ⟨b, off + 8, none⟩) 4 (cap - 8)] w fun e w' => e = .returned (.int .i64 (longS s : Nat)) ∧ w' = w) := hF.long
  have hl12 : (12 : Int) ≤ ((s.length : Nat) : Int) := by have := hF.len; omega
  have hbg := hF.big
  have l8 : (8 : Int) ≤ (cap : Int) := by have := hF.len; have := hF.lc; omega
  have l12 : (12 : Int) ≤ (cap : Int) := by have := hF.len; have := hF.lc; omega
  have n8 : ¬ cap = 8 := by omega
  have hlt : ((s.length : Nat) : Int) - 12 < ((longS s : Nat) : Int) := by omega
  have hls := longS_lt hF.all
  generalize longS s = L at *
  generalize wr (seqS s) = Q at *
  clear hF h
  go_enter Tryd.func36, Tryd.ntmps36
  go_wp2_with fail
  refine HS.out.mono ?_
  rintro e w' ⟨rfl, rfl⟩
  go_wp2_with fail
  refine HL.out.mono ?_
  rintro e w' ⟨rfl, rfl⟩
  clear HS HL
  go_wp2
  go_ret3
  exact ⟨HP.out, Below.refl _ _⟩
set_option maxRecDepth 20000 in
set_option maxHeartbeats 1600000 in
theorem look_err (b off : Nat) (s : List Nat) (cap : Nat) (w : World) (hF : LookF w b off s cap) (h : 12 + longS s ≤ s.length) (hE : putE (wr (seqS s)) (longS s) ≠ 0) :
    Calls Tryd.prog 36 #[.slice (some ⟨b, off, none⟩) s.length cap] w fun e w' => OpPost e (some ⟨b, off, none⟩) s cap ∧ Below w.heap.size w w' := by
  have HP : Hid (OpPost (.returned (.tuple #[.int .i64 0, .slice none 0 0, .bool false])) (some ⟨b, off, none⟩) s cap) := by
    refine Or.inr ⟨fun e => hE ?_, rfl⟩
    obtain ⟨_, h2, h3, _⟩ := e
    unfold mx at h2
    unfold putE
    rw [wr_small (by omega), if_neg (by omega), if_neg (by omega)]
  have HS : Hid (Calls Tryd.prog 46 #[.slice (some ⟨b, off, none⟩) 8 cap] w fun e w' => e = .returned (.int .i64 (wr (seqS s))) ∧ w' = w) := hF.seq
  have HL : Hid (Calls Tryd.prog 46 #[.slice (some ⟨b, off + 8, none⟩) 4 (cap - 8)] w fun e w' => e = .returned (.int .i64 (longS s : Nat)) ∧ w' = w) := hF.long
  have HPut : Hid (Calls Tryd.prog 19 #[.int .i64 (wr (seqS s)), .slice (dropA (some ⟨b, off, none⟩) cap 12) (longS s) (cap - 12)] w fun e w' => (∃ n : Nat, e = .returned (.tuple #[.slice none 0 0, .iface 28 (.int .i64 (n : Nat))])) ∧ Below w.heap.size w w') := by
    have := put_any (wr (seqS s)) (dropA (some ⟨b, off, none⟩) cap 12) (bodyS s) (cap - 12) w (bodyS_all hF.all) (hF.lies.body hF.lc) (fun e => by unfold dropA at e; split at e <;> simp at e)
    rw [bodyS_len h] at this
    refine this.mono ?_
    rintro e w' ⟨h1, ⟨_, h2⟩ | ⟨h2, _⟩⟩
    · rw [bodyS_len h] at h2
      exact ⟨⟨_, h2⟩, h1⟩
    · rw [bodyS_len h] at h2
      exact absurd h2 hE
  have hl12 : (12 : Int) ≤ ((s.length : Nat) : Int) := by have := hF.len; omega
  have hbg := hF.big
  have l8 : (8 : Int) ≤ (cap : Int) := by have := hF.len; have := hF.lc; omega
  have l12 : (12 : Int) ≤ (cap : Int) := by have := hF.len; have := hF.lc; omega
  have n8 : ¬ cap = 8 := by omega
  have hge : ((longS s : Nat) : Int) ≤ ((s.length : Nat) : Int) - 12 := by omega
  have hls := longS_lt hF.all
  have hsl := fun wz => slice_mid (some ⟨b, off, none⟩) s.length cap (longS s) (by have := hF.lc; omega) wz
  generalize dropA (some ⟨b, off, none⟩) cap 12 = DA at *
  generalize longS s = L at *
  generalize wr (seqS s) = Q at *
  clear hF h hE
  go_enter Tryd.func36, Tryd.ntmps36
  go_wp2_with fail
  refine HS.out.mono ?_
  rintro e w' ⟨rfl, rfl⟩
  go_wp2_with fail
  refine HL.out.mono ?_
  rintro e w' ⟨rfl, rfl⟩
  clear HS HL
  go_wp2_with fail
  refine HPut.out.mono ?_
  rintro e w' ⟨⟨n, rfl⟩, hb⟩
  clear HPut
  go_wp2
  go_ret3
  exact ⟨HP.out, hb⟩
/-- Whether it is whole is what HasPrefix says. -/
theorem whole_iff {s : List Nat} (h : 12 + longS s ≤ s.length) (hq : seqS s ≤ mx) (hl : longS s ≤ 4096) : decide ((slotL (seqS s) (bodyS s)).length ≤ s.length ∧ s.take (slotL (seqS s) (bodyS s)).length = slotL (seqS s) (bodyS s)) = decide (Whole s) := by
  rw [decide_eq_decide, slotL_len, bodyS_len h]
  exact ⟨fun e => ⟨e.1, hq, hl, e.2⟩, fun e => ⟨e.1, e.2.2.2⟩⟩
set_option maxRecDepth 20000 in
set_option maxHeartbeats 1600000 in
theorem look_put (b off : Nat) (s : List Nat) (cap : Nat) (w : World) (hF : LookF w b off s cap) (h : 12 + longS s ≤ s.length) (hq : seqS s ≤ mx) (hl : longS s ≤ 4096) :
    Calls Tryd.prog 36 #[.slice (some ⟨b, off, none⟩) s.length cap] w fun e w' => OpPost e (some ⟨b, off, none⟩) s cap ∧ Below w.heap.size w w' := by
  have HY : Hid (Whole s → OpPost (.returned (.tuple #[.int .i64 (seqS s : Nat), .slice (dropA (some ⟨b, off, none⟩) cap 12) (longS s) (cap - 12), .bool true])) (some ⟨b, off, none⟩) s cap) := fun e => Or.inl ⟨e, by rw [bodyS_len h]⟩
  have HN : Hid (¬ Whole s → OpPost (.returned (.tuple #[.int .i64 0, .slice none 0 0, .bool false])) (some ⟨b, off, none⟩) s cap) := fun e => Or.inr ⟨e, rfl⟩
  have hwr : wr (seqS s) = (seqS s : Nat) := wr_small (by unfold mx at hq; omega)
  have HS : Hid (Calls Tryd.prog 46 #[.slice (some ⟨b, off, none⟩) 8 cap] w fun e w' => e = .returned (.int .i64 (seqS s : Nat)) ∧ w' = w) := by
    have := hF.seq
    rw [hwr] at this
    exact this
  have HL : Hid (Calls Tryd.prog 46 #[.slice (some ⟨b, off + 8, none⟩) 4 (cap - 8)] w fun e w' => e = .returned (.int .i64 (longS s : Nat)) ∧ w' = w) := hF.long
  have HPut : Hid (Calls Tryd.prog 19 #[.int .i64 (seqS s : Nat), .slice (dropA (some ⟨b, off, none⟩) cap 12) (longS s) (cap - 12)] w fun e w' => (∃ g c, e = .returned (.tuple #[.slice (some ⟨g, 0, none⟩) (slotL (seqS s) (bodyS s)).length c, .nilIface]) ∧ Lies w' (some ⟨g, 0, none⟩) (slotL (seqS s) (bodyS s))) ∧ Below w.heap.size w w') := by
    have := put_ok (seqS s) (dropA (some ⟨b, off, none⟩) cap 12) (bodyS s) (cap - 12) w hq (by rw [bodyS_len h]; exact hl) (bodyS_all hF.all) (hF.lies.body hF.lc) (fun e => by unfold dropA at e; split at e <;> simp at e)
    rw [bodyS_len h] at this
    refine this.mono ?_
    rintro e w' ⟨a1, c1, h1, h2, h3⟩
    rcases h2.parts with ⟨_, _, e0⟩ | ⟨g, cur, rfl, _⟩
    · have := congrArg List.length e0
      rw [slotL_len] at this
      simp at this
    · exact ⟨⟨g, c1, h1, h2.lies⟩, h3⟩
  have HPre : Hid (∀ wz g c, Below w.heap.size w wz → Lies wz (some ⟨g, 0, none⟩) (slotL (seqS s) (bodyS s)) → Calls Tryd.prog 47 #[.slice (some ⟨b, off, none⟩) s.length cap, .slice (some ⟨g, 0, none⟩) (slotL (seqS s) (bodyS s)).length c] wz fun e w' => e = .returned (.bool (decide (Whole s))) ∧ w' = wz) := fun wz g c hb hz => by
    rw [← whole_iff h hq hl]
    obtain ⟨g', o', e, hc2⟩ := hz.some_of (by rw [slotL_len]; omega)
    cases e
    obtain ⟨b', off', e, hc1⟩ := (hF.lies.below hb).some_of (by omega)
    cases e
    exact hasPrefix_any b off s cap g 0 (slotL (seqS s) (bodyS s)) c wz hF.all (slotL_all _ (bodyS_all hF.all)) hF.lc hc1 hc2
  have hl12 : (12 : Int) ≤ ((s.length : Nat) : Int) := by have := hF.len; omega
  have hbg := hF.big
  have l8 : (8 : Int) ≤ (cap : Int) := by have := hF.len; have := hF.lc; omega
  have l12 : (12 : Int) ≤ (cap : Int) := by have := hF.len; have := hF.lc; omega
  have n8 : ¬ cap = 8 := by omega
  have hge : ((longS s : Nat) : Int) ≤ ((s.length : Nat) : Int) - 12 := by omega
  have hls := longS_lt hF.all
  have hsl := fun wz => slice_mid (some ⟨b, off, none⟩) s.length cap (longS s) (by have := hF.lc; omega) wz
  have HBT : Hid (Whole s → decide (Whole s) = true) := fun e => decide_eq_true e
  have HBF : Hid (¬ Whole s → decide (Whole s) = false) := fun e => decide_eq_false e
  generalize decide (Whole s) = BW at HPre HBT HBF
  obtain ⟨P, HPP⟩ : ∃ P, Hid (slotL (seqS s) (bodyS s) = P) := ⟨_, rfl⟩
  rw [HPP.out] at HPut HPre
  clear hwr hF h hq hl HPP
  generalize dropA (some ⟨b, off, none⟩) cap 12 = DA at *
  generalize longS s = L at *
  generalize seqS s = Q at *
  go_enter Tryd.func36, Tryd.ntmps36
  go_wp2_with fail
  refine HS.out.mono ?_
  rintro e w' ⟨rfl, rfl⟩
  go_wp2_with fail
  refine HL.out.mono ?_
  rintro e w' ⟨rfl, rfl⟩
  clear HS HL
  go_wp2_with fail
  refine HPut.out.mono ?_
  rintro e w' ⟨⟨g, c, rfl, hz⟩, hb⟩
  clear HPut
  by_cases hW : Whole s
  · have HH : Hid (Calls Tryd.prog 47 #[.slice (some ⟨b, off, none⟩) s.length cap, .slice (some ⟨g, 0, none⟩) P.length c] w' fun e w'' => e = .returned (.bool true) ∧ w'' = w') := by
      have := HPre.out w' g c hb hz
      rw [HBT.out hW] at this
      exact this
    have HR := HY.out hW
    have HR' : Hid (OpPost (.returned (.tuple #[.int .i64 (Q : Nat), .slice DA L (cap - 12), .bool true])) (some ⟨b, off, none⟩) s cap) := HR
    clear HR HY HN HPre hW hz
    go_wp2_with fail
    refine HH.out.mono ?_
    rintro e w'' ⟨rfl, rfl⟩
    clear HH
    go_wp2
    go_ret3
    exact ⟨HR'.out, hb⟩
  · have HH : Hid (Calls Tryd.prog 47 #[.slice (some ⟨b, off, none⟩) s.length cap, .slice (some ⟨g, 0, none⟩) P.length c] w' fun e w'' => e = .returned (.bool false) ∧ w'' = w') := by
      have := HPre.out w' g c hb hz
      rw [HBF.out hW] at this
      exact this
    have HR' : Hid (OpPost (.returned (.tuple #[.int .i64 0, .slice none 0 0, .bool false])) (some ⟨b, off, none⟩) s cap) := HN.out hW
    clear HY HN HPre hW hz
    go_wp2_with fail
    refine HH.out.mono ?_
    rintro e w'' ⟨rfl, rfl⟩
    clear HH
    go_wp2
    go_ret3
    exact ⟨HR'.out, hb⟩
/-- WHAT THE WALKS ARE TOLD OF BYTES THAT COME IN. -/
structure BIn (w : World) (a : Option Addr) (cap : Nat) (s : List Nat) : Prop where
  all : AllB s
  lies : Lies w a s
  lc : s.length ≤ cap
  nil : a = none → cap = 0
  big : s.length ≤ 9223372036854775807
theorem BIn.below {w w' : World} {a : Option Addr} {cap : Nat} {s : List Nat} (h : BIn w a cap s) (hb : Below w.heap.size w w') : BIn w' a cap s := ⟨h.all, h.lies.below hb, h.lc, h.nil, h.big⟩
theorem look_any (a : Option Addr) (s : List Nat) (cap : Nat) (w : World) (hI : BIn w a cap s) :
    Calls Tryd.prog 36 #[.slice a s.length cap] w fun e w' => OpPost e a s cap ∧ Below w.heap.size w w' := by
  by_cases h1 : s.length < 12
  · exact look_short a s cap w h1
  · obtain ⟨b, off, rfl, hc⟩ := hI.lies.some_of (by omega)
    have hF : LookF w b off s cap := ⟨by omega, hI.big, hI.lc, hI.all, hc⟩
    by_cases h2 : s.length < 12 + longS s
    · exact look_long b off s cap w hF h2
    · by_cases h3 : putE (wr (seqS s)) (longS s) = 0
      · obtain ⟨e1, e2, e3⟩ := putE_no h3
        have hlt := seqS_lt hI.all
        have hq : seqS s ≤ mx := by
          unfold mx
          by_cases h4 : seqS s < 9223372036854775808
          · rw [wr_small h4] at e2; omega
          · have := wr_neg (n := seqS s) (by omega) hlt; omega
        exact look_put b off s cap w hF (by omega) hq e3
      · exact look_err b off s cap w hF (by omega) h3
end Go.Proofs.YtbajdgadljdnkaeDoor

/-
  What the law SlotSafe gives: true, whatever the two, the new one and where it breaks off.
-/
import Derived.Test.YtbajdgadljdnkafDoorLaw
import Derived.Test.YtbajdgadljdnkafDoorTold
namespace Go.Proofs.YtbajdgadljdnkafDoor
open Go.RowKit
set_option linter.unusedVariables false

theorem slice_toN (a : Option Addr) (n cap p : Nat) (h : p ≤ cap) (w : World) : (Instr.slice 22 (.slice a n cap) none (some (.int .i64 (p : Int))) none).run Tryd.prog w = .ok (.slice a p cap) w := by
  have hu : Tryd.prog.underlying 22 = some (.slice (Tryd.prog.elem 22)) := by kernel_rfl
  have hs : (sizeOf (Tryd.prog.elem 22)).run Tryd.prog w = .ok 1 w := by kernel_rfl
  have add0 : a.map (·.add 0) = a := by
    cases a with
    | none => rfl
    | some a => obtain ⟨b, o, s⟩ := a; cases s <;> rfl
  rw [run_slice_h w 22 _ n cap hu .i64 (p : Int) (by omega) (by omega), hs]
  simp [Result.andThen, sliced, add0]
theorem Lies.take {w : World} {a : Option Addr} {bs : List Nat} (h : Lies w a bs) (k : Nat) : Lies w a (bs.take k) := by
  rcases h with h | ⟨b, off, rfl, h⟩
  · exact Or.inl (by rw [h, List.take_nil])
  · refine Or.inr ⟨b, off, rfl, fun i hi => ?_⟩
    rw [List.length_take] at hi
    rw [List.getElem?_take, if_pos (by omega)]
    exact h i (by omega)
/-- A beginning of what was put, as it comes in. -/
theorem cut_in {w : World} {base cap : Nat} {a : Option Addr} {P : List Nat} (h : OwnA w base a cap P) (hA : AllB P) (hl : P.length ≤ 8192) (c : Nat) : BIn w a cap (P.take c) :=
  ⟨hA.take c, h.lies.take c, by rw [List.length_take]; have := h.cap; omega, h.nil0, by rw [List.length_take]; omega⟩
set_option maxRecDepth 100000 in
set_option maxHeartbeats 3200000 in
theorem safe_bad_none (a b d : Option Addr) (s t l : List Nat) (ca cb cd : Nat) (q cut : Int) (w : World) (hA : BIn w a ca s) (hB : BIn w b cb t) (hD : BIn w d cd l) (h : putE q l.length ≠ 0) (hsel : sel s t = none) :
    Calls Tryd.prog 3 #[.slice a s.length ca, .slice b t.length cb, .int .i64 q, .slice d l.length cd, .int .i64 cut] w fun e w' => e = .returned (.bool true) ∧ Below w.heap.size w w' := by
  have HP' : Hid (Calls Tryd.prog 4 #[.int .i64 3, .slice (some ⟨w.heap.size, 0, none⟩) 1 1] (w.alloc (.cells #[.int .u8 1] 5)) fun e w' => (∃ a c, e = .returned (.tuple #[.slice a 17 c, .nilIface])) ∧ Below w.heap.size w w') := fact_put w
  have HC : Hid (∀ wz, Below w.heap.size w wz → Calls Tryd.prog 5 #[.slice a s.length ca, .slice b t.length cb] wz fun e w' => e = .returned (.tuple #[.int .i64 0, .int .i64 0, .slice none 0 0, .iface 33 (.int .i64 4)]) ∧ Below wz.heap.size wz w') := fun wz hb => choose_no (hA.below hb) (hB.below hb) hsel
  have HB : Hid (∀ wz, Below w.heap.size w wz → Calls Tryd.prog 4 #[.int .i64 q, .slice d l.length cd] wz fun e w' => (∃ n : Nat, e = .returned (.tuple #[.slice none 0 0, .iface 33 (.int .i64 (n : Nat))])) ∧ Below wz.heap.size wz w') := fun wz hb => (put_bad q d l cd wz (hD.below hb) h).mono fun e w' hh => ⟨⟨_, hh.1⟩, hh.2⟩
  clear hA hB hD h hsel
  go_enter Tryd.func3, Tryd.ntmps3
  go_wp2_with fail
  refine HP'.out.mono ?_
  rintro e w1 ⟨⟨a1, c1, rfl⟩, b1⟩
  clear HP'
  go_wp2_with fail
  refine (HC.out w1 b1).mono ?_
  rintro e w2 ⟨rfl, b2⟩
  have bb2 := b1.trans (b2.mono b1.size)
  clear b1 b2 HC
  go_wp2_with fail
  refine (HB.out w2 bb2).mono ?_
  rintro e w3 ⟨⟨n, rfl⟩, b3⟩
  have bb3 := bb2.trans (b3.mono bb2.size)
  clear b3 HB
  go_wp2
  go_ret
  exact ⟨rfl, bb3⟩
set_option maxRecDepth 100000 in
set_option maxHeartbeats 3200000 in
theorem safe_bad_some (a b d : Option Addr) (s t l : List Nat) (ca cb cd : Nat) (q cut : Int) (w : World) (hA : BIn w a ca s) (hB : BIn w b cb t) (hD : BIn w d cd l) (h : putE q l.length ≠ 0) (k : Nat) (X : List Nat) (hsel : sel s t = some (k, X)) :
    Calls Tryd.prog 3 #[.slice a s.length ca, .slice b t.length cb, .int .i64 q, .slice d l.length cd, .int .i64 cut] w fun e w' => e = .returned (.bool true) ∧ Below w.heap.size w w' := by
  have HP' : Hid (Calls Tryd.prog 4 #[.int .i64 3, .slice (some ⟨w.heap.size, 0, none⟩) 1 1] (w.alloc (.cells #[.int .u8 1] 5)) fun e w' => (∃ a c, e = .returned (.tuple #[.slice a 17 c, .nilIface])) ∧ Below w.heap.size w w') := fact_put w
  have HC : Hid (∀ wz, Below w.heap.size w wz → Calls Tryd.prog 5 #[.slice a s.length ca, .slice b t.length cb] wz fun e w' => ∃ a1 c1, e = .returned (.tuple #[.int .i64 (k : Nat), .int .i64 (seqS X : Nat), .slice a1 (bodyS X).length c1, .nilIface]) ∧ OwnA w' wz.heap.size a1 c1 (bodyS X) ∧ Below wz.heap.size wz w') := fun wz hb => choose_yes (hA.below hb) (hB.below hb) hsel
  have HB : Hid (∀ wz, Below w.heap.size w wz → Calls Tryd.prog 4 #[.int .i64 q, .slice d l.length cd] wz fun e w' => (∃ n : Nat, e = .returned (.tuple #[.slice none 0 0, .iface 33 (.int .i64 (n : Nat))])) ∧ Below wz.heap.size wz w') := fun wz hb => (put_bad q d l cd wz (hD.below hb) h).mono fun e w' hh => ⟨⟨_, hh.1⟩, hh.2⟩
  clear hA hB hD h hsel
  generalize seqS X = QX at *
  generalize bodyS X = BX at *
  go_enter Tryd.func3, Tryd.ntmps3
  go_wp2_with fail
  refine HP'.out.mono ?_
  rintro e w1 ⟨⟨a1, c1, rfl⟩, b1⟩
  clear HP'
  go_wp2_with fail
  refine (HC.out w1 b1).mono ?_
  rintro e w2 ⟨a2, c2, rfl, o2, b2⟩
  have bb2 := b1.trans (b2.mono b1.size)
  clear b1 b2 HC
  go_wp2_with fail
  refine (HB.out w2 bb2).mono ?_
  rintro e w3 ⟨⟨n, rfl⟩, b3⟩
  have bb3 := bb2.trans (b3.mono bb2.size)
  clear b3 HB
  go_wp2
  go_ret
  exact ⟨rfl, bb3⟩
set_option maxRecDepth 100000 in
set_option maxHeartbeats 3200000 in
theorem safe_old (a b d : Option Addr) (s t l : List Nat) (ca cb cd : Nat) (n : Nat) (cut : Int) (w : World) (hA : BIn w a ca s) (hB : BIn w b cb t) (hD : BIn w d cd l) (hn : n ≤ mx) (hl : l.length ≤ 4096) (k : Nat) (X : List Nat) (hsel : sel s t = some (k, X)) (hold : n ≤ seqS X) :
    Calls Tryd.prog 3 #[.slice a s.length ca, .slice b t.length cb, .int .i64 n, .slice d l.length cd, .int .i64 cut] w fun e w' => e = .returned (.bool true) ∧ Below w.heap.size w w' := by
  have HP' : Hid (Calls Tryd.prog 4 #[.int .i64 3, .slice (some ⟨w.heap.size, 0, none⟩) 1 1] (w.alloc (.cells #[.int .u8 1] 5)) fun e w' => (∃ a c, e = .returned (.tuple #[.slice a 17 c, .nilIface])) ∧ Below w.heap.size w w') := fact_put w
  have HC : Hid (∀ wz, Below w.heap.size w wz → Calls Tryd.prog 5 #[.slice a s.length ca, .slice b t.length cb] wz fun e w' => ∃ a1 c1, e = .returned (.tuple #[.int .i64 (k : Nat), .int .i64 (seqS X : Nat), .slice a1 (bodyS X).length c1, .nilIface]) ∧ OwnA w' wz.heap.size a1 c1 (bodyS X) ∧ Below wz.heap.size wz w') := fun wz hb => choose_yes (hA.below hb) (hB.below hb) hsel
  have HB : Hid (∀ wz, Below w.heap.size w wz → Calls Tryd.prog 4 #[.int .i64 n, .slice d l.length cd] wz fun e w' => ∃ a1 c1, e = .returned (.tuple #[.slice a1 (slotL n l).length c1, .nilIface]) ∧ OwnA w' wz.heap.size a1 c1 (slotL n l) ∧ Below wz.heap.size wz w') := fun wz hb => put_ok n d l cd wz hn hl hD.all (hD.below hb).lies hD.nil
  have hlen : 16 ≤ (slotL n l).length := by rw [slotL_len]; omega
  have hold' : (n : Int) ≤ ((seqS X : Nat) : Int) := by omega
  clear hA hB hD hn hsel hold
  generalize slotL n l = P at *
  generalize seqS X = QX at *
  generalize bodyS X = BX at *
  have hne : (((P.length : Nat) : Int) == 0) = false := by rw [beq_eq_false_iff_ne]; omega
  go_enter Tryd.func3, Tryd.ntmps3
  go_wp2_with fail
  refine HP'.out.mono ?_
  rintro e w1 ⟨⟨a1, c1, rfl⟩, b1⟩
  clear HP'
  go_wp2_with fail
  refine (HC.out w1 b1).mono ?_
  rintro e w2 ⟨a2, c2, rfl, o2, b2⟩
  have bb2 := b1.trans (b2.mono b1.size)
  clear b1 b2 HC
  go_wp2_with fail
  refine (HB.out w2 bb2).mono ?_
  rintro e w3 ⟨a3, c3, rfl, o3, b3⟩
  have bb3 := bb2.trans (b3.mono bb2.size)
  clear b3 HB o3 o2
  go_wp2
  go_ret
  exact ⟨rfl, bb3⟩
set_option maxRecDepth 100000 in
set_option maxHeartbeats 3200000 in
theorem safe_none (a b d : Option Addr) (s t l : List Nat) (ca cb cd : Nat) (n : Nat) (cut : Int) (w : World) (hE : EType w) (hA : BIn w a ca s) (hB : BIn w b cb t) (hD : BIn w d cd l) (hn : n ≤ mx) (hl : l.length ≤ 4096) (hcut : -9223372036854775808 ≤ cut ∧ cut ≤ 9223372036854775807) (hsel : sel s t = none) :
    Calls Tryd.prog 3 #[.slice a s.length ca, .slice b t.length cb, .int .i64 n, .slice d l.length cd, .int .i64 cut] w fun e w' => e = .returned (.bool true) ∧ Below w.heap.size w w' := by
  have HP' : Hid (Calls Tryd.prog 4 #[.int .i64 3, .slice (some ⟨w.heap.size, 0, none⟩) 1 1] (w.alloc (.cells #[.int .u8 1] 5)) fun e w' => (∃ a c, e = .returned (.tuple #[.slice a 17 c, .nilIface])) ∧ Below w.heap.size w w') := fact_put w
  have HC : Hid (∀ wz, Below w.heap.size w wz → Calls Tryd.prog 5 #[.slice a s.length ca, .slice b t.length cb] wz fun e w' => e = .returned (.tuple #[.int .i64 0, .int .i64 0, .slice none 0 0, .iface 33 (.int .i64 4)]) ∧ Below wz.heap.size wz w') := fun wz hb => choose_no (hA.below hb) (hB.below hb) hsel
  have HB : Hid (∀ wz, Below w.heap.size w wz → Calls Tryd.prog 4 #[.int .i64 n, .slice d l.length cd] wz fun e w' => ∃ a1 c1, e = .returned (.tuple #[.slice a1 (slotL n l).length c1, .nilIface]) ∧ OwnA w' wz.heap.size a1 c1 (slotL n l) ∧ Below wz.heap.size wz w') := fun wz hb => put_ok n d l cd wz hn hl hD.all (hD.below hb).lies hD.nil
  have HPl : Hid ((slotL n l).length = 16 + l.length ∧ AllB (slotL n l)) := ⟨slotL_len n l, slotL_all n hD.all⟩
  have hlen : 16 ≤ (slotL n l).length := by rw [slotL_len]; omega
  have hle2 : (slotL n l).length ≤ 8192 := by rw [slotL_len]; omega
  have HN : Hid (∀ wz, Below w.heap.size w wz → Calls Tryd.prog 7 #[.slice a s.length ca, .slice b t.length cb] wz fun e w' => e = .returned (.int .i64 0) ∧ Below wz.heap.size wz w') := fun wz hb => by
    have := next_any a b s t ca cb wz (hA.below hb) (hB.below hb)
    rw [nextF_none hsel] at this
    exact this
  have hfull : sel (slotL n l) t = some (0, slotL n l) := put_whole_none hsel (slot_whole hn hl)
  have hcutd : ∀ c, c < 16 + l.length → sel ((slotL n l).take c) t = none := fun c hc => put_cut_none hsel (slot_cut hl hc)
  have HF : Hid (∀ wz a3 c3, Below w.heap.size w wz → OwnA wz w.heap.size a3 c3 (slotL n l) → Calls Tryd.prog 5 #[.slice a3 (slotL n l).length c3, .slice b t.length cb] wz fun e w' => ∃ a1 c1, e = .returned (.tuple #[.int .i64 0, .int .i64 (n : Nat), .slice a1 (l).length c1, .nilIface]) ∧ OwnA w' wz.heap.size a1 c1 (l) ∧ Below wz.heap.size wz w') := fun wz a3 c3 hb ho => by
    have hZ := cut_in ho HPl.out.2 hle2 (slotL n l).length
    rw [List.take_length] at hZ
    have := choose_yes hZ (hB.below hb) hfull
    rw [slot_seq l hn, slot_body hl] at this
    exact this
  have HT : Hid (∀ wz a3 c3 c, Below w.heap.size w wz → OwnA wz w.heap.size a3 c3 (slotL n l) → c < (slotL n l).length → Calls Tryd.prog 5 #[.slice a3 c c3, .slice b t.length cb] wz fun e w' => e = .returned (.tuple #[.int .i64 0, .int .i64 0, .slice none 0 0, .iface 33 (.int .i64 4)]) ∧ Below wz.heap.size wz w') := fun wz a3 c3 c hb ho hc => by
    have hZ := cut_in ho HPl.out.2 hle2 c
    have := choose_no hZ (hB.below hb) (hcutd c (by rw [← HPl.out.1]; exact hc))
    rw [List.length_take, Nat.min_eq_left (by omega)] at this
    exact this
  have HLd : Hid (∀ wz, Below w.heap.size w wz → Lies wz d l) := fun wz hb => (hD.below hb).lies
  have HEr : Hid (∀ wz, Below w.heap.size w wz → Calls Tryd.prog 9 #[.iface 33 (.int .i64 4), .int .i64 4] wz fun e w' => e = .returned (.bool true) ∧ Below wz.heap.size wz w') := fun wz hb => error_same 4 wz (hE.below hb hE.pos)
  have HCut : Hid (-9223372036854775808 ≤ cut ∧ cut ≤ 9223372036854775807) := hcut
  clear hA hB hD hn hsel hfull hcutd HPl hE hcut
  generalize slotL n l = P at *
  have hne : (((P.length : Nat) : Int) == 0) = false := by rw [beq_eq_false_iff_ne]; omega
  go_enter Tryd.func3, Tryd.ntmps3
  go_wp2_with fail
  refine HP'.out.mono ?_
  rintro e w1 ⟨⟨a1, c1, rfl⟩, b1⟩
  clear HP'
  go_wp2_with fail
  refine (HC.out w1 b1).mono ?_
  rintro e w2 ⟨rfl, b2⟩
  have bb2 := b1.trans (b2.mono b1.size)
  clear b1 b2 HC
  go_wp2_with fail
  refine (HB.out w2 bb2).mono ?_
  rintro e w3 ⟨a3, c3, rfl, o3, b3⟩
  have bb3 := bb2.trans (b3.mono bb2.size)
  have O3 := o3.base bb2.size
  clear b3 HB o3 bb2
  have HPk : Hid (Calls Tryd.prog 6 #[.int .i64 cut, .int .i64 (((P.length : Nat) : Int) + 1)] w3 fun e w' => (∃ k : Nat, k < P.length + 1 ∧ e = .returned (.int .i64 (k : Nat))) ∧ w' = w3) := pick_any cut (P.length + 1) w3 (by omega) (by omega) HCut.out
  go_wp2_with fail
  refine HPk.out.mono ?_
  rintro e w' ⟨⟨c, hc, rfl⟩, rfl⟩
  have hsl := slice_toN a3 P.length c3 c (by have := O3.cap; omega)
  clear HPk
  go_wp2_with fail
  refine (HN.out _ bb3).mono ?_
  rintro e w4 ⟨rfl, b4⟩
  have bb4 := bb3.trans (b4.mono bb3.size)
  have O4 := O3.below b4
  clear b4 HN bb3 O3 hsl
  by_cases hcl : c = P.length
  · subst hcl
    have HF' := HF.out w4 a3 c3 bb4 O4
    have HF2 : Hid (Calls Tryd.prog 5 #[.slice a3 P.length c3, .slice b t.length cb] w4 fun e w' => ∃ a1 c1, e = .returned (.tuple #[.int .i64 0, .int .i64 (n : Nat), .slice a1 (l).length c1, .nilIface]) ∧ OwnA w' w4.heap.size a1 c1 (l) ∧ Below w4.heap.size w4 w') := HF'
    clear HF' HF HT
    go_wp2_with fail
    refine HF2.out.mono ?_
    rintro e w5 ⟨a5, c5, rfl, o5, b5⟩
    have bb5 := bb4.trans (b5.mono bb4.size)
    have HBy : Hid (Calls Tryd.prog 8 #[.slice a5 l.length c5, .slice d l.length cd] w5 fun e w' => e = .returned (.bool true) ∧ Below w5.heap.size w5 w') := bytes_same a5 d l c5 cd w5 (by omega) o5.lies (HLd.out w5 bb5)
    clear HF2 o5 b5 bb4 O4 HLd
    go_wp2_with fail
    refine HBy.out.mono ?_
    rintro e w6 ⟨rfl, b6⟩
    have bb6 := bb5.trans (b6.mono bb5.size)
    clear HBy b6 bb5
    go_wp2
    go_ret
    exact ⟨rfl, bb6⟩
  · have HT' := HT.out w4 a3 c3 c bb4 O4 (by omega)
    have HT2 : Hid (Calls Tryd.prog 5 #[.slice a3 c c3, .slice b t.length cb] w4 fun e w' => e = .returned (.tuple #[.int .i64 0, .int .i64 0, .slice none 0 0, .iface 33 (.int .i64 4)]) ∧ Below w4.heap.size w4 w') := HT'
    have hcne : ((c : Int) == ((P.length : Nat) : Int)) = false := by rw [beq_eq_false_iff_ne]; omega
    clear HT' HF HT hcl
    go_wp2_with fail
    refine HT2.out.mono ?_
    rintro e w5 ⟨rfl, b5⟩
    have bb5 := bb4.trans (b5.mono bb4.size)
    clear HT2 b5 bb4 O4 HLd
    go_wp2_with fail
    refine (HEr.out w5 bb5).mono ?_
    rintro e w6 ⟨rfl, b6⟩
    have bb6 := bb5.trans (b6.mono bb5.size)
    clear HEr b6 bb5
    go_wp2
    go_ret
    exact ⟨rfl, bb6⟩
set_option maxRecDepth 100000 in
set_option maxHeartbeats 3200000 in
theorem safe_zero (a b d : Option Addr) (s t l : List Nat) (ca cb cd : Nat) (n : Nat) (cut : Int) (w : World) (hE : EType w) (hA : BIn w a ca s) (hB : BIn w b cb t) (hD : BIn w d cd l) (hn : n ≤ mx) (hl : l.length ≤ 4096) (hcut : -9223372036854775808 ≤ cut ∧ cut ≤ 9223372036854775807) (X : List Nat) (hsel : sel s t = some (0, X)) (hnew : seqS X < n) :
    Calls Tryd.prog 3 #[.slice a s.length ca, .slice b t.length cb, .int .i64 n, .slice d l.length cd, .int .i64 cut] w fun e w' => e = .returned (.bool true) ∧ Below w.heap.size w w' := by
  have HP' : Hid (Calls Tryd.prog 4 #[.int .i64 3, .slice (some ⟨w.heap.size, 0, none⟩) 1 1] (w.alloc (.cells #[.int .u8 1] 5)) fun e w' => (∃ a c, e = .returned (.tuple #[.slice a 17 c, .nilIface])) ∧ Below w.heap.size w w') := fact_put w
  have HC : Hid (∀ wz, Below w.heap.size w wz → Calls Tryd.prog 5 #[.slice a s.length ca, .slice b t.length cb] wz fun e w' => ∃ a1 c1, e = .returned (.tuple #[.int .i64 0, .int .i64 (seqS X : Nat), .slice a1 (bodyS X).length c1, .nilIface]) ∧ OwnA w' wz.heap.size a1 c1 (bodyS X) ∧ Below wz.heap.size wz w') := fun wz hb => choose_yes (hA.below hb) (hB.below hb) hsel
  have HB : Hid (∀ wz, Below w.heap.size w wz → Calls Tryd.prog 4 #[.int .i64 n, .slice d l.length cd] wz fun e w' => ∃ a1 c1, e = .returned (.tuple #[.slice a1 (slotL n l).length c1, .nilIface]) ∧ OwnA w' wz.heap.size a1 c1 (slotL n l) ∧ Below wz.heap.size wz w') := fun wz hb => put_ok n d l cd wz hn hl hD.all (hD.below hb).lies hD.nil
  have HPl : Hid ((slotL n l).length = 16 + l.length ∧ AllB (slotL n l)) := ⟨slotL_len n l, slotL_all n hD.all⟩
  have hlen : 16 ≤ (slotL n l).length := by rw [slotL_len]; omega
  have hle2 : (slotL n l).length ≤ 8192 := by rw [slotL_len]; omega
  have HN : Hid (∀ wz, Below w.heap.size w wz → Calls Tryd.prog 7 #[.slice a s.length ca, .slice b t.length cb] wz fun e w' => e = .returned (.int .i64 1) ∧ Below wz.heap.size wz w') := fun wz hb => by
    have := next_any a b s t ca cb wz (hA.below hb) (hB.below hb)
    rw [nextF_some hsel] at this
    exact this
  have hfull : sel s (slotL n l) = some (1, slotL n l) := by
    rcases put_whole hsel (slot_whole hn hl) (by rw [slot_seq l hn]; exact hnew) with ⟨h1, h2⟩ | ⟨h1, h2⟩
    · exact absurd h1 (by decide)
    · exact h2
  have hcutd : ∀ c, c < 16 + l.length → sel s ((slotL n l).take c) = some (0, X) := fun c hc => by
    rcases put_cut hsel (slot_cut hl hc) with ⟨h1, h2⟩ | ⟨h1, h2⟩
    · exact absurd h1 (by decide)
    · exact h2
  have HF : Hid (∀ wz a3 c3, Below w.heap.size w wz → OwnA wz w.heap.size a3 c3 (slotL n l) → Calls Tryd.prog 5 #[.slice a (s).length ca, .slice a3 (slotL n l).length c3] wz fun e w' => ∃ a1 c1, e = .returned (.tuple #[.int .i64 1, .int .i64 (n : Nat), .slice a1 (l).length c1, .nilIface]) ∧ OwnA w' wz.heap.size a1 c1 (l) ∧ Below wz.heap.size wz w') := fun wz a3 c3 hb ho => by
    have hZ := cut_in ho HPl.out.2 hle2 (slotL n l).length
    rw [List.take_length] at hZ
    have := choose_yes (hA.below hb) hZ hfull
    rw [slot_seq l hn, slot_body hl] at this
    exact this
  have HT : Hid (∀ wz a3 c3 c, Below w.heap.size w wz → OwnA wz w.heap.size a3 c3 (slotL n l) → c < (slotL n l).length → Calls Tryd.prog 5 #[.slice a (s).length ca, .slice a3 c c3] wz fun e w' => ∃ a1 c1, e = .returned (.tuple #[.int .i64 0, .int .i64 (seqS X : Nat), .slice a1 (bodyS X).length c1, .nilIface]) ∧ OwnA w' wz.heap.size a1 c1 (bodyS X) ∧ Below wz.heap.size wz w') := fun wz a3 c3 c hb ho hc => by
    have hZ := cut_in ho HPl.out.2 hle2 c
    have := choose_yes (hA.below hb) hZ (hcutd c (by rw [← HPl.out.1]; exact hc))
    rw [List.length_take, Nat.min_eq_left (by omega)] at this
    exact this
  have HLd : Hid (∀ wz, Below w.heap.size w wz → Lies wz d l) := fun wz hb => (hD.below hb).lies
  have hnew' : ((seqS X : Nat) : Int) < (n : Int) := by omega
  have hbx : (bodyS X).length ≤ 4096 := whole_len (sel_some hsel).whole
  have HCut : Hid (-9223372036854775808 ≤ cut ∧ cut ≤ 9223372036854775807) := hcut
  clear hA hB hD hn hsel hfull hcutd HPl hE hcut hnew
  generalize slotL n l = P at *
  generalize seqS X = QX at *
  generalize bodyS X = BX at *
  have hne : (((P.length : Nat) : Int) == 0) = false := by rw [beq_eq_false_iff_ne]; omega
  go_enter Tryd.func3, Tryd.ntmps3
  go_wp2_with fail
  refine HP'.out.mono ?_
  rintro e w1 ⟨⟨a1, c1, rfl⟩, b1⟩
  clear HP'
  go_wp2_with fail
  refine (HC.out w1 b1).mono ?_
  rintro e w2 ⟨a2, c2, rfl, o2, b2⟩
  have bb2 := b1.trans (b2.mono b1.size)
  clear b1 b2 HC
  go_wp2_with fail
  refine (HB.out w2 bb2).mono ?_
  rintro e w3 ⟨a3, c3, rfl, o3, b3⟩
  have bb3 := bb2.trans (b3.mono bb2.size)
  have O3 := o3.base bb2.size
  have O2 := o2.below b3
  clear b3 HB o3 bb2 o2
  have HPk : Hid (Calls Tryd.prog 6 #[.int .i64 cut, .int .i64 (((P.length : Nat) : Int) + 1)] w3 fun e w' => (∃ k : Nat, k < P.length + 1 ∧ e = .returned (.int .i64 (k : Nat))) ∧ w' = w3) := pick_any cut (P.length + 1) w3 (by omega) (by omega) HCut.out
  go_wp2_with fail
  refine HPk.out.mono ?_
  rintro e w' ⟨⟨c, hc, rfl⟩, rfl⟩
  have hsl := slice_toN a3 P.length c3 c (by have := O3.cap; omega)
  clear HPk
  go_wp2_with fail
  refine (HN.out _ bb3).mono ?_
  rintro e w4 ⟨rfl, b4⟩
  have bb4 := bb3.trans (b4.mono bb3.size)
  have O4 := O3.below b4
  have Q4 := O2.below b4
  clear b4 HN bb3 O3 hsl O2
  by_cases hcl : c = P.length
  · subst hcl
    have HF' := HF.out w4 a3 c3 bb4 O4
    have HF2 : Hid (Calls Tryd.prog 5 #[.slice a (s).length ca, .slice a3 P.length c3] w4 fun e w' => ∃ a1 c1, e = .returned (.tuple #[.int .i64 1, .int .i64 (n : Nat), .slice a1 (l).length c1, .nilIface]) ∧ OwnA w' w4.heap.size a1 c1 (l) ∧ Below w4.heap.size w4 w') := HF'
    clear HF' HF HT
    go_wp2_with fail
    refine HF2.out.mono ?_
    rintro e w5 ⟨a5, c5, rfl, o5, b5⟩
    have bb5 := bb4.trans (b5.mono bb4.size)
    have HBy : Hid (Calls Tryd.prog 8 #[.slice a5 l.length c5, .slice d l.length cd] w5 fun e w' => e = .returned (.bool true) ∧ Below w5.heap.size w5 w') := bytes_same a5 d l c5 cd w5 (by omega) o5.lies (HLd.out w5 bb5)
    clear HF2 o5 b5 bb4 O4 HLd
    go_wp2_with fail
    refine HBy.out.mono ?_
    rintro e w6 ⟨rfl, b6⟩
    have bb6 := bb5.trans (b6.mono bb5.size)
    clear HBy b6 bb5
    go_wp2
    go_ret
    exact ⟨rfl, bb6⟩
  · have HT' := HT.out w4 a3 c3 c bb4 O4 (by omega)
    have HT2 : Hid (Calls Tryd.prog 5 #[.slice a (s).length ca, .slice a3 c c3] w4 fun e w' => ∃ a1 c1, e = .returned (.tuple #[.int .i64 0, .int .i64 (QX : Nat), .slice a1 (BX).length c1, .nilIface]) ∧ OwnA w' w4.heap.size a1 c1 (BX) ∧ Below w4.heap.size w4 w') := HT'
    have hcne : ((c : Int) == ((P.length : Nat) : Int)) = false := by rw [beq_eq_false_iff_ne]; omega
    clear HT' HF HT hcl
    go_wp2_with fail
    refine HT2.out.mono ?_
    rintro e w5 ⟨a5, c5, rfl, o5, b5⟩
    have bb5 := bb4.trans (b5.mono bb4.size)
    have HBy : Hid (Calls Tryd.prog 8 #[.slice a5 BX.length c5, .slice a2 BX.length c2] w5 fun e w' => e = .returned (.bool true) ∧ Below w5.heap.size w5 w') := bytes_same a5 a2 BX c5 c2 w5 (by omega) o5.lies (Q4.below b5).lies
    clear HT2 o5 b5 bb4 O4 Q4 HLd
    go_wp2_with fail
    refine HBy.out.mono ?_
    rintro e w6 ⟨rfl, b6⟩
    have bb6 := bb5.trans (b6.mono bb5.size)
    clear HBy b6 bb5
    go_wp2
    go_ret
    exact ⟨rfl, bb6⟩
set_option maxRecDepth 100000 in
set_option maxHeartbeats 3200000 in
theorem safe_one (a b d : Option Addr) (s t l : List Nat) (ca cb cd : Nat) (n : Nat) (cut : Int) (w : World) (hE : EType w) (hA : BIn w a ca s) (hB : BIn w b cb t) (hD : BIn w d cd l) (hn : n ≤ mx) (hl : l.length ≤ 4096) (hcut : -9223372036854775808 ≤ cut ∧ cut ≤ 9223372036854775807) (X : List Nat) (hsel : sel s t = some (1, X)) (hnew : seqS X < n) :
    Calls Tryd.prog 3 #[.slice a s.length ca, .slice b t.length cb, .int .i64 n, .slice d l.length cd, .int .i64 cut] w fun e w' => e = .returned (.bool true) ∧ Below w.heap.size w w' := by
  have HP' : Hid (Calls Tryd.prog 4 #[.int .i64 3, .slice (some ⟨w.heap.size, 0, none⟩) 1 1] (w.alloc (.cells #[.int .u8 1] 5)) fun e w' => (∃ a c, e = .returned (.tuple #[.slice a 17 c, .nilIface])) ∧ Below w.heap.size w w') := fact_put w
  have HC : Hid (∀ wz, Below w.heap.size w wz → Calls Tryd.prog 5 #[.slice a s.length ca, .slice b t.length cb] wz fun e w' => ∃ a1 c1, e = .returned (.tuple #[.int .i64 1, .int .i64 (seqS X : Nat), .slice a1 (bodyS X).length c1, .nilIface]) ∧ OwnA w' wz.heap.size a1 c1 (bodyS X) ∧ Below wz.heap.size wz w') := fun wz hb => choose_yes (hA.below hb) (hB.below hb) hsel
  have HB : Hid (∀ wz, Below w.heap.size w wz → Calls Tryd.prog 4 #[.int .i64 n, .slice d l.length cd] wz fun e w' => ∃ a1 c1, e = .returned (.tuple #[.slice a1 (slotL n l).length c1, .nilIface]) ∧ OwnA w' wz.heap.size a1 c1 (slotL n l) ∧ Below wz.heap.size wz w') := fun wz hb => put_ok n d l cd wz hn hl hD.all (hD.below hb).lies hD.nil
  have HPl : Hid ((slotL n l).length = 16 + l.length ∧ AllB (slotL n l)) := ⟨slotL_len n l, slotL_all n hD.all⟩
  have hlen : 16 ≤ (slotL n l).length := by rw [slotL_len]; omega
  have hle2 : (slotL n l).length ≤ 8192 := by rw [slotL_len]; omega
  have HN : Hid (∀ wz, Below w.heap.size w wz → Calls Tryd.prog 7 #[.slice a s.length ca, .slice b t.length cb] wz fun e w' => e = .returned (.int .i64 0) ∧ Below wz.heap.size wz w') := fun wz hb => by
    have := next_any a b s t ca cb wz (hA.below hb) (hB.below hb)
    rw [nextF_some hsel] at this
    exact this
  have hfull : sel (slotL n l) t = some (0, slotL n l) := by
    rcases put_whole hsel (slot_whole hn hl) (by rw [slot_seq l hn]; exact hnew) with ⟨h1, h2⟩ | ⟨h1, h2⟩
    · exact h2
    · exact absurd h1 (by decide)
  have hcutd : ∀ c, c < 16 + l.length → sel ((slotL n l).take c) t = some (1, X) := fun c hc => by
    rcases put_cut hsel (slot_cut hl hc) with ⟨h1, h2⟩ | ⟨h1, h2⟩
    · exact h2
    · exact absurd h1 (by decide)
  have HF : Hid (∀ wz a3 c3, Below w.heap.size w wz → OwnA wz w.heap.size a3 c3 (slotL n l) → Calls Tryd.prog 5 #[.slice a3 (slotL n l).length c3, .slice b t.length cb] wz fun e w' => ∃ a1 c1, e = .returned (.tuple #[.int .i64 0, .int .i64 (n : Nat), .slice a1 (l).length c1, .nilIface]) ∧ OwnA w' wz.heap.size a1 c1 (l) ∧ Below wz.heap.size wz w') := fun wz a3 c3 hb ho => by
    have hZ := cut_in ho HPl.out.2 hle2 (slotL n l).length
    rw [List.take_length] at hZ
    have := choose_yes hZ (hB.below hb) hfull
    rw [slot_seq l hn, slot_body hl] at this
    exact this
  have HT : Hid (∀ wz a3 c3 c, Below w.heap.size w wz → OwnA wz w.heap.size a3 c3 (slotL n l) → c < (slotL n l).length → Calls Tryd.prog 5 #[.slice a3 c c3, .slice b t.length cb] wz fun e w' => ∃ a1 c1, e = .returned (.tuple #[.int .i64 1, .int .i64 (seqS X : Nat), .slice a1 (bodyS X).length c1, .nilIface]) ∧ OwnA w' wz.heap.size a1 c1 (bodyS X) ∧ Below wz.heap.size wz w') := fun wz a3 c3 c hb ho hc => by
    have hZ := cut_in ho HPl.out.2 hle2 c
    have := choose_yes hZ (hB.below hb) (hcutd c (by rw [← HPl.out.1]; exact hc))
    rw [List.length_take, Nat.min_eq_left (by omega)] at this
    exact this
  have HLd : Hid (∀ wz, Below w.heap.size w wz → Lies wz d l) := fun wz hb => (hD.below hb).lies
  have hnew' : ((seqS X : Nat) : Int) < (n : Int) := by omega
  have hbx : (bodyS X).length ≤ 4096 := whole_len (sel_some hsel).whole
  have HCut : Hid (-9223372036854775808 ≤ cut ∧ cut ≤ 9223372036854775807) := hcut
  clear hA hB hD hn hsel hfull hcutd HPl hE hcut hnew
  generalize slotL n l = P at *
  generalize seqS X = QX at *
  generalize bodyS X = BX at *
  have hne : (((P.length : Nat) : Int) == 0) = false := by rw [beq_eq_false_iff_ne]; omega
  go_enter Tryd.func3, Tryd.ntmps3
  go_wp2_with fail
  refine HP'.out.mono ?_
  rintro e w1 ⟨⟨a1, c1, rfl⟩, b1⟩
  clear HP'
  go_wp2_with fail
  refine (HC.out w1 b1).mono ?_
  rintro e w2 ⟨a2, c2, rfl, o2, b2⟩
  have bb2 := b1.trans (b2.mono b1.size)
  clear b1 b2 HC
  go_wp2_with fail
  refine (HB.out w2 bb2).mono ?_
  rintro e w3 ⟨a3, c3, rfl, o3, b3⟩
  have bb3 := bb2.trans (b3.mono bb2.size)
  have O3 := o3.base bb2.size
  have O2 := o2.below b3
  clear b3 HB o3 bb2 o2
  have HPk : Hid (Calls Tryd.prog 6 #[.int .i64 cut, .int .i64 (((P.length : Nat) : Int) + 1)] w3 fun e w' => (∃ k : Nat, k < P.length + 1 ∧ e = .returned (.int .i64 (k : Nat))) ∧ w' = w3) := pick_any cut (P.length + 1) w3 (by omega) (by omega) HCut.out
  go_wp2_with fail
  refine HPk.out.mono ?_
  rintro e w' ⟨⟨c, hc, rfl⟩, rfl⟩
  have hsl := slice_toN a3 P.length c3 c (by have := O3.cap; omega)
  clear HPk
  go_wp2_with fail
  refine (HN.out _ bb3).mono ?_
  rintro e w4 ⟨rfl, b4⟩
  have bb4 := bb3.trans (b4.mono bb3.size)
  have O4 := O3.below b4
  have Q4 := O2.below b4
  clear b4 HN bb3 O3 hsl O2
  by_cases hcl : c = P.length
  · subst hcl
    have HF' := HF.out w4 a3 c3 bb4 O4
    have HF2 : Hid (Calls Tryd.prog 5 #[.slice a3 P.length c3, .slice b t.length cb] w4 fun e w' => ∃ a1 c1, e = .returned (.tuple #[.int .i64 0, .int .i64 (n : Nat), .slice a1 (l).length c1, .nilIface]) ∧ OwnA w' w4.heap.size a1 c1 (l) ∧ Below w4.heap.size w4 w') := HF'
    clear HF' HF HT
    go_wp2_with fail
    refine HF2.out.mono ?_
    rintro e w5 ⟨a5, c5, rfl, o5, b5⟩
    have bb5 := bb4.trans (b5.mono bb4.size)
    have HBy : Hid (Calls Tryd.prog 8 #[.slice a5 l.length c5, .slice d l.length cd] w5 fun e w' => e = .returned (.bool true) ∧ Below w5.heap.size w5 w') := bytes_same a5 d l c5 cd w5 (by omega) o5.lies (HLd.out w5 bb5)
    clear HF2 o5 b5 bb4 O4 HLd
    go_wp2_with fail
    refine HBy.out.mono ?_
    rintro e w6 ⟨rfl, b6⟩
    have bb6 := bb5.trans (b6.mono bb5.size)
    clear HBy b6 bb5
    go_wp2
    go_ret
    exact ⟨rfl, bb6⟩
  · have HT' := HT.out w4 a3 c3 c bb4 O4 (by omega)
    have HT2 : Hid (Calls Tryd.prog 5 #[.slice a3 c c3, .slice b t.length cb] w4 fun e w' => ∃ a1 c1, e = .returned (.tuple #[.int .i64 1, .int .i64 (QX : Nat), .slice a1 (BX).length c1, .nilIface]) ∧ OwnA w' w4.heap.size a1 c1 (BX) ∧ Below w4.heap.size w4 w') := HT'
    have hcne : ((c : Int) == ((P.length : Nat) : Int)) = false := by rw [beq_eq_false_iff_ne]; omega
    clear HT' HF HT hcl
    go_wp2_with fail
    refine HT2.out.mono ?_
    rintro e w5 ⟨a5, c5, rfl, o5, b5⟩
    have bb5 := bb4.trans (b5.mono bb4.size)
    have HBy : Hid (Calls Tryd.prog 8 #[.slice a5 BX.length c5, .slice a2 BX.length c2] w5 fun e w' => e = .returned (.bool true) ∧ Below w5.heap.size w5 w') := bytes_same a5 a2 BX c5 c2 w5 (by omega) o5.lies (Q4.below b5).lies
    clear HT2 o5 b5 bb4 O4 Q4 HLd
    go_wp2_with fail
    refine HBy.out.mono ?_
    rintro e w6 ⟨rfl, b6⟩
    have bb6 := bb5.trans (b6.mono bb5.size)
    clear HBy b6 bb5
    go_wp2
    go_ret
    exact ⟨rfl, bb6⟩
theorem safe_any (a b d : Option Addr) (s t l : List Nat) (ca cb cd : Nat) (q cut : Int) (w : World) (hE : EType w) (hA : BIn w a ca s) (hB : BIn w b cb t) (hD : BIn w d cd l) (hcut : -9223372036854775808 ≤ cut ∧ cut ≤ 9223372036854775807) :
    Calls Tryd.prog 3 #[.slice a s.length ca, .slice b t.length cb, .int .i64 q, .slice d l.length cd, .int .i64 cut] w fun e w' => e = .returned (.bool true) ∧ Below w.heap.size w w' := by
  by_cases h : putE q l.length = 0
  · obtain ⟨e1, e2, e3⟩ := putE_no h
    obtain ⟨n, rfl⟩ := Int.eq_ofNat_of_zero_le e1
    have hn : n ≤ mx := by unfold mx; omega
    cases hsel : sel s t with
    | none => exact safe_none a b d s t l ca cb cd n cut w hE hA hB hD hn e3 hcut hsel
    | some p =>
      obtain ⟨k, X⟩ := p
      by_cases hold : n ≤ seqS X
      · exact safe_old a b d s t l ca cb cd n cut w hA hB hD hn e3 k X hsel hold
      · have hk := sel_le hsel
        by_cases hk0 : k = 0
        · subst hk0; exact safe_zero a b d s t l ca cb cd n cut w hE hA hB hD hn e3 hcut X hsel (by omega)
        · obtain rfl : k = 1 := by omega
          exact safe_one a b d s t l ca cb cd n cut w hE hA hB hD hn e3 hcut X hsel (by omega)
  · cases hsel : sel s t with
    | none => exact safe_bad_none a b d s t l ca cb cd q cut w hA hB hD h hsel
    | some p => obtain ⟨k, X⟩ := p; exact safe_bad_some a b d s t l ca cb cd q cut w hA hB hD h k X hsel
end Go.Proofs.YtbajdgadljdnkafDoor

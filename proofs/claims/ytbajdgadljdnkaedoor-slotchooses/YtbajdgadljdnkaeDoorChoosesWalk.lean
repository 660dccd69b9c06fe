/-
  What the law SlotChooses gives: true, whatever the two.
-/
import Derived.Test.YtbajdgadljdnkaeDoorLaw
import Derived.Test.YtbajdgadljdnkaeDoorRefSeq
import Derived.Test.YtbajdgadljdnkaeDoorTold
namespace Go.Proofs.YtbajdgadljdnkaeDoor
open Go.RowKit
set_option linter.unusedVariables false

theorem sq_yes {a : Option Addr} {s : List Nat} {cap : Nat} {w : World} (hI : BIn w a cap s) (h : Whole s) :
    Calls Tryd.prog 22 #[.slice a s.length cap] w fun e w' => e = .returned (.tuple #[.int .i64 (seqS s : Nat), .slice (dropA a cap 12) (bodyS s).length (cap - 12)]) ∧ Below w.heap.size w w' := by
  refine (slotSeq_any a s cap w hI).mono ?_
  rintro e w' ⟨⟨_, h1⟩ | ⟨h1, _⟩, b1⟩
  · exact ⟨h1, b1⟩
  · exact absurd h h1
theorem sq_no {a : Option Addr} {s : List Nat} {cap : Nat} {w : World} (hI : BIn w a cap s) (h : ¬ Whole s) :
    Calls Tryd.prog 22 #[.slice a s.length cap] w fun e w' => e = .returned (.tuple #[.int .i64 (-1), .slice none 0 0]) ∧ Below w.heap.size w w' := by
  refine (slotSeq_any a s cap w hI).mono ?_
  rintro e w' ⟨⟨h1, _⟩ | ⟨_, h1⟩, b1⟩
  · exact absurd h1 h
  · exact ⟨h1, b1⟩
set_option maxRecDepth 20000 in
set_option maxHeartbeats 1600000 in
theorem chooses_none (a b : Option Addr) (s t : List Nat) (ca cb : Nat) (w : World) (hE : EType w) (hA : BIn w a ca s) (hB : BIn w b cb t) (hs : ¬ Whole s) (ht : ¬ Whole t) :
    Calls Tryd.prog 8 #[.slice a s.length ca, .slice b t.length cb] w fun e w' => e = .returned (.bool true) ∧ Below w.heap.size w w' := by
  have HS : Hid (∀ wz, Below w.heap.size w wz → Calls Tryd.prog 22 #[.slice a s.length ca] wz fun e w' => e = .returned (.tuple #[.int .i64 (-1), .slice none 0 0]) ∧ Below wz.heap.size wz w') := fun wz hb => sq_no (hA.below hb) hs
  have HT : Hid (∀ wz, Below w.heap.size w wz → Calls Tryd.prog 22 #[.slice b t.length cb] wz fun e w' => e = .returned (.tuple #[.int .i64 (-1), .slice none 0 0]) ∧ Below wz.heap.size wz w') := fun wz hb => sq_no (hB.below hb) ht
  have hsel : sel s t = none := sel_none hs ht
  have HC : Hid (∀ wz, Below w.heap.size w wz → Calls Tryd.prog 23 #[.slice a s.length ca, .slice b t.length cb] wz fun e w' => e = .returned (.tuple #[.int .i64 0, .int .i64 0, .slice none 0 0, .iface 28 (.int .i64 4)]) ∧ Below wz.heap.size wz w') := fun wz hb => choose_no (hA.below hb) (hB.below hb) hsel
  have HN : Hid (∀ wz, Below w.heap.size w wz → Calls Tryd.prog 24 #[.slice a s.length ca, .slice b t.length cb] wz fun e w' => e = .returned (.int .i64 0) ∧ Below wz.heap.size wz w') := fun wz hb => by
    have := next_any a b s t ca cb wz (hA.below hb) (hB.below hb)
    rw [nextF_none hsel] at this
    exact this
  have HEr : Hid (∀ wz, Below w.heap.size w wz → Calls Tryd.prog 11 #[.iface 28 (.int .i64 4), .int .i64 4] wz fun e w' => e = .returned (.bool true) ∧ Below wz.heap.size wz w') := fun wz hb => error_same 4 wz (hE.below hb hE.pos)
  clear hA hB hs ht hsel hE
  go_enter Tryd.func8, Tryd.ntmps8
  go_wp2_with fail
  refine (HS.out w (Below.refl _ _)).mono ?_
  rintro e w1 ⟨rfl, b1⟩
  go_wp2_with fail
  refine (HT.out w1 b1).mono ?_
  rintro e w2 ⟨rfl, b2⟩
  have bb2 := b1.trans (b2.mono b1.size)
  clear b1 b2 HS HT
  go_wp2_with fail
  refine (HC.out w2 bb2).mono ?_
  rintro e w3 ⟨rfl, b3⟩
  have bb3 := bb2.trans (b3.mono bb2.size)
  clear b3 HC
  go_wp2_with fail
  refine (HN.out w3 bb3).mono ?_
  rintro e w4 ⟨rfl, b4⟩
  have bb4 := bb3.trans (b4.mono bb3.size)
  clear b4 HN
  go_wp2_with fail
  refine (HEr.out w4 bb4).mono ?_
  rintro e w5 ⟨rfl, b5⟩
  have bb5 := bb4.trans (b5.mono bb4.size)
  clear b5 HEr bb2 bb3 bb4
  go_wp2
  go_ret
  exact ⟨rfl, bb5⟩
set_option maxRecDepth 20000 in
set_option maxHeartbeats 1600000 in
theorem chooses_lt (a b : Option Addr) (s t : List Nat) (ca cb : Nat) (w : World) (hE : EType w) (hA : BIn w a ca s) (hB : BIn w b cb t) (hs : Whole s) (ht : Whole t) (hcmp : seqS s < seqS t) :
    Calls Tryd.prog 8 #[.slice a s.length ca, .slice b t.length cb] w fun e w' => e = .returned (.bool true) ∧ Below w.heap.size w w' := by
  have HS : Hid (∀ wz, Below w.heap.size w wz → Calls Tryd.prog 22 #[.slice a s.length ca] wz fun e w' => e = .returned (.tuple #[.int .i64 (seqS s : Nat), .slice (dropA a ca 12) (bodyS s).length (ca - 12)]) ∧ Below wz.heap.size wz w') := fun wz hb => sq_yes (hA.below hb) hs
  have HT : Hid (∀ wz, Below w.heap.size w wz → Calls Tryd.prog 22 #[.slice b t.length cb] wz fun e w' => e = .returned (.tuple #[.int .i64 (seqS t : Nat), .slice (dropA b cb 12) (bodyS t).length (cb - 12)]) ∧ Below wz.heap.size wz w') := fun wz hb => sq_yes (hB.below hb) ht
  have hsel : sel s t = some (1, t) := sel_two ht (Or.inr hcmp)
  have HC : Hid (∀ wz, Below w.heap.size w wz → Calls Tryd.prog 23 #[.slice a s.length ca, .slice b t.length cb] wz fun e w' => ∃ a1 c1, e = .returned (.tuple #[.int .i64 1, .int .i64 (seqS t : Nat), .slice a1 (bodyS t).length c1, .nilIface]) ∧ OwnA w' wz.heap.size a1 c1 (bodyS t) ∧ Below wz.heap.size wz w') := fun wz hb => choose_yes (hA.below hb) (hB.below hb) hsel
  have HN : Hid (∀ wz, Below w.heap.size w wz → Calls Tryd.prog 24 #[.slice a s.length ca, .slice b t.length cb] wz fun e w' => e = .returned (.int .i64 0) ∧ Below wz.heap.size wz w') := fun wz hb => by
    have := next_any a b s t ca cb wz (hA.below hb) (hB.below hb)
    rw [nextF_some hsel] at this
    exact this
  have HL : Hid (∀ wz, Below w.heap.size w wz → Lies wz (dropA b cb 12) (bodyS t)) := fun wz hb => (hB.below hb).lies.body hB.lc
  have hlen : (bodyS t).length ≤ 4096 := whole_len ht
  have hcmp' : ((seqS s : Nat) : Int) < ((seqS t : Nat) : Int) := by omega
  clear hcmp
  clear hA hB hs ht hsel hE
  generalize dropA a ca 12 = DA at *
  generalize dropA b cb 12 = DB at *
  generalize bodyS s = BS at *
  generalize bodyS t = BT at *
  generalize seqS s = QS at *
  generalize seqS t = QT at *
  go_enter Tryd.func8, Tryd.ntmps8
  go_wp2_with fail
  refine (HS.out w (Below.refl _ _)).mono ?_
  rintro e w1 ⟨rfl, b1⟩
  go_wp2_with fail
  refine (HT.out w1 b1).mono ?_
  rintro e w2 ⟨rfl, b2⟩
  have bb2 := b1.trans (b2.mono b1.size)
  clear b1 b2 HS HT
  go_wp2_with fail
  refine (HC.out w2 bb2).mono ?_
  rintro e w3 ⟨a3, c3, rfl, o3, b3⟩
  have bb3 := bb2.trans (b3.mono bb2.size)
  clear b3 HC
  go_wp2_with fail
  refine (HN.out w3 bb3).mono ?_
  rintro e w4 ⟨rfl, b4⟩
  have bb4 := bb3.trans (b4.mono bb3.size)
  have HBy : Hid (Calls Tryd.prog 13 #[.slice a3 BT.length c3, .slice DB BT.length (cb - 12)] w4 fun e w' => e = .returned (.bool true) ∧ Below w4.heap.size w4 w') := bytes_same a3 DB BT c3 (cb - 12) w4 (by omega) (o3.below b4).lies (HL.out w4 bb4)
  clear b4 HN HL o3 bb2 bb3
  go_wp2_with fail
  refine HBy.out.mono ?_
  rintro e w5 ⟨rfl, b5⟩
  have bb5 := bb4.trans (b5.mono bb4.size)
  clear b5 HBy bb4
  go_wp2
  go_ret
  exact ⟨rfl, bb5⟩
set_option maxRecDepth 20000 in
set_option maxHeartbeats 1600000 in
theorem chooses_ge (a b : Option Addr) (s t : List Nat) (ca cb : Nat) (w : World) (hE : EType w) (hA : BIn w a ca s) (hB : BIn w b cb t) (hs : Whole s) (ht : Whole t) (hcmp : ¬ seqS s < seqS t) :
    Calls Tryd.prog 8 #[.slice a s.length ca, .slice b t.length cb] w fun e w' => e = .returned (.bool true) ∧ Below w.heap.size w w' := by
  have HS : Hid (∀ wz, Below w.heap.size w wz → Calls Tryd.prog 22 #[.slice a s.length ca] wz fun e w' => e = .returned (.tuple #[.int .i64 (seqS s : Nat), .slice (dropA a ca 12) (bodyS s).length (ca - 12)]) ∧ Below wz.heap.size wz w') := fun wz hb => sq_yes (hA.below hb) hs
  have HT : Hid (∀ wz, Below w.heap.size w wz → Calls Tryd.prog 22 #[.slice b t.length cb] wz fun e w' => e = .returned (.tuple #[.int .i64 (seqS t : Nat), .slice (dropA b cb 12) (bodyS t).length (cb - 12)]) ∧ Below wz.heap.size wz w') := fun wz hb => sq_yes (hB.below hb) ht
  have hsel : sel s t = some (0, s) := sel_one hs (fun e => hcmp e.2)
  have HC : Hid (∀ wz, Below w.heap.size w wz → Calls Tryd.prog 23 #[.slice a s.length ca, .slice b t.length cb] wz fun e w' => ∃ a1 c1, e = .returned (.tuple #[.int .i64 0, .int .i64 (seqS s : Nat), .slice a1 (bodyS s).length c1, .nilIface]) ∧ OwnA w' wz.heap.size a1 c1 (bodyS s) ∧ Below wz.heap.size wz w') := fun wz hb => choose_yes (hA.below hb) (hB.below hb) hsel
  have HN : Hid (∀ wz, Below w.heap.size w wz → Calls Tryd.prog 24 #[.slice a s.length ca, .slice b t.length cb] wz fun e w' => e = .returned (.int .i64 1) ∧ Below wz.heap.size wz w') := fun wz hb => by
    have := next_any a b s t ca cb wz (hA.below hb) (hB.below hb)
    rw [nextF_some hsel] at this
    exact this
  have HL : Hid (∀ wz, Below w.heap.size w wz → Lies wz (dropA a ca 12) (bodyS s)) := fun wz hb => (hA.below hb).lies.body hA.lc
  have hlen : (bodyS s).length ≤ 4096 := whole_len hs
  have hcmp' : ((seqS t : Nat) : Int) ≤ ((seqS s : Nat) : Int) := by omega
  clear hcmp
  clear hA hB hs ht hsel hE
  generalize dropA a ca 12 = DA at *
  generalize dropA b cb 12 = DB at *
  generalize bodyS s = BS at *
  generalize bodyS t = BT at *
  generalize seqS s = QS at *
  generalize seqS t = QT at *
  go_enter Tryd.func8, Tryd.ntmps8
  go_wp2_with fail
  refine (HS.out w (Below.refl _ _)).mono ?_
  rintro e w1 ⟨rfl, b1⟩
  go_wp2_with fail
  refine (HT.out w1 b1).mono ?_
  rintro e w2 ⟨rfl, b2⟩
  have bb2 := b1.trans (b2.mono b1.size)
  clear b1 b2 HS HT
  go_wp2_with fail
  refine (HC.out w2 bb2).mono ?_
  rintro e w3 ⟨a3, c3, rfl, o3, b3⟩
  have bb3 := bb2.trans (b3.mono bb2.size)
  clear b3 HC
  go_wp2_with fail
  refine (HN.out w3 bb3).mono ?_
  rintro e w4 ⟨rfl, b4⟩
  have bb4 := bb3.trans (b4.mono bb3.size)
  have HBy : Hid (Calls Tryd.prog 13 #[.slice a3 BS.length c3, .slice DA BS.length (ca - 12)] w4 fun e w' => e = .returned (.bool true) ∧ Below w4.heap.size w4 w') := bytes_same a3 DA BS c3 (ca - 12) w4 (by omega) (o3.below b4).lies (HL.out w4 bb4)
  clear b4 HN HL o3 bb2 bb3
  go_wp2_with fail
  refine HBy.out.mono ?_
  rintro e w5 ⟨rfl, b5⟩
  have bb5 := bb4.trans (b5.mono bb4.size)
  clear b5 HBy bb4
  go_wp2
  go_ret
  exact ⟨rfl, bb5⟩
set_option maxRecDepth 20000 in
set_option maxHeartbeats 1600000 in
theorem chooses_one (a b : Option Addr) (s t : List Nat) (ca cb : Nat) (w : World) (hE : EType w) (hA : BIn w a ca s) (hB : BIn w b cb t) (hs : Whole s) (ht : ¬ Whole t) :
    Calls Tryd.prog 8 #[.slice a s.length ca, .slice b t.length cb] w fun e w' => e = .returned (.bool true) ∧ Below w.heap.size w w' := by
  have HS : Hid (∀ wz, Below w.heap.size w wz → Calls Tryd.prog 22 #[.slice a s.length ca] wz fun e w' => e = .returned (.tuple #[.int .i64 (seqS s : Nat), .slice (dropA a ca 12) (bodyS s).length (ca - 12)]) ∧ Below wz.heap.size wz w') := fun wz hb => sq_yes (hA.below hb) hs
  have HT : Hid (∀ wz, Below w.heap.size w wz → Calls Tryd.prog 22 #[.slice b t.length cb] wz fun e w' => e = .returned (.tuple #[.int .i64 (-1), .slice none 0 0]) ∧ Below wz.heap.size wz w') := fun wz hb => sq_no (hB.below hb) ht
  have hsel : sel s t = some (0, s) := sel_one hs (fun e => ht e.1)
  have HC : Hid (∀ wz, Below w.heap.size w wz → Calls Tryd.prog 23 #[.slice a s.length ca, .slice b t.length cb] wz fun e w' => ∃ a1 c1, e = .returned (.tuple #[.int .i64 0, .int .i64 (seqS s : Nat), .slice a1 (bodyS s).length c1, .nilIface]) ∧ OwnA w' wz.heap.size a1 c1 (bodyS s) ∧ Below wz.heap.size wz w') := fun wz hb => choose_yes (hA.below hb) (hB.below hb) hsel
  have HN : Hid (∀ wz, Below w.heap.size w wz → Calls Tryd.prog 24 #[.slice a s.length ca, .slice b t.length cb] wz fun e w' => e = .returned (.int .i64 1) ∧ Below wz.heap.size wz w') := fun wz hb => by
    have := next_any a b s t ca cb wz (hA.below hb) (hB.below hb)
    rw [nextF_some hsel] at this
    exact this
  have HL : Hid (∀ wz, Below w.heap.size w wz → Lies wz (dropA a ca 12) (bodyS s)) := fun wz hb => (hA.below hb).lies.body hA.lc
  have hlen : (bodyS s).length ≤ 4096 := whole_len hs
  clear hA hB hs ht hsel hE
  generalize dropA a ca 12 = DA at *
  generalize dropA b cb 12 = DB at *
  generalize bodyS s = BS at *
  generalize bodyS t = BT at *
  generalize seqS s = QS at *
  generalize seqS t = QT at *
  go_enter Tryd.func8, Tryd.ntmps8
  go_wp2_with fail
  refine (HS.out w (Below.refl _ _)).mono ?_
  rintro e w1 ⟨rfl, b1⟩
  go_wp2_with fail
  refine (HT.out w1 b1).mono ?_
  rintro e w2 ⟨rfl, b2⟩
  have bb2 := b1.trans (b2.mono b1.size)
  clear b1 b2 HS HT
  go_wp2_with fail
  refine (HC.out w2 bb2).mono ?_
  rintro e w3 ⟨a3, c3, rfl, o3, b3⟩
  have bb3 := bb2.trans (b3.mono bb2.size)
  clear b3 HC
  go_wp2_with fail
  refine (HN.out w3 bb3).mono ?_
  rintro e w4 ⟨rfl, b4⟩
  have bb4 := bb3.trans (b4.mono bb3.size)
  have HBy : Hid (Calls Tryd.prog 13 #[.slice a3 BS.length c3, .slice DA BS.length (ca - 12)] w4 fun e w' => e = .returned (.bool true) ∧ Below w4.heap.size w4 w') := bytes_same a3 DA BS c3 (ca - 12) w4 (by omega) (o3.below b4).lies (HL.out w4 bb4)
  clear b4 HN HL o3 bb2 bb3
  go_wp2_with fail
  refine HBy.out.mono ?_
  rintro e w5 ⟨rfl, b5⟩
  have bb5 := bb4.trans (b5.mono bb4.size)
  clear b5 HBy bb4
  go_wp2
  go_ret
  exact ⟨rfl, bb5⟩
set_option maxRecDepth 20000 in
set_option maxHeartbeats 1600000 in
theorem chooses_two (a b : Option Addr) (s t : List Nat) (ca cb : Nat) (w : World) (hE : EType w) (hA : BIn w a ca s) (hB : BIn w b cb t) (hs : ¬ Whole s) (ht : Whole t) :
    Calls Tryd.prog 8 #[.slice a s.length ca, .slice b t.length cb] w fun e w' => e = .returned (.bool true) ∧ Below w.heap.size w w' := by
  have HS : Hid (∀ wz, Below w.heap.size w wz → Calls Tryd.prog 22 #[.slice a s.length ca] wz fun e w' => e = .returned (.tuple #[.int .i64 (-1), .slice none 0 0]) ∧ Below wz.heap.size wz w') := fun wz hb => sq_no (hA.below hb) hs
  have HT : Hid (∀ wz, Below w.heap.size w wz → Calls Tryd.prog 22 #[.slice b t.length cb] wz fun e w' => e = .returned (.tuple #[.int .i64 (seqS t : Nat), .slice (dropA b cb 12) (bodyS t).length (cb - 12)]) ∧ Below wz.heap.size wz w') := fun wz hb => sq_yes (hB.below hb) ht
  have hsel : sel s t = some (1, t) := sel_two ht (Or.inl hs)
  have HC : Hid (∀ wz, Below w.heap.size w wz → Calls Tryd.prog 23 #[.slice a s.length ca, .slice b t.length cb] wz fun e w' => ∃ a1 c1, e = .returned (.tuple #[.int .i64 1, .int .i64 (seqS t : Nat), .slice a1 (bodyS t).length c1, .nilIface]) ∧ OwnA w' wz.heap.size a1 c1 (bodyS t) ∧ Below wz.heap.size wz w') := fun wz hb => choose_yes (hA.below hb) (hB.below hb) hsel
  have HN : Hid (∀ wz, Below w.heap.size w wz → Calls Tryd.prog 24 #[.slice a s.length ca, .slice b t.length cb] wz fun e w' => e = .returned (.int .i64 0) ∧ Below wz.heap.size wz w') := fun wz hb => by
    have := next_any a b s t ca cb wz (hA.below hb) (hB.below hb)
    rw [nextF_some hsel] at this
    exact this
  have HL : Hid (∀ wz, Below w.heap.size w wz → Lies wz (dropA b cb 12) (bodyS t)) := fun wz hb => (hB.below hb).lies.body hB.lc
  have hlen : (bodyS t).length ≤ 4096 := whole_len ht
  clear hA hB hs ht hsel hE
  generalize dropA a ca 12 = DA at *
  generalize dropA b cb 12 = DB at *
  generalize bodyS s = BS at *
  generalize bodyS t = BT at *
  generalize seqS s = QS at *
  generalize seqS t = QT at *
  go_enter Tryd.func8, Tryd.ntmps8
  go_wp2_with fail
  refine (HS.out w (Below.refl _ _)).mono ?_
  rintro e w1 ⟨rfl, b1⟩
  go_wp2_with fail
  refine (HT.out w1 b1).mono ?_
  rintro e w2 ⟨rfl, b2⟩
  have bb2 := b1.trans (b2.mono b1.size)
  clear b1 b2 HS HT
  go_wp2_with fail
  refine (HC.out w2 bb2).mono ?_
  rintro e w3 ⟨a3, c3, rfl, o3, b3⟩
  have bb3 := bb2.trans (b3.mono bb2.size)
  clear b3 HC
  go_wp2_with fail
  refine (HN.out w3 bb3).mono ?_
  rintro e w4 ⟨rfl, b4⟩
  have bb4 := bb3.trans (b4.mono bb3.size)
  have HBy : Hid (Calls Tryd.prog 13 #[.slice a3 BT.length c3, .slice DB BT.length (cb - 12)] w4 fun e w' => e = .returned (.bool true) ∧ Below w4.heap.size w4 w') := bytes_same a3 DB BT c3 (cb - 12) w4 (by omega) (o3.below b4).lies (HL.out w4 bb4)
  clear b4 HN HL o3 bb2 bb3
  go_wp2_with fail
  refine HBy.out.mono ?_
  rintro e w5 ⟨rfl, b5⟩
  have bb5 := bb4.trans (b5.mono bb4.size)
  clear b5 HBy bb4
  go_wp2
  go_ret
  exact ⟨rfl, bb5⟩
theorem chooses_any (a b : Option Addr) (s t : List Nat) (ca cb : Nat) (w : World) (hE : EType w) (hA : BIn w a ca s) (hB : BIn w b cb t) :
    Calls Tryd.prog 8 #[.slice a s.length ca, .slice b t.length cb] w fun e w' => e = .returned (.bool true) ∧ Below w.heap.size w w' := by
  by_cases hs : Whole s
  · by_cases ht : Whole t
    · by_cases hc : seqS s < seqS t
      · exact chooses_lt a b s t ca cb w hE hA hB hs ht hc
      · exact chooses_ge a b s t ca cb w hE hA hB hs ht hc
    · exact chooses_one a b s t ca cb w hE hA hB hs ht
  · by_cases ht : Whole t
    · exact chooses_two a b s t ca cb w hE hA hB hs ht
    · exact chooses_none a b s t ca cb w hE hA hB hs ht
end Go.Proofs.YtbajdgadljdnkaeDoor

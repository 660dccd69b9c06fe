/-
  What the walker's takePage, takeList and takeRest give.
-/
import Derived.Test.YtdkafcgangcgbajWalker
namespace Go.Proofs.Ytdkafcgangcgbaj
open Go.RowKit
set_option linter.unusedVariables false

/-- What an error's number is as a value. -/
def errI (n : Nat) : Value := if n = 0 then .nilIface else .iface 48 (.int .i64 (n : Int))
theorem take_no (B mb hb wb : Nat) (l : List Nat) (a : Option Addr) (cap : Nat) (acc : List Sg) (left : Nat) (p : Int) (room : Nat) (w : World) (h : WS B w mb hb wb l a cap acc left) (hp : p ≤ 9223372036854775807) (hf : ¬ fits l.length p (min room left : Nat)) :
    Calls Try.prog 21 #[.pointer (some ⟨wb, 0, none⟩), .int .i64 p, .int .i64 (room : Nat)] w fun e w' => e = .returned (.iface 48 (.int .i64 1)) ∧ Below B w w' := by
  by_cases hc : left < room
  · exact take_noA B mb hb wb l a cap acc left p room w h hp hc (by rw [Nat.min_eq_right (by omega)] at hf; exact hf)
  · exact take_noB B mb hb wb l a cap acc left p room w h hp (by omega) (by rw [Nat.min_eq_left (by omega)] at hf; exact hf)
theorem take_yes (B mb hb wb : Nat) (l : List Nat) (a : Option Addr) (cap : Nat) (acc : List Sg) (left : Nat) (p : Int) (room : Nat) (w : World) (h : WS B w mb hb wb l a cap acc left) (hp : p ≤ 9223372036854775807) (h0 : 0 < min room left) (hf : fits l.length p (min room left : Nat)) :
    Calls Try.prog 21 #[.pointer (some ⟨wb, 0, none⟩), .int .i64 p, .int .i64 (room : Nat)] w fun e w' => TakePost B w w' e mb hb wb l acc left p (min room left) := by
  by_cases hc : left < room
  · have e : min room left = left := Nat.min_eq_right (by omega)
    rw [e] at hf h0 ⊢
    exact take_yesA B mb hb wb l a cap acc left p room w h hp hc h0 hf
  · have e : min room left = room := Nat.min_eq_left (by omega)
    rw [e] at hf h0 ⊢
    exact take_yesB B mb hb wb l a cap acc left p room w h hp (by omega) h0 hf
set_option maxHeartbeats 800000 in
theorem page_shape (v : Value) (p : Int) (w : World) (hp : ¬ pageA p) :
    Calls Try.prog 30 #[v, .int .i64 p] w fun e w' => e = .returned (.iface 48 (.int .i64 2)) ∧ w = w' := by
  have HP : Hid (Calls Try.prog 18 #[.int .i64 p] w fun e w' => e = .returned (.bool false) ∧ w = w') := by
    have := isPage_any p w
    rw [decide_eq_false hp] at this
    exact this
  clear hp
  go_enter Try.func30, Try.ntmps30
  go_wp2_with fail
  refine HP.out.mono ?_
  rintro e w' ⟨rfl, rfl⟩
  clear HP
  go_wp2
  go_ret
  exact ⟨rfl, rfl⟩
set_option maxHeartbeats 800000 in
theorem page_no (B mb hb wb : Nat) (l : List Nat) (a : Option Addr) (cap : Nat) (acc : List Sg) (left : Nat) (p : Int) (w : World) (h : WS B w mb hb wb l a cap acc left) (hp : p ≤ 9223372036854775807) (hg : pageA p) (hf : ¬ fits l.length p (min 64 left : Nat)) :
    Calls Try.prog 30 #[.pointer (some ⟨wb, 0, none⟩), .int .i64 p] w fun e w' => e = .returned (.iface 48 (.int .i64 1)) ∧ Below B w w' := by
  have HP : Hid (Calls Try.prog 18 #[.int .i64 p] w fun e w' => e = .returned (.bool true) ∧ w = w') := by
    have := isPage_any p w
    rw [decide_eq_true hg] at this
    exact this
  have HT : Hid (Calls Try.prog 21 #[.pointer (some ⟨wb, 0, none⟩), .int .i64 p, .int .i64 64] w fun e w' => e = .returned (.iface 48 (.int .i64 1)) ∧ Below B w w') := take_no B mb hb wb l a cap acc left p 64 w h hp hf
  clear h hf hg
  go_enter Try.func30, Try.ntmps30
  go_wp2_with fail
  refine HP.out.mono ?_
  rintro e w' ⟨rfl, rfl⟩
  go_wp2_with fail
  refine HT.out.mono ?_
  rintro e w' ⟨rfl, hW⟩
  clear HP HT
  go_wp2
  go_ret
  exact ⟨rfl, hW⟩
set_option maxHeartbeats 800000 in
theorem page_yes (B mb hb wb : Nat) (l : List Nat) (a : Option Addr) (cap : Nat) (acc : List Sg) (left : Nat) (p : Int) (w : World) (h : WS B w mb hb wb l a cap acc left) (hp : p ≤ 9223372036854775807) (hg : pageA p) (h0 : 0 < left) (hf : fits l.length p (min 64 left : Nat)) :
    Calls Try.prog 30 #[.pointer (some ⟨wb, 0, none⟩), .int .i64 p] w fun e w' => TakePost B w w' e mb hb wb l acc left p (min 64 left) := by
  have HP : Hid (Calls Try.prog 18 #[.int .i64 p] w fun e w' => e = .returned (.bool true) ∧ w = w') := by
    have := isPage_any p w
    rw [decide_eq_true hg] at this
    exact this
  have HT : Hid (Calls Try.prog 21 #[.pointer (some ⟨wb, 0, none⟩), .int .i64 p, .int .i64 64] w fun e w' => TakePost B w w' e mb hb wb l acc left p (min 64 left)) := take_yes B mb hb wb l a cap acc left p 64 w h hp (by omega) hf
  clear h hf hg h0
  generalize min 64 left = n at *
  go_enter Try.func30, Try.ntmps30
  go_wp2_with fail
  refine HP.out.mono ?_
  rintro e w' ⟨rfl, rfl⟩
  go_wp2_with fail
  refine HT.out.mono ?_
  rintro e w' ⟨rfl, hW⟩
  clear HP HT
  go_wp2
  go_ret
  exact ⟨rfl, hW⟩
theorem number_none (mb hb : Nat) (l : List Nat) (x : Nat) (w : World) (h : MW w mb hb l) (hx : x ≤ 9223372036854775807) (hn : numE l (x : Int) = none) :
    Calls Try.prog 34 #[.pointer (some ⟨mb, 0, none⟩), .int .i64 (x : Nat)] w fun e w' => e = .returned (.tuple #[.int .i64 0, .iface 48 (.int .i64 1)]) ∧ w = w' := by
  by_cases hf : fits l.length (x : Int) 8
  · refine (number_yes mb hb l x w h (by unfold fits at hf; omega)).mono fun e w' ⟨h1, h2⟩ => ⟨?_, h2⟩
    rw [h1]
    unfold numV
    rw [if_neg]
    intro hc
    unfold numE at hn
    rw [Int.toNat_natCast, if_pos ⟨hf, hc⟩] at hn
    cases hn
  · exact number_no mb hb l (x : Int) w h hf (by omega)
theorem number_some (mb hb : Nat) (l : List Nat) (x y : Nat) (w : World) (h : MW w mb hb l) (hn : numE l (x : Int) = some y) :
    Calls Try.prog 34 #[.pointer (some ⟨mb, 0, none⟩), .int .i64 (x : Nat)] w fun e w' => e = .returned (.tuple #[.int .i64 (y : Nat), .nilIface]) ∧ w = w' := by
  obtain ⟨h1, h2, h3⟩ := numE_of hn
  refine (number_yes mb hb l x w h h1).mono fun e w' ⟨q1, q2⟩ => ⟨?_, q2⟩
  rw [q1, h2]
  unfold numV
  rw [if_pos h3]
/-- What takeList gives. -/
def ListPost (B : Nat) (w w' : World) (e : Ending) (mb hb wb : Nat) (l : List Nat) (acc : List Sg) (r : Nat × List Sg) : Prop :=
  e = .returned (errI r.1) ∧ Below B w w' ∧ (r.1 = 0 → ∃ a cap, WS B w' mb hb wb l a cap (acc ++ r.2) 0)
/-- While takeList goes. -/
structure LI (B : Nat) (w wr : World) (mb hb wb : Nat) (l : List Nat) (a : Option Addr) (cap : Nat) (acc0 acc : List Sg) (r : Nat × List Sg) (x left f : Nat) : Prop where
  ws : WS B wr mb hb wb l a cap acc left
  bel : Below B w wr
  few : mu x left < f
  small : x ≤ 9223372036854775807
  eq : ∃ R, acc = acc0 ++ R ∧ r = ((goF l f x left).1, R ++ (goF l f x left).2)
/-- How far it still can go. -/
def mW (wb : Nat) (v : Value) (wr : World) : Nat := mu (intOf v).toNat (intOf ((wr.cell? ⟨wb, 2, none⟩).getD (.int .i64 0))).toNat
theorem LI.mW {B : Nat} {w wr : World} {mb hb wb : Nat} {l : List Nat} {a : Option Addr} {cap : Nat} {acc0 acc : List Sg} {r : Nat × List Sg} {x left f : Nat} (h : LI B w wr mb hb wb l a cap acc0 acc r x left f) : Ytdkafcgangcgbaj.mW wb (.int .i64 (x : Nat)) wr = mu x left := by
  unfold Ytdkafcgangcgbaj.mW
  rw [h.ws.c2]
  simp [intOf]
theorem LI.bad {B : Nat} {w wr w' : World} {mb hb wb : Nat} {l : List Nat} {a : Option Addr} {cap : Nat} {acc0 acc : List Sg} {r : Nat × List Sg} {x left f : Nat} (h : LI B w wr mb hb wb l a cap acc0 acc r x left f) (hb' : Below B wr w') (n : Nat) (hn : n ≠ 0) (hg : goF l f x left = (n, [])) : ListPost B w w' (.returned (.iface 48 (.int .i64 (n : Nat)))) mb hb wb l acc0 r := by
  obtain ⟨R, _, e⟩ := h.eq
  rw [hg] at e
  subst e
  exact ⟨by show _ = Ending.returned (errI n); unfold errI; rw [if_neg hn], h.bel.trans hb', fun c => absurd c hn⟩
theorem LI.done {B : Nat} {w wr : World} {mb hb wb : Nat} {l : List Nat} {a : Option Addr} {cap : Nat} {acc0 acc : List Sg} {r : Nat × List Sg} {x f : Nat} (h : LI B w wr mb hb wb l a cap acc0 acc r x 0 f) : ListPost B w wr (.returned .nilIface) mb hb wb l acc0 r := by
  obtain ⟨R, e1, e⟩ := h.eq
  cases f with
  | zero => have := h.few; omega
  | succ f =>
    rw [goF_done] at e
    subst e
    refine ⟨rfl, h.bel, fun _ => ⟨a, cap, ?_⟩⟩
    have := h.ws
    rw [e1] at this
    simpa using this
theorem LI.on {B : Nat} {w wr : World} {mb hb wb : Nat} {l : List Nat} {a : Option Addr} {cap : Nat} {acc0 acc : List Sg} {r : Nat × List Sg} {x left f y : Nat} (h : LI B w wr mb hb wb l a cap acc0 acc r x left f) (h0 : left ≠ 0) (hn : numE l (x : Int) = some y) (hy : y % 64 = 0) (ha : x % 64 = 56 ∧ 64 < left) : ∃ f', LI B w wr mb hb wb l a cap acc0 acc r y left f' ∧ mu y left < mu x left := by
  have hm : mu y left < mu x left := by unfold mu; rw [if_pos ha.1, if_neg (by omega)]; omega
  obtain ⟨R, e1, e⟩ := h.eq
  cases f with
  | zero => have := h.few; omega
  | succ f =>
    rw [goF_on h0 hn hy ha] at e
    exact ⟨f, ⟨h.ws, h.bel, by have := h.few; omega, by have := (numE_of hn).2.2; omega, R, e1, e⟩, hm⟩
theorem LI.seg {B : Nat} {w wr w' : World} {mb hb wb : Nat} {l : List Nat} {a a' : Option Addr} {cap cap' : Nat} {acc0 acc : List Sg} {r : Nat × List Sg} {x left f y : Nat} (h : LI B w wr mb hb wb l a cap acc0 acc r x left f) (h0 : left ≠ 0) (hn : numE l (x : Int) = some y) (hy : y % 64 = 0) (ha : ¬ (x % 64 = 56 ∧ 64 < left)) (ho : ¬ l.length < y + min 64 left) (hb' : Below B wr w') (hs : WS B w' mb hb wb l a' cap' (acc ++ [⟨(y : Int), ((min 64 left : Nat) : Int)⟩]) (left - min 64 left)) : ∃ f', LI B w w' mb hb wb l a' cap' acc0 (acc ++ [⟨(y : Int), ((min 64 left : Nat) : Int)⟩]) r (x + 8) (left - min 64 left) f' ∧ mu (x + 8) (left - min 64 left) < mu x left := by
  have hm : mu (x + 8) (left - min 64 left) < mu x left := by unfold mu; split <;> split <;> omega
  obtain ⟨R, e1, e⟩ := h.eq
  cases f with
  | zero => have := h.few; omega
  | succ f =>
    rw [goF_seg h0 hn hy ha ho] at e
    refine ⟨f, ⟨hs, h.bel.trans hb', by have := h.few; omega, ?_, R ++ [⟨(y : Int), ((min 64 left : Nat) : Int)⟩], by rw [e1, List.append_assoc], by rw [e]; simp⟩, hm⟩
    have := (numE_of hn).1
    have := h.ws.mw.long
    omega
set_option maxRecDepth 20000 in
set_option maxHeartbeats 8000000 in
theorem takeList_any (B mb hb wb : Nat) (l : List Nat) (a0 : Option Addr) (cap0 : Nat) (acc0 : List Sg) (left0 at0 : Nat) (w : World) (h : WS B w mb hb wb l a0 cap0 acc0 left0) (hat : at0 ≤ 9223372036854775807) (hl : left0 ≤ 2048) :
    Calls Try.prog 31 #[.pointer (some ⟨wb, 0, none⟩), .int .i64 (at0 : Nat)] w fun e w' => ListPost B w w' e mb hb wb l acc0 (goF l 5000 at0 left0) := by
  have H0 : Hid (LI B w w mb hb wb l a0 cap0 acc0 acc0 (goF l 5000 at0 left0) at0 left0 5000) := ⟨h, Below.refl _ _, by unfold mu; split <;> omega, hat, [], by simp, by simp⟩
  clear h hat hl
  generalize goF l 5000 at0 left0 = r at *
  go_enter Try.func31, Try.ntmps31
  go_wp2
  go_loopw [1] (fun v wr => ∃ (a : Option Addr) (cap : Nat) (acc : List Sg) (x left f : Nat), v = .int .i64 (x : Nat) ∧ Hid (LI B w wr mb hb wb l a cap acc0 acc r x left f)) (fun v wr => mW wb v wr)
  case atStart => exact ⟨a0, cap0, acc0, at0, left0, 5000, rfl, H0.out⟩
  case round =>
    obtain ⟨a, cap, acc, x, left, f, rfl, hR⟩ := hrel
    clear H0
    have c0 := hR.out.ws.c0
    have c2 := hR.out.ws.c2
    by_cases hl0 : left = 0
    · subst hl0
      have HD := hR.out.done
      clear hR
      go_wp2
      go_ret
      exact HD
    · have hlp : (0 : Int) < (left : Int) := by omega
      have hsm := hR.out.small
      have HM : Hid (mW wb (.int .i64 (x : Nat)) wr = mu x left) := hR.out.mW
      have HL0 : Hid (¬ left = 0) := hl0
      clear hl0
      cases hn : numE l (x : Int) with
      | none =>
        have HN := number_none mb hb l x wr hR.out.ws.mw hsm hn
        have HD := hR.out.bad (Below.refl B wr) 1 (by decide) (by cases f with
          | zero => have := hR.out.few; omega
          | succ f => exact goF_none HL0.out hn)
        clear hR hn hsm HM
        go_wp2_with fail
        refine HN.mono ?_
        rintro e w' ⟨rfl, rfl⟩
        clear HN
        go_wp2
        go_ret
        exact HD
      | some y =>
        have HN := number_some mb hb l x y wr hR.out.ws.mw hn
        have HLs := isLast_any x wr
        obtain ⟨hx1, hx2, hx3⟩ := numE_of hn
        have HY : Hid (numE l (x : Int) = some y) := hn
        have hx8 : x + 8 ≤ 16384 := by have := hR.out.ws.mw.long; omega
        clear hx2 hx1 hn
        by_cases hy : y % 64 = 0
        · have HPg : Hid (pageA (y : Int)) := ⟨by omega, by omega⟩
          by_cases ha : x % 64 = 56 ∧ 64 < left
          · have HI : Hid (Calls Try.prog 18 #[.int .i64 (y : Nat)] wr fun e w' => e = .returned (.bool true) ∧ wr = w') := by
              have := isPage_any (y : Nat) wr
              rw [decide_eq_true HPg.out] at this
              exact this
            obtain ⟨f', hL, hm⟩ := hR.out.on HL0.out HY.out hy ha
            have HD : Hid (LI B w wr mb hb wb l a cap acc0 acc r y left f' ∧ mW wb (.int .i64 (y : Nat)) wr < mW wb (.int .i64 (x : Nat)) wr) := ⟨hL, by rw [hL.mW, HM.out]; exact hm⟩
            rw [decide_eq_true ha.1] at HLs
            have hl64 : (64 : Int) < (left : Int) := by have := ha.2; omega
            clear hL hm hR hy ha HPg HY HM HL0
            go_wp2_with fail
            refine HN.mono ?_
            rintro e w' ⟨rfl, rfl⟩
            go_wp2_with fail
            refine HLs.mono ?_
            rintro e w' ⟨rfl, rfl⟩
            go_wp2_with fail
            refine HI.out.mono ?_
            rintro e w' ⟨rfl, rfl⟩
            clear HN HLs HI
            go_wp2
            go_roundw
            case rel => exact ⟨a, cap, acc, y, left, f', rfl, HD.out.1⟩
            case measure => exact HD.out.2
          · by_cases ho : l.length < y + min 64 left
            · have HT : Hid (Calls Try.prog 30 #[.pointer (some ⟨wb, 0, none⟩), .int .i64 (y : Nat)] wr fun e w' => e = .returned (.iface 48 (.int .i64 1)) ∧ Below B wr w') := page_no B mb hb wb l a cap acc left (y : Nat) wr hR.out.ws (by omega) HPg.out (by unfold fits; omega)
              have HD : Hid (∀ w', Below B wr w' → ListPost B w w' (.returned (.iface 48 (.int .i64 1))) mb hb wb l acc0 r) := fun w' hb' => hR.out.bad hb' 1 (by decide) (by cases f with
                | zero => have := hR.out.few; omega
                | succ f => exact goF_out HL0.out HY.out hy ha ho)
              clear hR HPg ho hy HY HM HL0
              by_cases hx : x % 64 = 56
              · rw [decide_eq_true hx] at HLs
                have hl64 : ¬ (64 : Int) < (left : Int) := fun c => ha ⟨hx, by omega⟩
                clear hx ha
                go_wp2_with fail
                refine HN.mono ?_
                rintro e w' ⟨rfl, rfl⟩
                go_wp2_with fail
                refine HLs.mono ?_
                rintro e w' ⟨rfl, rfl⟩
                clear HN HLs
                go_wp2_with fail
                refine HT.out.mono ?_
                rintro e w' ⟨rfl, hW⟩
                clear HT
                go_wp2
                go_ret
                exact HD.out w' hW
              · rw [decide_eq_false hx] at HLs
                clear hx ha
                go_wp2_with fail
                refine HN.mono ?_
                rintro e w' ⟨rfl, rfl⟩
                go_wp2_with fail
                refine HLs.mono ?_
                rintro e w' ⟨rfl, rfl⟩
                clear HN HLs
                go_wp2_with fail
                refine HT.out.mono ?_
                rintro e w' ⟨rfl, hW⟩
                clear HT
                go_wp2
                go_ret
                exact HD.out w' hW
            · have HT : Hid (Calls Try.prog 30 #[.pointer (some ⟨wb, 0, none⟩), .int .i64 (y : Nat)] wr fun e w' => TakePost B wr w' e mb hb wb l acc left (y : Nat) (min 64 left)) := page_yes B mb hb wb l a cap acc left (y : Nat) wr hR.out.ws (by omega) HPg.out (by have := HL0.out; omega) (by unfold fits; omega)
              have HD : Hid (∀ w' a' cap', Below B wr w' → WS B w' mb hb wb l a' cap' (acc ++ [⟨(y : Int), ((min 64 left : Nat) : Int)⟩]) (left - min 64 left) → ∃ f', LI B w w' mb hb wb l a' cap' acc0 (acc ++ [⟨(y : Int), ((min 64 left : Nat) : Int)⟩]) r (x + 8) (left - min 64 left) f' ∧ mW wb (.int .i64 ((x + 8 : Nat) : Int)) w' < mW wb (.int .i64 (x : Nat)) wr) := fun w' a' cap' hb' hs => by
                obtain ⟨f', hL, hm⟩ := hR.out.seg HL0.out HY.out hy ha ho hb' hs
                exact ⟨f', hL, by rw [hL.mW, HM.out]; exact hm⟩
              clear hR HPg ho hy HY HM HL0
              by_cases hx : x % 64 = 56
              · rw [decide_eq_true hx] at HLs
                have hl64 : ¬ (64 : Int) < (left : Int) := fun c => ha ⟨hx, by omega⟩
                clear hx ha
                go_wp2_with fail
                refine HN.mono ?_
                rintro e w' ⟨rfl, rfl⟩
                go_wp2_with fail
                refine HLs.mono ?_
                rintro e w' ⟨rfl, rfl⟩
                clear HN HLs
                go_wp2_with fail
                refine HT.out.mono ?_
                rintro e w' ⟨rfl, hW, a', cap', hs⟩
                obtain ⟨f', hL, hm⟩ := HD.out w' a' cap' hW hs
                have HE : Hid (LI B w w' mb hb wb l a' cap' acc0 (acc ++ [⟨(y : Int), ((min 64 left : Nat) : Int)⟩]) r (x + 8) (left - min 64 left) f' ∧ mW wb (.int .i64 ((x + 8 : Nat) : Int)) w' < mW wb (.int .i64 (x : Nat)) wr) := ⟨hL, hm⟩
                clear HT HD hs hW hL hm
                go_wp2
                go_roundw
                case rel => exact ⟨a', cap', _, x + 8, _, f', by go_num, HE.out.1⟩
                case measure => exact HE.out.2
              · rw [decide_eq_false hx] at HLs
                clear hx ha
                go_wp2_with fail
                refine HN.mono ?_
                rintro e w' ⟨rfl, rfl⟩
                go_wp2_with fail
                refine HLs.mono ?_
                rintro e w' ⟨rfl, rfl⟩
                clear HN HLs
                go_wp2_with fail
                refine HT.out.mono ?_
                rintro e w' ⟨rfl, hW, a', cap', hs⟩
                obtain ⟨f', hL, hm⟩ := HD.out w' a' cap' hW hs
                have HE : Hid (LI B w w' mb hb wb l a' cap' acc0 (acc ++ [⟨(y : Int), ((min 64 left : Nat) : Int)⟩]) r (x + 8) (left - min 64 left) f' ∧ mW wb (.int .i64 ((x + 8 : Nat) : Int)) w' < mW wb (.int .i64 (x : Nat)) wr) := ⟨hL, hm⟩
                clear HT HD hs hW hL hm
                go_wp2
                go_roundw
                case rel => exact ⟨a', cap', _, x + 8, _, f', by go_num, HE.out.1⟩
                case measure => exact HE.out.2
        · by_cases ha : x % 64 = 56 ∧ 64 < left
          · have HI : Hid (Calls Try.prog 18 #[.int .i64 (y : Nat)] wr fun e w' => e = .returned (.bool false) ∧ wr = w') := by
              have := isPage_any (y : Nat) wr
              rw [decide_eq_false (by omega)] at this
              exact this
            have HD := hR.out.bad (Below.refl B wr) 2 (by decide) (by cases f with
              | zero => have := hR.out.few; omega
              | succ f => exact goF_shape HL0.out HY.out hy)
            rw [decide_eq_true ha.1] at HLs
            have hl64 : (64 : Int) < (left : Int) := by have := ha.2; omega
            clear hR hy ha HY HM HL0
            go_wp2_with fail
            refine HN.mono ?_
            rintro e w' ⟨rfl, rfl⟩
            go_wp2_with fail
            refine HLs.mono ?_
            rintro e w' ⟨rfl, rfl⟩
            go_wp2_with fail
            refine HI.out.mono ?_
            rintro e w' ⟨rfl, rfl⟩
            clear HN HLs HI
            go_wp2
            go_ret
            exact HD
          · have HT : Hid (Calls Try.prog 30 #[.pointer (some ⟨wb, 0, none⟩), .int .i64 (y : Nat)] wr fun e w' => e = .returned (.iface 48 (.int .i64 2)) ∧ wr = w') := page_shape _ (y : Nat) wr (by unfold pageA; omega)
            have HD : Hid (ListPost B w wr (.returned (.iface 48 (.int .i64 2))) mb hb wb l acc0 r) := hR.out.bad (Below.refl B wr) 2 (by decide) (by cases f with
              | zero => have := hR.out.few; omega
              | succ f => exact goF_shape HL0.out HY.out hy)
            clear hR hy HY HM HL0
            by_cases hx : x % 64 = 56
            · rw [decide_eq_true hx] at HLs
              have hl64 : ¬ (64 : Int) < (left : Int) := fun c => ha ⟨hx, by omega⟩
              clear hx ha
              go_wp2_with fail
              refine HN.mono ?_
              rintro e w' ⟨rfl, rfl⟩
              go_wp2_with fail
              refine HLs.mono ?_
              rintro e w' ⟨rfl, rfl⟩
              clear HN HLs
              go_wp2_with fail
              refine HT.out.mono ?_
              rintro e w' ⟨rfl, rfl⟩
              clear HT
              go_wp2
              go_ret
              exact HD.out
            · rw [decide_eq_false hx] at HLs
              clear hx ha
              go_wp2_with fail
              refine HN.mono ?_
              rintro e w' ⟨rfl, rfl⟩
              go_wp2_with fail
              refine HLs.mono ?_
              rintro e w' ⟨rfl, rfl⟩
              clear HN HLs
              go_wp2_with fail
              refine HT.out.mono ?_
              rintro e w' ⟨rfl, rfl⟩
              clear HT
              go_wp2
              go_ret
              exact HD.out
end Go.Proofs.Ytdkafcgangcgbaj

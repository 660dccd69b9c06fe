/-
  What list.Walk gives: what is wrong, or the segments, the call's own.
-/
import Derived.Test.YtdkafcgangcgbajTakeList
namespace Go.Proofs.Ytdkafcgangcgbaj
open Go.RowKit
set_option linter.unusedVariables false

theorem errI_ne {n : Nat} (h : n ≠ 0) : errI n = .iface 48 (.int .i64 (n : Int)) := if_neg h
theorem errI_zero : errI 0 = .nilIface := rfl
theorem ListPost.none {B : Nat} {w w' : World} {mb hb wb : Nat} {l : List Nat} {acc : List Sg} {n : Nat} (hn : n ≠ 0) (hb' : Below B w w') {r : Nat × List Sg} (hr : r = (n, [])) : ListPost B w w' (.returned (.iface 48 (.int .i64 (n : Nat)))) mb hb wb l acc r := by
  subst hr
  exact ⟨by show _ = Ending.returned (errI n); rw [errI_ne hn], hb', fun c => absurd c hn⟩
set_option maxRecDepth 20000 in
set_option maxHeartbeats 1600000 in
theorem takeRest_any (B mb hb wb : Nat) (l : List Nat) (a : Option Addr) (cap : Nat) (acc : List Sg) (left : Nat) (second : Int) (w : World) (h : WS B w mb hb wb l a cap acc left) (h0 : 0 < left) (hl : left ≤ 2048) (hs : second ≤ 9223372036854775807) :
    Calls Try.prog 22 #[.pointer (some ⟨wb, 0, none⟩), .int .i64 second] w fun e w' => ListPost B w w' e mb hb wb l acc (restF l second left) := by
  have c2 := h.c2
  by_cases h1 : left ≤ 64
  · have hi : (left : Int) ≤ 64 := by omega
    have hmin : min 64 left = left := Nat.min_eq_right h1
    have HT : Hid (Calls Try.prog 30 #[.pointer (some ⟨wb, 0, none⟩), .int .i64 second] w fun e w' => ListPost B w w' e mb hb wb l acc (restF l second left)) := by
      by_cases h2 : pageA second
      · by_cases h3 : fits l.length second (left : Int)
        · refine (page_yes B mb hb wb l a cap acc left second w h hs h2 h0 (by rw [hmin]; exact h3)).mono ?_
          rintro e w' ⟨q1, q2, a', cap', q3⟩
          have er : restF l second left = (0, [⟨second, (left : Int)⟩]) := by unfold restF; rw [if_neg (by omega), if_pos h1, if_neg (Decidable.not_not.2 h2), if_neg (Decidable.not_not.2 h3)]
          rw [er]
          rw [hmin, Nat.sub_self] at q3
          exact ⟨q1, q2, fun _ => ⟨a', cap', q3⟩⟩
        · refine (page_no B mb hb wb l a cap acc left second w h hs h2 (by rw [hmin]; exact h3)).mono ?_
          rintro e w' ⟨rfl, q2⟩
          exact ListPost.none (n := 1) (by decide) q2 (by unfold restF; rw [if_neg (by omega), if_pos h1, if_neg (Decidable.not_not.2 h2), if_pos h3])
      · refine (page_shape _ second w h2).mono ?_
        rintro e w' ⟨rfl, rfl⟩
        exact ListPost.none (n := 2) (by decide) (Below.refl _ _) (by unfold restF; rw [if_neg (by omega), if_pos h1, if_pos h2])
    clear h h0 hl hmin h1
    generalize restF l second left = r at *
    go_enter Try.func22, Try.ntmps22
    go_wp2_with fail
    refine HT.out.mono ?_
    rintro e w' ⟨rfl, hW⟩
    clear HT
    go_wp2
    go_ret
    exact ⟨rfl, hW⟩
  · have hi : ¬ (left : Int) ≤ 64 := by omega
    by_cases h2 : second < 0
    · have HD : Hid (ListPost B w w (.returned (.iface 48 (.int .i64 2))) mb hb wb l acc (restF l second left)) := ListPost.none (n := 2) (by decide) (Below.refl _ _) (by unfold restF; rw [if_neg (by omega), if_neg h1, if_pos (Or.inl h2)])
      clear h h0 hl h1
      generalize restF l second left = r at *
      go_enter Try.func22, Try.ntmps22
      go_wp2
      go_ret
      exact HD.out
    · obtain ⟨k, rfl⟩ := Int.eq_ofNat_of_zero_le (show 0 ≤ second by omega)
      by_cases h3 : ((k : Nat) : Int) % 8 = 0
      · have h4 : (((k : Nat) : Int) % 8 != 0) = false := by simpa using h3
        have HT : Hid (Calls Try.prog 31 #[.pointer (some ⟨wb, 0, none⟩), .int .i64 (k : Nat)] w fun e w' => ListPost B w w' e mb hb wb l acc (restF l (k : Nat) left)) := by
          have er : restF l (k : Nat) left = goF l 5000 k left := by unfold restF; rw [if_neg (by omega), if_neg h1, if_neg (by omega), Int.toNat_natCast]
          rw [er]
          exact takeList_any B mb hb wb l a cap acc left k w h (by omega) hl
        clear h h0 hl h1 h2 h3
        generalize restF l (k : Nat) left = r at *
        go_enter Try.func22, Try.ntmps22
        go_wp2_with fail
        refine HT.out.mono ?_
        rintro e w' ⟨rfl, hW⟩
        clear HT
        go_wp2
        go_ret
        exact ⟨rfl, hW⟩
      · have h4 : (((k : Nat) : Int) % 8 != 0) = true := by simpa using h3
        have HD : Hid (ListPost B w w (.returned (.iface 48 (.int .i64 2))) mb hb wb l acc (restF l (k : Nat) left)) := ListPost.none (n := 2) (by decide) (Below.refl _ _) (by unfold restF; rw [if_neg (by omega), if_neg h1, if_pos (Or.inr h3)])
        clear h h0 hl h1 h2 h3
        generalize restF l (k : Nat) left = r at *
        go_enter Try.func22, Try.ntmps22
        go_wp2
        go_ret
        exact HD.out
/-- What Walk gives. -/
def WalkPost (w w' : World) (e : Ending) (r : Nat × List Sg) : Prop :=
  Below w.heap.size w w' ∧ ((r.1 ≠ 0 ∧ e = .returned (.tuple #[.slice none 0 0, .iface 48 (.int .i64 (r.1 : Int))])) ∨ (r.1 = 0 ∧ ∃ a cap, e = .returned (.tuple #[.slice a r.2.length cap, .nilIface]) ∧ OwnS w' w.heap.size a cap r.2))
theorem WalkPost.no {w w' : World} {r : Nat × List Sg} {n : Nat} (hn : n ≠ 0) (hb : Below w.heap.size w w') (hr : r.1 = n) : WalkPost w w' (.returned (.tuple #[.slice none 0 0, .iface 48 (.int .i64 (n : Nat))])) r := by
  subst hr
  exact ⟨hb, .inl ⟨hn, rfl⟩⟩
/-- A walker that begins. -/
theorem WS.new {w w' : World} {mb hb : Nat} {l : List Nat} (h : MW w mb hb l) (n : Nat) (hn : n ≤ 2048) (hw' : w' = w.alloc (.cells #[.pointer (some ⟨mb, 0, none⟩), .slice none 0 0, .int .i64 (n : Nat)] 54)) :
    WS w.heap.size w' mb hb w.heap.size l none 0 [] n := by
  subst hw'
  have hb' := alloc_below' w (.cells #[.pointer (some ⟨mb, 0, none⟩), .slice none 0 0, .int .i64 (n : Nat)] 54)
  refine ⟨h.below hb', h.lt.1, h.lt.2, Nat.le_refl _, by simp, by simp, by simp, fun o => by simp, OwnS.nil _ _, fun b e => (by obtain ⟨x, e, _⟩ := e; cases e), (by simp; omega)⟩
set_option maxRecDepth 20000 in
set_option maxHeartbeats 1600000 in
/-- long is none that may be. -/
theorem walk_long (mb hb : Nat) (l : List Nat) (first second long : Int) (w : World) (h : long < 1 ∨ 2048 < long) :
    Calls Try.prog 7 #[.pointer (some ⟨mb, 0, none⟩), .int .i64 first, .int .i64 second, .int .i64 long] w fun e w' => WalkPost w w' e (walkF l first second long) := by
  have HM : Hid (Calls Try.prog 15 #[.int .i64 long] w fun e w' => e = .returned (.bool false) ∧ w = w') := by
    have := mayMove_any long w
    rw [decide_eq_false (by omega)] at this
    exact this
  have HD : Hid (WalkPost w w (.returned (.tuple #[.slice none 0 0, .iface 48 (.int .i64 1)])) (walkF l first second long)) := WalkPost.no (n := 1) (by decide) (Below.refl _ _) (by unfold walkF; rw [if_pos h])
  clear h
  generalize walkF l first second long = r at *
  go_enter Try.func7, Try.ntmps7
  go_wp2_with fail
  refine HM.out.mono ?_
  rintro e w' ⟨rfl, rfl⟩
  clear HM
  go_wp2
  go_ret2
  exact HD.out
set_option maxRecDepth 20000 in
set_option maxHeartbeats 1600000 in
/-- first is no multiple of 4. -/
theorem walk_four (mb hb : Nat) (l : List Nat) (first second long : Int) (w : World) (h : 1 ≤ long ∧ long ≤ 2048) (h4 : first % 4 ≠ 0) :
    Calls Try.prog 7 #[.pointer (some ⟨mb, 0, none⟩), .int .i64 first, .int .i64 second, .int .i64 long] w fun e w' => WalkPost w w' e (walkF l first second long) := by
  have HM : Hid (Calls Try.prog 15 #[.int .i64 long] w fun e w' => e = .returned (.bool true) ∧ w = w') := by
    have := mayMove_any long w
    rw [decide_eq_true h] at this
    exact this
  have HD : Hid (WalkPost w w (.returned (.tuple #[.slice none 0 0, .iface 48 (.int .i64 2)])) (walkF l first second long)) := WalkPost.no (n := 2) (by decide) (Below.refl _ _) (by unfold walkF; rw [if_neg (by omega), if_pos h4])
  have ht : (first.tmod 4 != 0) = true := by
    rw [bne_iff_ne]
    exact fun c => h4 ((tmod_dvd first 4 (by decide)).1 c)
  clear h h4
  generalize walkF l first second long = r at *
  go_enter Try.func7, Try.ntmps7
  go_wp2_with fail
  refine HM.out.mono ?_
  rintro e w' ⟨rfl, rfl⟩
  clear HM
  go_wp2
  go_ret2
  exact HD.out
set_option maxRecDepth 20000 in
set_option maxHeartbeats 1600000 in
/-- The first segment does not lie in the memory. -/
theorem walk_out (mb hb : Nat) (l : List Nat) (first second : Int) (long room : Nat) (w : World) (hm : MW w mb hb l) (h : 1 ≤ long ∧ long ≤ 2048) (h4 : first % 4 = 0) (hr : (64 : Int) - first.tmod 64 = (room : Int)) (hrm : room ≤ 200) (hp : first ≤ 9223372036854775807) (hf : ¬ fits l.length first (min room long : Nat)) (h1 : (walkF l first second (long : Int)).1 = 1) :
    Calls Try.prog 7 #[.pointer (some ⟨mb, 0, none⟩), .int .i64 first, .int .i64 second, .int .i64 (long : Nat)] w fun e w' => WalkPost w w' e (walkF l first second (long : Int)) := by
  have HM : Hid (Calls Try.prog 15 #[.int .i64 (long : Nat)] w fun e w' => e = .returned (.bool true) ∧ w = w') := by
    have := mayMove_any (long : Nat) w
    rw [decide_eq_true (by omega)] at this
    exact this
  have HD : Hid (∀ w', Below w.heap.size w w' → WalkPost w w' (.returned (.tuple #[.slice none 0 0, .iface 48 (.int .i64 1)])) (walkF l first second (long : Int))) := fun w' hb' => WalkPost.no (n := 1) (by decide) hb' h1
  have HP := present_any mb w
  have HB : Hid (Below w.heap.size w (w.alloc (.cells #[.pointer (some ⟨mb, 0, none⟩), .slice none 0 0, .int .i64 (long : Nat)] 54))) := alloc_below' w _
  have HT : Hid (Calls Try.prog 21 #[.pointer (some ⟨w.heap.size, 0, none⟩), .int .i64 first, .int .i64 (room : Nat)] (w.alloc (.cells #[.pointer (some ⟨mb, 0, none⟩), .slice none 0 0, .int .i64 (long : Nat)] 54)) fun e w' => e = .returned (.iface 48 (.int .i64 1)) ∧ Below w.heap.size (w.alloc (.cells #[.pointer (some ⟨mb, 0, none⟩), .slice none 0 0, .int .i64 (long : Nat)] 54)) w') := take_no w.heap.size mb hb w.heap.size l none 0 [] long first room _ (WS.new hm long h.2 rfl) hp hf
  have ht : (first.tmod 4 != 0) = false := by
    rw [bne_eq_false_iff_eq]
    exact (tmod_dvd first 4 (by decide)).2 h4
  clear h h4 h1 hf hm
  generalize walkF l first second (long : Int) = r at *
  go_enter Try.func7, Try.ntmps7
  go_wp2_with fail
  refine HM.out.mono ?_
  rintro e w' ⟨rfl, rfl⟩
  go_wp2_with fail
  refine HP.mono ?_
  rintro e w' ⟨rfl, rfl⟩
  clear HM HP
  go_wp2_with fail
  refine HT.out.mono ?_
  rintro e w' ⟨rfl, hW⟩
  have HE := HD.out w' (HB.out.trans hW)
  clear HT HD HB hW
  go_wp2
  go_ret2
  exact HE
set_option maxRecDepth 20000 in
set_option maxHeartbeats 1600000 in
/-- The first segment does. -/
theorem walk_in (mb hb : Nat) (l : List Nat) (first : Nat) (second : Int) (long room : Nat) (w : World) (hm : MW w mb hb l) (h : 1 ≤ long ∧ long ≤ 2048) (h4 : first % 4 = 0) (hr : (64 : Int) - (first : Int) % 64 = (room : Int)) (hrm : room ≤ 200) (hp : first ≤ 9223372036854775807) (hs : second ≤ 9223372036854775807) (hf : first + min room long ≤ l.length) (hrp : 0 < room)
    (hw : walkF l first second (long : Int) = ((restF l second (long - min room long)).1, ⟨(first : Int), ((min room long : Nat) : Int)⟩ :: (restF l second (long - min room long)).2)) :
    Calls Try.prog 7 #[.pointer (some ⟨mb, 0, none⟩), .int .i64 (first : Nat), .int .i64 second, .int .i64 (long : Nat)] w fun e w' => WalkPost w w' e (walkF l first second (long : Int)) := by
  have HM : Hid (Calls Try.prog 15 #[.int .i64 (long : Nat)] w fun e w' => e = .returned (.bool true) ∧ w = w') := by
    have := mayMove_any (long : Nat) w
    rw [decide_eq_true (by omega)] at this
    exact this
  have HP := present_any mb w
  have HB : Hid (Below w.heap.size w (w.alloc (.cells #[.pointer (some ⟨mb, 0, none⟩), .slice none 0 0, .int .i64 (long : Nat)] 54))) := alloc_below' w _
  have HT : Hid (Calls Try.prog 21 #[.pointer (some ⟨w.heap.size, 0, none⟩), .int .i64 (first : Nat), .int .i64 (room : Nat)] (w.alloc (.cells #[.pointer (some ⟨mb, 0, none⟩), .slice none 0 0, .int .i64 (long : Nat)] 54)) fun e w' => TakePost w.heap.size (w.alloc (.cells #[.pointer (some ⟨mb, 0, none⟩), .slice none 0 0, .int .i64 (long : Nat)] 54)) w' e mb hb w.heap.size l [] long (first : Nat) (min room long)) := take_yes w.heap.size mb hb w.heap.size l none 0 [] long (first : Nat) room _ (WS.new hm long h.2 rfl) (by omega) (by omega) (by unfold fits; omega)
  have ht : (((first : Nat) : Int) % 4 != 0) = false := by
    rw [bne_eq_false_iff_eq]
    omega
  have HW : Hid (walkF l first second (long : Int) = ((restF l second (long - min room long)).1, ⟨(first : Int), ((min room long : Nat) : Int)⟩ :: (restF l second (long - min room long)).2)) := hw
  obtain ⟨left, HLF⟩ : ∃ left, Hid (left = long - min room long ∧ left ≤ 2048) := ⟨_, rfl, by omega⟩
  have HR : Hid (∀ w2 a cap, WS w.heap.size w2 mb hb w.heap.size l a cap [⟨(first : Int), ((min room long : Nat) : Int)⟩] left → 0 < left → Calls Try.prog 22 #[.pointer (some ⟨w.heap.size, 0, none⟩), .int .i64 second] w2 fun e w' => ListPost w.heap.size w2 w' e mb hb w.heap.size l [⟨(first : Int), ((min room long : Nat) : Int)⟩] (restF l second left)) := fun w2 a cap q q0 => takeRest_any w.heap.size mb hb w.heap.size l a cap _ left second w2 q q0 HLF.out.2 hs
  have HE : Hid (walkF l first second (long : Int) = ((restF l second left).1, ⟨(first : Int), ((min room long : Nat) : Int)⟩ :: (restF l second left).2)) := by show _ = _; rw [HW.out, HLF.out.1]
  have HZ : Hid (left = 0 → restF l second left = (0, [])) := fun e => by unfold restF; rw [if_pos e]
  have HT2 : Hid (Calls Try.prog 21 #[.pointer (some ⟨w.heap.size, 0, none⟩), .int .i64 (first : Nat), .int .i64 (room : Nat)] (w.alloc (.cells #[.pointer (some ⟨mb, 0, none⟩), .slice none 0 0, .int .i64 (long : Nat)] 54)) fun e w' => e = .returned .nilIface ∧ Below w.heap.size w w' ∧ ∃ a cap, WS w.heap.size w' mb hb w.heap.size l a cap [⟨(first : Int), ((min room long : Nat) : Int)⟩] left) := by
    refine HT.out.mono ?_
    rintro e w' ⟨q1, q2, a, cap, q3⟩
    rw [← HLF.out.1] at q3
    exact ⟨q1, HB.out.trans q2, a, cap, q3⟩
  clear h h4 hf hm hp hs HW hw hrp HT HB HLF
  rw [HE.out]
  generalize restF l second left = r at *
  generalize (⟨(first : Int), ((min room long : Nat) : Int)⟩ : Sg) = s at *
  go_enter Try.func7, Try.ntmps7
  go_wp2_with fail
  refine HM.out.mono ?_
  rintro e w' ⟨rfl, rfl⟩
  go_wp2_with fail
  refine HP.mono ?_
  rintro e w' ⟨rfl, rfl⟩
  clear HM HP
  go_wp2_with fail
  refine HT2.out.mono ?_
  rintro e w2 ⟨rfl, hW, a, cap, hS⟩
  have c1 := hS.c1
  have c2 := hS.c2
  have HO : Hid (OwnS w2 w.heap.size a cap [s] ∧ Below w.heap.size w w2) := ⟨hS.own, hW⟩
  clear HT2 HE
  by_cases h0 : left = 0
  · subst h0
    have er := HZ.out rfl
    subst er
    clear HR HZ hS hW
    go_wp2
    go_ret2
    exact ⟨HO.out.2, .inr ⟨rfl, a, cap, rfl, HO.out.1⟩⟩
  · have h1 : (0 : Int) < (left : Int) := by omega
    have HQ := HR.out w2 a cap hS (by omega)
    clear HR HZ hS hW
    go_wp2_with fail
    refine HQ.mono ?_
    rintro e w3 ⟨rfl, hb3, hs3⟩
    have hb4 := HO.out.2.trans hb3
    clear HQ HO
    by_cases hr0 : r.1 = 0
    · obtain ⟨a3, cap3, hS3⟩ := hs3 hr0
      have c13 := hS3.c1
      rw [show errI r.1 = .nilIface by rw [hr0]; rfl]
      have HO : Hid (OwnS w3 w.heap.size a3 cap3 (s :: r.2)) := hS3.own
      have HF : Hid (WalkPost w w3 (.returned (.tuple #[.slice a3 ([s] ++ r.2).length cap3, .nilIface])) (r.1, s :: r.2)) := ⟨hb4, .inr ⟨hr0, a3, cap3, rfl, HO.out⟩⟩
      clear hs3 hS3 hr0
      go_wp2
      go_ret2
      exact HF.out
    · have HF : Hid (WalkPost w w3 (.returned (.tuple #[.slice none 0 0, .iface 48 (.int .i64 (r.1 : Nat))])) (r.1, s :: r.2)) := WalkPost.no hr0 hb4 rfl
      rw [errI_ne hr0]
      clear hs3 hr0
      go_wp2
      go_ret2
      exact HF.out
/-- WHAT WALK GIVES. -/
theorem walk_any (mb hb : Nat) (l : List Nat) (first second long : Int) (w : World) (hm : MW w mb hb l) (hp : first ≤ 9223372036854775807) (hp0 : -9223372036854775808 ≤ first) (hs : second ≤ 9223372036854775807) :
    Calls Try.prog 7 #[.pointer (some ⟨mb, 0, none⟩), .int .i64 first, .int .i64 second, .int .i64 long] w fun e w' => WalkPost w w' e (walkF l first second long) := by
  by_cases h1 : long < 1 ∨ 2048 < long
  · exact walk_long mb hb l first second long w h1
  by_cases h2 : first % 4 = 0
  · obtain ⟨n, rfl⟩ := Int.eq_ofNat_of_zero_le (show 0 ≤ long by omega)
    by_cases h3 : first < 0
    · have ht : -64 < first.tmod 64 ∧ first.tmod 64 ≤ 0 := by
        have e1 := Int.neg_tmod (a := -first) (b := 64)
        rw [Int.neg_neg] at e1
        rw [e1, Int.tmod_eq_emod_of_nonneg (by omega)]
        omega
      obtain ⟨room, hr⟩ := Int.eq_ofNat_of_zero_le (show 0 ≤ (64 : Int) - first.tmod 64 by omega)
      exact walk_out mb hb l first second n room w hm (by omega) h2 hr (by omega) hp (fun c => by unfold fits at c; omega) (by unfold walkF; rw [if_neg h1, if_neg (by omega), if_pos h3])
    · obtain ⟨k, rfl⟩ := Int.eq_ofNat_of_zero_le (show 0 ≤ first by omega)
      have hfn : min (64 - k % 64) n = firstN k n := rfl
      by_cases h4 : k + min (64 - k % 64) n ≤ l.length
      · refine walk_in mb hb l k second n (64 - k % 64) w hm (by omega) (by omega) (by omega) (by omega) (by omega) hs h4 (by omega) ?_
        rw [hfn] at h4 ⊢
        unfold walkF
        rw [if_neg h1, if_neg (by omega), if_neg h3, Int.toNat_natCast, Int.toNat_natCast, if_neg (Decidable.not_not.2 (show fits l.length (k : Int) (firstN k n : Nat) from ⟨by omega, by omega, by omega⟩))]
      · refine walk_out mb hb l (k : Nat) second n (64 - k % 64) w hm (by omega) h2 ?_ (by omega) hp (fun c => h4 (by unfold fits at c; omega)) ?_
        · rw [Int.tmod_eq_emod_of_nonneg (by omega)]; omega
        · rw [hfn] at h4
          unfold walkF
          rw [if_neg h1, if_neg (by omega), if_neg h3, Int.toNat_natCast, Int.toNat_natCast, if_pos (fun c => h4 (by unfold fits at c; omega))]
  · exact walk_four mb hb l first second long w (by omega) h2
end Go.Proofs.Ytdkafcgangcgbaj

/-
  What the document's WalkOf gives: the same as Walk.
-/
import Derived.Test.YtdkafcgangcgbajDoorRNum
import Derived.Test.YtdkafcgangcgbajDoorWalk
namespace Go.Proofs.YtdkafcgangcgbajDoor
open Go.RowKit
set_option linter.unusedVariables false

/-- What WalkOf gives. -/
def RefPost (w w' : World) (e : Ending) (r : Nat × List Sg) : Prop :=
  Below w.heap.size w w' ∧ ((r.1 ≠ 0 ∧ e = .returned (.tuple #[.slice none 0 0, .int .i64 (r.1 : Nat)])) ∨ (r.1 = 0 ∧ ∃ a cap, e = .returned (.tuple #[.slice a r.2.length cap, .int .i64 0]) ∧ OwnS w' w.heap.size a cap r.2))
theorem RefPost.no {w w' : World} {r : Nat × List Sg} {n : Nat} (hn : n ≠ 0) (hb : Below w.heap.size w w') (hr : r.1 = n) : RefPost w w' (.returned (.tuple #[.slice none 0 0, .int .i64 (n : Nat)])) r := by
  subst hr
  exact ⟨hb, .inl ⟨hn, rfl⟩⟩
/-- While WalkOf goes along a list. -/
structure RI (w wr : World) (l : List Nat) (a : Option Addr) (cap : Nat) (acc0 acc : List Sg) (r : Nat × List Sg) (x left f : Nat) : Prop where
  bel : Below w.heap.size w wr
  own : OwnS wr w.heap.size a cap acc
  few : mu x left < f
  small : x ≤ 9223372036854775807
  m8 : x % 8 = 0
  len : acc.length + left ≤ 4096
  eq : ∃ R, acc = acc0 ++ R ∧ r = ((goF l f x left).1, acc0 ++ R ++ (goF l f x left).2)
theorem RI.bad {w wr w' : World} {l : List Nat} {a : Option Addr} {cap : Nat} {acc0 acc : List Sg} {r : Nat × List Sg} {x left f : Nat} (h : RI w wr l a cap acc0 acc r x left f) (hb' : Below wr.heap.size wr w') (n : Nat) (hn : n ≠ 0) (hg : (goF l f x left).1 = n) : RefPost w w' (.returned (.tuple #[.slice none 0 0, .int .i64 (n : Nat)])) r := by
  obtain ⟨R, _, e⟩ := h.eq
  refine RefPost.no hn (h.bel.trans (hb'.mono h.bel.size)) ?_
  rw [e]; exact hg
theorem RI.done {w wr : World} {l : List Nat} {a : Option Addr} {cap : Nat} {acc0 acc : List Sg} {r : Nat × List Sg} {x f : Nat} (h : RI w wr l a cap acc0 acc r x 0 f) : RefPost w wr (.returned (.tuple #[.slice a acc.length cap, .int .i64 0])) r := by
  obtain ⟨R, e1, e⟩ := h.eq
  cases f with
  | zero => have := h.few; omega
  | succ f =>
    rw [goF_done] at e
    have e2 : r = (0, acc) := by rw [e, e1]; simp
    subst e2
    exact ⟨h.bel, .inr ⟨rfl, a, cap, rfl, h.own⟩⟩
theorem RI.on {w wr : World} {l : List Nat} {a : Option Addr} {cap : Nat} {acc0 acc : List Sg} {r : Nat × List Sg} {x left f y : Nat} (h : RI w wr l a cap acc0 acc r x left f) (h0 : left ≠ 0) (hn : numE l (x : Int) = some y) (hy : y % 64 = 0) (ha : x % 64 = 56 ∧ 64 < left) : ∃ f', RI w wr l a cap acc0 acc r y left f' ∧ mu y left < mu x left := by
  have hm : mu y left < mu x left := by unfold mu; rw [if_pos ha.1, if_neg (by omega)]; omega
  obtain ⟨R, e1, e⟩ := h.eq
  cases f with
  | zero => have := h.few; omega
  | succ f =>
    rw [goF_on h0 hn hy ha] at e
    exact ⟨f, ⟨h.bel, h.own, by have := h.few; omega, by have := (numE_of hn).2.2; omega, by omega, h.len, R, e1, e⟩, hm⟩
theorem RI.seg {w wr w' : World} {l : List Nat} {a a' : Option Addr} {cap cap' : Nat} {acc0 acc : List Sg} {r : Nat × List Sg} {x left f y : Nat} (h : RI w wr l a cap acc0 acc r x left f) (h0 : left ≠ 0) (hn : numE l (x : Int) = some y) (hy : y % 64 = 0) (ha : ¬ (x % 64 = 56 ∧ 64 < left)) (ho : ¬ l.length < y + min 64 left) (hx : x + 8 ≤ 9223372036854775807) {n : Nat} (hn2 : n = min 64 left) (hk : Keep (blk a) wr w') (hs : OwnS w' w.heap.size a' cap' (acc ++ [⟨(y : Int), (n : Int)⟩])) : ∃ f', RI w w' l a' cap' acc0 (acc ++ [⟨(y : Int), (n : Int)⟩]) r (x + 8) (left - n) f' ∧ mu (x + 8) (left - n) < mu x left := by
  subst hn2
  have hm : mu (x + 8) (left - min 64 left) < mu x left := by unfold mu; split <;> split <;> omega
  obtain ⟨R, e1, e⟩ := h.eq
  cases f with
  | zero => have := h.few; omega
  | succ f =>
    rw [goF_seg h0 hn hy ha ho] at e
    refine ⟨f, ⟨h.bel.trans (hk.below h.bel.size (fun b hb => (h.own.blk hb).1)), hs, by have := h.few; omega, hx, by have := h.m8; omega, ?_, R ++ [⟨(y : Int), ((min 64 left : Nat) : Int)⟩], by rw [e1, List.append_assoc], by rw [e]; simp⟩, hm⟩
    have := h.len
    rw [List.length_append]; simp only [List.length_cons, List.length_nil]; omega
set_option maxRecDepth 100000 in
set_option maxHeartbeats 16000000 in
theorem rwalk_long (a : Option Addr) (cap : Nat) (l : List Nat) (first second long : Int) (w : World) (h : long < 1 ∨ 2048 < long) :
    Calls Tryd.prog 7 #[.slice a l.length cap, .int .i64 first, .int .i64 second, .int .i64 long] w fun e w' => RefPost w w' e (walkF l first second long) := by
  have HD : Hid (RefPost w w (.returned (.tuple #[.slice none 0 0, .int .i64 1])) (walkF l first second long)) := RefPost.no (n := 1) (by decide) (Below.refl _ _) (by unfold walkF; rw [if_pos h])
  generalize walkF l first second long = r at *
  rcases h with h | h
  · go_enter Tryd.func7, Tryd.ntmps7
    go_wp2
    go_ret2
    exact HD.out
  · have h0 : ¬ long < 1 := by omega
    go_enter Tryd.func7, Tryd.ntmps7
    go_wp2
    go_ret2
    exact HD.out
set_option maxRecDepth 100000 in
set_option maxHeartbeats 16000000 in
theorem rwalk_four (a : Option Addr) (cap : Nat) (l : List Nat) (first second long : Int) (w : World) (h : 1 ≤ long ∧ long ≤ 2048) (h4 : first % 4 ≠ 0) :
    Calls Tryd.prog 7 #[.slice a l.length cap, .int .i64 first, .int .i64 second, .int .i64 long] w fun e w' => RefPost w w' e (walkF l first second long) := by
  have HD : Hid (RefPost w w (.returned (.tuple #[.slice none 0 0, .int .i64 2])) (walkF l first second long)) := RefPost.no (n := 2) (by decide) (Below.refl _ _) (by unfold walkF; rw [if_neg (by omega), if_pos h4])
  have h1 : ¬ long < 1 := by omega
  have h2 : ¬ 2048 < long := by omega
  have ht : (first.tmod 4 != 0) = true := by
    rw [bne_iff_ne]
    exact fun c => h4 ((tmod_dvd first 4 (by decide)).1 c)
  clear h h4
  generalize walkF l first second long = r at *
  go_enter Tryd.func7, Tryd.ntmps7
  go_wp2
  go_ret2
  exact HD.out
set_option maxRecDepth 100000 in
set_option maxHeartbeats 16000000 in
theorem rwalk_neg (a : Option Addr) (cap : Nat) (l : List Nat) (first second long : Int) (w : World) (h : 1 ≤ long ∧ long ≤ 2048) (h4 : first % 4 = 0) (h5 : first < 0) :
    Calls Tryd.prog 7 #[.slice a l.length cap, .int .i64 first, .int .i64 second, .int .i64 long] w fun e w' => RefPost w w' e (walkF l first second long) := by
  have HD : Hid (RefPost w w (.returned (.tuple #[.slice none 0 0, .int .i64 1])) (walkF l first second long)) := RefPost.no (n := 1) (by decide) (Below.refl _ _) (by unfold walkF; rw [if_neg (by omega), if_neg (by omega), if_pos h5])
  have h1 : ¬ long < 1 := by omega
  have h2 : ¬ 2048 < long := by omega
  have ht : (first.tmod 4 != 0) = false := by
    rw [bne_eq_false_iff_eq]
    exact (tmod_dvd first 4 (by decide)).2 h4
  clear h h4
  generalize walkF l first second long = r at *
  go_enter Tryd.func7, Tryd.ntmps7
  go_wp2
  go_ret2
  exact HD.out
set_option maxRecDepth 100000 in
set_option maxHeartbeats 16000000 in
theorem rwalk_outA (a : Option Addr) (cap : Nat) (l : List Nat) (first : Nat) (second : Int) (long room : Nat) (w : World) (hL : l.length ≤ 16384) (h : 1 ≤ long ∧ long ≤ 2048) (h4 : first % 4 = 0) (hr : (64 : Int) - (first : Int) % 64 = (room : Int)) (hrm : room ≤ 64) (hp : first ≤ 9223372036854775807) (hc : long < room) (hf : ¬ first + long ≤ l.length) (hw : (walkF l first second (long : Int)).1 = 1) :
    Calls Tryd.prog 7 #[.slice a l.length cap, .int .i64 (first : Nat), .int .i64 second, .int .i64 (long : Nat)] w fun e w' => RefPost w w' e (walkF l (first : Nat) second (long : Nat)) := by
  have HD : Hid (RefPost w w (.returned (.tuple #[.slice none 0 0, .int .i64 1])) (walkF l first second (long : Int))) := RefPost.no (n := 1) (by decide) (Below.refl _ _) hw
  have h1 : ¬ (long : Int) < 1 := by omega
  have h2 : ¬ 2048 < (long : Int) := by omega
  have ht : (((first : Nat) : Int) % 4 != 0) = false := by
    rw [bne_eq_false_iff_eq]
    omega
  have h3 : ¬ ((first : Nat) : Int) < 0 := by omega
  have hL2 : (l.length : Int) ≤ 16384 := by omega
  have hc2 : (long : Int) < (room : Int) := by omega
  have HF : Hid (Calls Tryd.prog 10 #[.int .i64 (l.length : Nat), .int .i64 (first : Nat), .int .i64 (long : Nat)] w fun e w' => e = .returned (.bool false) ∧ w = w') := by
    have := rfits_any l.length (first : Nat) (long : Nat) w hL (by omega)
    rw [decide_eq_false (fun c => hf (by unfold fits at c; omega))] at this
    exact this
  clear h h4 hf hw hc
  generalize walkF l (first : Nat) second (long : Int) = r at *
  go_enter Tryd.func7, Tryd.ntmps7
  go_wp2_with fail
  refine HF.out.mono ?_
  rintro e w' ⟨rfl, rfl⟩
  clear HF
  go_wp2
  go_ret2
  exact HD.out
set_option maxRecDepth 100000 in
set_option maxHeartbeats 16000000 in
theorem rwalk_outB (a : Option Addr) (cap : Nat) (l : List Nat) (first : Nat) (second : Int) (long room : Nat) (w : World) (hL : l.length ≤ 16384) (h : 1 ≤ long ∧ long ≤ 2048) (h4 : first % 4 = 0) (hr : (64 : Int) - (first : Int) % 64 = (room : Int)) (hrm : room ≤ 64) (hp : first ≤ 9223372036854775807) (hc : room ≤ long) (hf : ¬ first + room ≤ l.length) (hw : (walkF l first second (long : Int)).1 = 1) :
    Calls Tryd.prog 7 #[.slice a l.length cap, .int .i64 (first : Nat), .int .i64 second, .int .i64 (long : Nat)] w fun e w' => RefPost w w' e (walkF l (first : Nat) second (long : Nat)) := by
  have HD : Hid (RefPost w w (.returned (.tuple #[.slice none 0 0, .int .i64 1])) (walkF l first second (long : Int))) := RefPost.no (n := 1) (by decide) (Below.refl _ _) hw
  have h1 : ¬ (long : Int) < 1 := by omega
  have h2 : ¬ 2048 < (long : Int) := by omega
  have ht : (((first : Nat) : Int) % 4 != 0) = false := by
    rw [bne_eq_false_iff_eq]
    omega
  have h3 : ¬ ((first : Nat) : Int) < 0 := by omega
  have hL2 : (l.length : Int) ≤ 16384 := by omega
  have hc2 : ¬ (long : Int) < (room : Int) := by omega
  have HF : Hid (Calls Tryd.prog 10 #[.int .i64 (l.length : Nat), .int .i64 (first : Nat), .int .i64 (room : Nat)] w fun e w' => e = .returned (.bool false) ∧ w = w') := by
    have := rfits_any l.length (first : Nat) (room : Nat) w hL (by omega)
    rw [decide_eq_false (fun c => hf (by unfold fits at c; omega))] at this
    exact this
  clear h h4 hf hw hc
  generalize walkF l (first : Nat) second (long : Int) = r at *
  go_enter Tryd.func7, Tryd.ntmps7
  go_wp2_with fail
  refine HF.out.mono ?_
  rintro e w' ⟨rfl, rfl⟩
  clear HF
  go_wp2
  go_ret2
  exact HD.out
set_option maxRecDepth 100000 in
set_option maxHeartbeats 16000000 in
theorem rwalk_oneA (a : Option Addr) (cap : Nat) (l : List Nat) (first : Nat) (second : Int) (long room : Nat) (w : World) (hL : l.length ≤ 16384) (h : 1 ≤ long ∧ long ≤ 2048) (h4 : first % 4 = 0) (hr : (64 : Int) - (first : Int) % 64 = (room : Int)) (hrm : room ≤ 64) (hp : first ≤ 9223372036854775807) (hc : long < room) (hf : first + long ≤ l.length) (hw : walkF l first second (long : Int) = (0, [⟨(first : Int), (long : Int)⟩])) :
    Calls Tryd.prog 7 #[.slice a l.length cap, .int .i64 (first : Nat), .int .i64 second, .int .i64 (long : Nat)] w fun e w' => RefPost w w' e (walkF l (first : Nat) second (long : Nat)) := by
  have h1 : ¬ (long : Int) < 1 := by omega
  have h2 : ¬ 2048 < (long : Int) := by omega
  have ht : (((first : Nat) : Int) % 4 != 0) = false := by
    rw [bne_eq_false_iff_eq]
    omega
  have h3 : ¬ ((first : Nat) : Int) < 0 := by omega
  have hL2 : (l.length : Int) ≤ 16384 := by omega
  have hc2 : (long : Int) < (room : Int) := by omega
  have HF : Hid (Calls Tryd.prog 10 #[.int .i64 (l.length : Nat), .int .i64 (first : Nat), .int .i64 (long : Nat)] w fun e w' => e = .returned (.bool true) ∧ w = w') := by
    have := rfits_any l.length (first : Nat) (long : Nat) w hL (by omega)
    rw [decide_eq_true (show fits l.length (first : Nat) (long : Nat) from ⟨by omega, by omega, by omega⟩)] at this
    exact this
  have HO : Hid (OwnS (w.alloc (.cells #[.int .i64 (first : Nat), .int .i64 (long : Nat)] 38)) w.heap.size (some ⟨w.heap.size, 0, none⟩) 1 [⟨(first : Int), (long : Int)⟩] ∧ Below w.heap.size w (w.alloc (.cells #[.int .i64 (first : Nat), .int .i64 (long : Nat)] 38))) := ⟨OwnS.new w w.heap.size (Nat.le_refl _) [⟨(first : Int), (long : Int)⟩] (by simp) _ rfl, alloc_below' w _⟩
  rw [hw]
  clear h h4 hf hw hc
  go_enter Tryd.func7, Tryd.ntmps7
  go_wp2_with fail
  refine HF.out.mono ?_
  rintro e w' ⟨rfl, rfl⟩
  clear HF
  go_wp2
  go_ret2
  exact ⟨HO.out.2, .inr ⟨rfl, _, _, rfl, HO.out.1⟩⟩
set_option maxRecDepth 100000 in
set_option maxHeartbeats 16000000 in
theorem rwalk_oneB (a : Option Addr) (cap : Nat) (l : List Nat) (first : Nat) (second : Int) (long room : Nat) (w : World) (hL : l.length ≤ 16384) (h : 1 ≤ long ∧ long ≤ 2048) (h4 : first % 4 = 0) (hr : (64 : Int) - (first : Int) % 64 = (room : Int)) (hrm : room ≤ 64) (hp : first ≤ 9223372036854775807) (hc : room = long) (hf : first + room ≤ l.length) (hw : walkF l first second (long : Int) = (0, [⟨(first : Int), (room : Int)⟩])) :
    Calls Tryd.prog 7 #[.slice a l.length cap, .int .i64 (first : Nat), .int .i64 second, .int .i64 (long : Nat)] w fun e w' => RefPost w w' e (walkF l (first : Nat) second (long : Nat)) := by
  have h1 : ¬ (long : Int) < 1 := by omega
  have h2 : ¬ 2048 < (long : Int) := by omega
  have ht : (((first : Nat) : Int) % 4 != 0) = false := by
    rw [bne_eq_false_iff_eq]
    omega
  have h3 : ¬ ((first : Nat) : Int) < 0 := by omega
  have hL2 : (l.length : Int) ≤ 16384 := by omega
  have hc2 : ¬ (long : Int) < (room : Int) := by omega
  have HF : Hid (Calls Tryd.prog 10 #[.int .i64 (l.length : Nat), .int .i64 (first : Nat), .int .i64 (room : Nat)] w fun e w' => e = .returned (.bool true) ∧ w = w') := by
    have := rfits_any l.length (first : Nat) (room : Nat) w hL (by omega)
    rw [decide_eq_true (show fits l.length (first : Nat) (room : Nat) from ⟨by omega, by omega, by omega⟩)] at this
    exact this
  have HO : Hid (OwnS (w.alloc (.cells #[.int .i64 (first : Nat), .int .i64 (room : Nat)] 38)) w.heap.size (some ⟨w.heap.size, 0, none⟩) 1 [⟨(first : Int), (room : Int)⟩] ∧ Below w.heap.size w (w.alloc (.cells #[.int .i64 (first : Nat), .int .i64 (room : Nat)] 38))) := ⟨OwnS.new w w.heap.size (Nat.le_refl _) [⟨(first : Int), (room : Int)⟩] (by simp) _ rfl, alloc_below' w _⟩
  rw [hw]
  clear h h4 hf hw
  subst hc
  go_enter Tryd.func7, Tryd.ntmps7
  go_wp2_with fail
  refine HF.out.mono ?_
  rintro e w' ⟨rfl, rfl⟩
  clear HF
  go_wp2
  go_ret2
  exact ⟨HO.out.2, .inr ⟨rfl, _, _, rfl, HO.out.1⟩⟩
set_option maxRecDepth 100000 in
set_option maxHeartbeats 16000000 in
theorem rwalk_twoP (a : Option Addr) (cap : Nat) (l : List Nat) (first : Nat) (second : Int) (long room : Nat) (w : World) (hL : l.length ≤ 16384) (h : 1 ≤ long ∧ long ≤ 2048) (h4 : first % 4 = 0) (hr : (64 : Int) - (first : Int) % 64 = (room : Int)) (hrm : room ≤ 64) (hp : first ≤ 9223372036854775807) (left : Nat) (hc : room + left = long) (hl0 : 0 < left) (hrp : 0 < room) (hf : first + room ≤ l.length) (hw : walkF l first second (long : Int) = ((restF l second left).1, ⟨(first : Int), (room : Int)⟩ :: (restF l second left).2)) (h64 : left ≤ 64) (hpg : ¬ pageA second) :
    Calls Tryd.prog 7 #[.slice a l.length cap, .int .i64 (first : Nat), .int .i64 second, .int .i64 (long : Nat)] w fun e w' => RefPost w w' e (walkF l (first : Nat) second (long : Nat)) := by
  have h1 : ¬ (long : Int) < 1 := by omega
  have h2 : ¬ 2048 < (long : Int) := by omega
  have ht : (((first : Nat) : Int) % 4 != 0) = false := by
    rw [bne_eq_false_iff_eq]
    omega
  have h3 : ¬ ((first : Nat) : Int) < 0 := by omega
  have hL2 : (l.length : Int) ≤ 16384 := by omega
  have hc2 : ¬ (long : Int) < (room : Int) := by omega
  have hc3 : (long : Int) - (room : Int) = (left : Int) := by omega
  have hc4 : ((left : Int) == 0) = false := by simp; omega
  have HF : Hid (Calls Tryd.prog 10 #[.int .i64 (l.length : Nat), .int .i64 (first : Nat), .int .i64 (room : Nat)] w fun e w' => e = .returned (.bool true) ∧ w = w') := by
    have := rfits_any l.length (first : Nat) (room : Nat) w hL (by omega)
    rw [decide_eq_true (show fits l.length (first : Nat) (room : Nat) from ⟨by omega, by omega, by omega⟩)] at this
    exact this
  have HO : Hid (OwnS (w.alloc (.cells #[.int .i64 (first : Nat), .int .i64 (room : Nat)] 38)) w.heap.size (some ⟨w.heap.size, 0, none⟩) 1 [⟨(first : Int), (room : Int)⟩] ∧ Below w.heap.size w (w.alloc (.cells #[.int .i64 (first : Nat), .int .i64 (room : Nat)] 38))) := ⟨OwnS.new w w.heap.size (Nat.le_refl _) [⟨(first : Int), (room : Int)⟩] (by simp) _ rfl, alloc_below' w _⟩
  have HP : Hid (Calls Tryd.prog 21 #[.int .i64 second] (w.alloc (.cells #[.int .i64 (first : Nat), .int .i64 (room : Nat)] 38)) fun e w' => e = .returned (.bool false) ∧ (w.alloc (.cells #[.int .i64 (first : Nat), .int .i64 (room : Nat)] 38)) = w') := by
    have := pageAt_any second (w.alloc (.cells #[.int .i64 (first : Nat), .int .i64 (room : Nat)] 38))
    rw [decide_eq_false hpg] at this
    exact this
  have HD : Hid (RefPost w (w.alloc (.cells #[.int .i64 (first : Nat), .int .i64 (room : Nat)] 38)) (.returned (.tuple #[.slice none 0 0, .int .i64 2])) (walkF l first second (long : Int))) := RefPost.no (n := 2) (by decide) HO.out.2 (by rw [hw]; show (restF l second left).1 = 2; unfold restF; rw [if_neg (by omega), if_pos h64, if_pos hpg])
  have h5 : (left : Int) ≤ 64 := by omega
  clear h h4 hf hw hc hpg h64
  generalize walkF l (first : Nat) second (long : Int) = r at *
  go_enter Tryd.func7, Tryd.ntmps7
  go_wp2_with fail
  refine HF.out.mono ?_
  rintro e w' ⟨rfl, rfl⟩
  clear HF
  go_wp2_with fail
  refine HP.out.mono ?_
  rintro e w' ⟨rfl, rfl⟩
  clear HP
  go_wp2
  go_ret2
  exact HD.out
set_option maxRecDepth 100000 in
set_option maxHeartbeats 16000000 in
theorem rwalk_twoO (a : Option Addr) (cap : Nat) (l : List Nat) (first : Nat) (second : Int) (long room : Nat) (w : World) (hL : l.length ≤ 16384) (h : 1 ≤ long ∧ long ≤ 2048) (h4 : first % 4 = 0) (hr : (64 : Int) - (first : Int) % 64 = (room : Int)) (hrm : room ≤ 64) (hp : first ≤ 9223372036854775807) (left : Nat) (hc : room + left = long) (hl0 : 0 < left) (hrp : 0 < room) (hf : first + room ≤ l.length) (hw : walkF l first second (long : Int) = ((restF l second left).1, ⟨(first : Int), (room : Int)⟩ :: (restF l second left).2)) (hs : -9223372036854775808 ≤ second ∧ second ≤ 9223372036854775807) (h64 : left ≤ 64) (hpg : pageA second) (hfi : ¬ fits l.length second (left : Nat)) :
    Calls Tryd.prog 7 #[.slice a l.length cap, .int .i64 (first : Nat), .int .i64 second, .int .i64 (long : Nat)] w fun e w' => RefPost w w' e (walkF l (first : Nat) second (long : Nat)) := by
  have h1 : ¬ (long : Int) < 1 := by omega
  have h2 : ¬ 2048 < (long : Int) := by omega
  have ht : (((first : Nat) : Int) % 4 != 0) = false := by
    rw [bne_eq_false_iff_eq]
    omega
  have h3 : ¬ ((first : Nat) : Int) < 0 := by omega
  have hL2 : (l.length : Int) ≤ 16384 := by omega
  have hc2 : ¬ (long : Int) < (room : Int) := by omega
  have hc3 : (long : Int) - (room : Int) = (left : Int) := by omega
  have hc4 : ((left : Int) == 0) = false := by simp; omega
  have HF : Hid (Calls Tryd.prog 10 #[.int .i64 (l.length : Nat), .int .i64 (first : Nat), .int .i64 (room : Nat)] w fun e w' => e = .returned (.bool true) ∧ w = w') := by
    have := rfits_any l.length (first : Nat) (room : Nat) w hL (by omega)
    rw [decide_eq_true (show fits l.length (first : Nat) (room : Nat) from ⟨by omega, by omega, by omega⟩)] at this
    exact this
  have HO : Hid (OwnS (w.alloc (.cells #[.int .i64 (first : Nat), .int .i64 (room : Nat)] 38)) w.heap.size (some ⟨w.heap.size, 0, none⟩) 1 [⟨(first : Int), (room : Int)⟩] ∧ Below w.heap.size w (w.alloc (.cells #[.int .i64 (first : Nat), .int .i64 (room : Nat)] 38))) := ⟨OwnS.new w w.heap.size (Nat.le_refl _) [⟨(first : Int), (room : Int)⟩] (by simp) _ rfl, alloc_below' w _⟩
  have HP : Hid (Calls Tryd.prog 21 #[.int .i64 second] (w.alloc (.cells #[.int .i64 (first : Nat), .int .i64 (room : Nat)] 38)) fun e w' => e = .returned (.bool true) ∧ (w.alloc (.cells #[.int .i64 (first : Nat), .int .i64 (room : Nat)] 38)) = w') := by
    have := pageAt_any second (w.alloc (.cells #[.int .i64 (first : Nat), .int .i64 (room : Nat)] 38))
    rw [decide_eq_true hpg] at this
    exact this
  have HF2 : Hid (Calls Tryd.prog 10 #[.int .i64 (l.length : Nat), .int .i64 second, .int .i64 (left : Nat)] (w.alloc (.cells #[.int .i64 (first : Nat), .int .i64 (room : Nat)] 38)) fun e w' => e = .returned (.bool false) ∧ (w.alloc (.cells #[.int .i64 (first : Nat), .int .i64 (room : Nat)] 38)) = w') := by
    have := rfits_any l.length second (left : Nat) (w.alloc (.cells #[.int .i64 (first : Nat), .int .i64 (room : Nat)] 38)) hL (by omega)
    rw [decide_eq_false hfi] at this
    exact this
  have HD : Hid (RefPost w (w.alloc (.cells #[.int .i64 (first : Nat), .int .i64 (room : Nat)] 38)) (.returned (.tuple #[.slice none 0 0, .int .i64 1])) (walkF l first second (long : Int))) := RefPost.no (n := 1) (by decide) HO.out.2 (by rw [hw]; show (restF l second left).1 = 1; unfold restF; rw [if_neg (by omega), if_pos h64, if_neg (Decidable.not_not.2 hpg), if_pos hfi])
  have h5 : (left : Int) ≤ 64 := by omega
  clear h h4 hf hw hc hpg h64 hfi
  generalize walkF l (first : Nat) second (long : Int) = r at *
  go_enter Tryd.func7, Tryd.ntmps7
  go_wp2_with fail
  refine HF.out.mono ?_
  rintro e w' ⟨rfl, rfl⟩
  clear HF
  go_wp2_with fail
  refine HP.out.mono ?_
  rintro e w' ⟨rfl, rfl⟩
  clear HP
  go_wp2_with fail
  refine HF2.out.mono ?_
  rintro e w' ⟨rfl, rfl⟩
  clear HF2
  go_wp2
  go_ret2
  exact HD.out
set_option maxRecDepth 100000 in
set_option maxHeartbeats 16000000 in
theorem rwalk_twoI (a : Option Addr) (cap : Nat) (l : List Nat) (first : Nat) (second : Int) (long room : Nat) (w : World) (hL : l.length ≤ 16384) (h : 1 ≤ long ∧ long ≤ 2048) (h4 : first % 4 = 0) (hr : (64 : Int) - (first : Int) % 64 = (room : Int)) (hrm : room ≤ 64) (hp : first ≤ 9223372036854775807) (left : Nat) (hc : room + left = long) (hl0 : 0 < left) (hrp : 0 < room) (hf : first + room ≤ l.length) (hw : walkF l first second (long : Int) = ((restF l second left).1, ⟨(first : Int), (room : Int)⟩ :: (restF l second left).2)) (hs : -9223372036854775808 ≤ second ∧ second ≤ 9223372036854775807) (h64 : left ≤ 64) (hpg : pageA second) (hfi : fits l.length second (left : Nat)) :
    Calls Tryd.prog 7 #[.slice a l.length cap, .int .i64 (first : Nat), .int .i64 second, .int .i64 (long : Nat)] w fun e w' => RefPost w w' e (walkF l (first : Nat) second (long : Nat)) := by
  have h1 : ¬ (long : Int) < 1 := by omega
  have h2 : ¬ 2048 < (long : Int) := by omega
  have ht : (((first : Nat) : Int) % 4 != 0) = false := by
    rw [bne_eq_false_iff_eq]
    omega
  have h3 : ¬ ((first : Nat) : Int) < 0 := by omega
  have hL2 : (l.length : Int) ≤ 16384 := by omega
  have hc2 : ¬ (long : Int) < (room : Int) := by omega
  have hc3 : (long : Int) - (room : Int) = (left : Int) := by omega
  have hc4 : ((left : Int) == 0) = false := by simp; omega
  have HF : Hid (Calls Tryd.prog 10 #[.int .i64 (l.length : Nat), .int .i64 (first : Nat), .int .i64 (room : Nat)] w fun e w' => e = .returned (.bool true) ∧ w = w') := by
    have := rfits_any l.length (first : Nat) (room : Nat) w hL (by omega)
    rw [decide_eq_true (show fits l.length (first : Nat) (room : Nat) from ⟨by omega, by omega, by omega⟩)] at this
    exact this
  have HO : Hid (OwnS (w.alloc (.cells #[.int .i64 (first : Nat), .int .i64 (room : Nat)] 38)) w.heap.size (some ⟨w.heap.size, 0, none⟩) 1 [⟨(first : Int), (room : Int)⟩] ∧ Below w.heap.size w (w.alloc (.cells #[.int .i64 (first : Nat), .int .i64 (room : Nat)] 38))) := ⟨OwnS.new w w.heap.size (Nat.le_refl _) [⟨(first : Int), (room : Int)⟩] (by simp) _ rfl, alloc_below' w _⟩
  have HP : Hid (∀ wz, Calls Tryd.prog 21 #[.int .i64 second] wz fun e w' => e = .returned (.bool true) ∧ wz = w') := fun wz => by
    have := pageAt_any second wz
    rw [decide_eq_true hpg] at this
    exact this
  have HF2 : Hid (∀ wz, Calls Tryd.prog 10 #[.int .i64 (l.length : Nat), .int .i64 second, .int .i64 (left : Nat)] wz fun e w' => e = .returned (.bool true) ∧ wz = w') := fun wz => by
    have := rfits_any l.length second (left : Nat) wz hL (by omega)
    rw [decide_eq_true hfi] at this
    exact this
  have HD : Hid (∀ w' a' cap' L, Below w.heap.size w w' → OwnS w' w.heap.size a' cap' L → L = [⟨(first : Int), (room : Int)⟩] ++ [⟨second, (left : Int)⟩] → RefPost w w' (.returned (.tuple #[.slice a' L.length cap', .int .i64 0])) (walkF l first second (long : Int))) := fun w' a' cap' L hb' ho hL' => by
    rw [hw]
    have er : restF l second left = (0, [⟨second, (left : Int)⟩]) := by unfold restF; rw [if_neg (by omega), if_pos h64, if_neg (Decidable.not_not.2 hpg), if_neg (Decidable.not_not.2 hfi)]
    rw [er]
    subst hL'
    exact ⟨hb', .inr ⟨rfl, a', cap', rfl, ho⟩⟩
  have h5 : (left : Int) ≤ 64 := by omega
  clear h h4 hf hw hc hpg h64 hfi
  generalize walkF l (first : Nat) second (long : Int) = r at *
  go_enter Tryd.func7, Tryd.ntmps7
  go_wp2_with fail
  refine HF.out.mono ?_
  rintro e w' ⟨rfl, rfl⟩
  clear HF
  go_upto_region 13 with fail
  go_cut [12] (fun v wx => ∃ (a1 : Option Addr) (c1 : Nat) (acc1 : List Sg), v = .slice a1 acc1.length c1 ∧ Hid (OwnS wx w.heap.size a1 c1 acc1 ∧ acc1 = [⟨(first : Int), (room : Int)⟩] ∧ Below w.heap.size w wx))
  case first =>
    go_wp2_with fail
    go_meet
    exact ⟨some ⟨w.heap.size, 0, none⟩, 1, [⟨(first : Int), (room : Int)⟩], rfl, HO.out.1, rfl, HO.out.2⟩
  case rest =>
  obtain ⟨wz, rfl⟩ : ∃ wz, wz = wc := ⟨_, rfl⟩
  obtain ⟨a1, c1, acc1, rfl, H1⟩ := hcut
  clear HO
  go_wp2_with fail
  refine (HP.out _).mono ?_
  rintro e w' ⟨rfl, rfl⟩
  clear HP
  go_wp2_with fail
  refine (HF2.out _).mono ?_
  rintro e w' ⟨rfl, rfl⟩
  clear HF2
  go_wp2_with (at_builtin; refine app_stepS rfl (.tmp 67) (.tmp 71) rfl wz w.heap.size c1 a1 acc1 ⟨second, (left : Int)⟩ (by rfl) (by rfl) H1.out.1 (by rw [H1.out.2.1]; simp) H1.out.2.2.size ?_)
  intro a3 c3 w3 hO hK
  have HE := HD.out w3 a3 c3 (acc1 ++ [⟨second, (left : Int)⟩]) (H1.out.2.2.trans (hK.below H1.out.2.2.size (fun b hb => (H1.out.1.blk hb).1))) hO (by rw [H1.out.2.1])
  rw [List.length_append] at HE
  clear hO hK H1 HD
  go_wp2
  go_ret2
  exact HE
set_option maxRecDepth 100000 in
set_option maxHeartbeats 16000000 in
theorem rwalk_badN (a : Option Addr) (cap : Nat) (l : List Nat) (first : Nat) (second : Int) (long room : Nat) (w : World) (hL : l.length ≤ 16384) (h : 1 ≤ long ∧ long ≤ 2048) (h4 : first % 4 = 0) (hr : (64 : Int) - (first : Int) % 64 = (room : Int)) (hrm : room ≤ 64) (hp : first ≤ 9223372036854775807) (left : Nat) (hc : room + left = long) (hl0 : 0 < left) (hrp : 0 < room) (hf : first + room ≤ l.length) (hw : walkF l first second (long : Int) = ((restF l second left).1, ⟨(first : Int), (room : Int)⟩ :: (restF l second left).2)) (h64 : ¬ left ≤ 64) (h8 : second < 0) :
    Calls Tryd.prog 7 #[.slice a l.length cap, .int .i64 (first : Nat), .int .i64 second, .int .i64 (long : Nat)] w fun e w' => RefPost w w' e (walkF l (first : Nat) second (long : Nat)) := by
  have h1 : ¬ (long : Int) < 1 := by omega
  have h2 : ¬ 2048 < (long : Int) := by omega
  have ht : (((first : Nat) : Int) % 4 != 0) = false := by
    rw [bne_eq_false_iff_eq]
    omega
  have h3 : ¬ ((first : Nat) : Int) < 0 := by omega
  have hL2 : (l.length : Int) ≤ 16384 := by omega
  have hc2 : ¬ (long : Int) < (room : Int) := by omega
  have hc3 : (long : Int) - (room : Int) = (left : Int) := by omega
  have hc4 : ((left : Int) == 0) = false := by simp; omega
  have HF : Hid (Calls Tryd.prog 10 #[.int .i64 (l.length : Nat), .int .i64 (first : Nat), .int .i64 (room : Nat)] w fun e w' => e = .returned (.bool true) ∧ w = w') := by
    have := rfits_any l.length (first : Nat) (room : Nat) w hL (by omega)
    rw [decide_eq_true (show fits l.length (first : Nat) (room : Nat) from ⟨by omega, by omega, by omega⟩)] at this
    exact this
  have HO : Hid (OwnS (w.alloc (.cells #[.int .i64 (first : Nat), .int .i64 (room : Nat)] 38)) w.heap.size (some ⟨w.heap.size, 0, none⟩) 1 [⟨(first : Int), (room : Int)⟩] ∧ Below w.heap.size w (w.alloc (.cells #[.int .i64 (first : Nat), .int .i64 (room : Nat)] 38))) := ⟨OwnS.new w w.heap.size (Nat.le_refl _) [⟨(first : Int), (room : Int)⟩] (by simp) _ rfl, alloc_below' w _⟩
  have HD : Hid (RefPost w (w.alloc (.cells #[.int .i64 (first : Nat), .int .i64 (room : Nat)] 38)) (.returned (.tuple #[.slice none 0 0, .int .i64 2])) (walkF l first second (long : Int))) := RefPost.no (n := 2) (by decide) HO.out.2 (by rw [hw]; show (restF l second left).1 = 2; unfold restF; rw [if_neg (by omega), if_neg h64, if_pos (Or.inl h8)])
  have h5 : ¬ (left : Int) ≤ 64 := by omega
  clear h h4 hf hw hc h64
  generalize walkF l (first : Nat) second (long : Int) = r at *
  go_enter Tryd.func7, Tryd.ntmps7
  go_wp2_with fail
  refine HF.out.mono ?_
  rintro e w' ⟨rfl, rfl⟩
  clear HF
  go_wp2
  go_ret2
  exact HD.out
set_option maxRecDepth 100000 in
set_option maxHeartbeats 16000000 in
theorem rwalk_badM (a : Option Addr) (cap : Nat) (l : List Nat) (k : Nat) (first : Nat) (second : Int) (long room : Nat) (w : World) (hL : l.length ≤ 16384) (h : 1 ≤ long ∧ long ≤ 2048) (h4 : first % 4 = 0) (hr : (64 : Int) - (first : Int) % 64 = (room : Int)) (hrm : room ≤ 64) (hp : first ≤ 9223372036854775807) (left : Nat) (hc : room + left = long) (hl0 : 0 < left) (hrp : 0 < room) (hf : first + room ≤ l.length) (hw : walkF l first second (long : Int) = ((restF l second left).1, ⟨(first : Int), (room : Int)⟩ :: (restF l second left).2)) (h64 : ¬ left ≤ 64) (hk : second = (k : Nat)) (h8 : ¬ k % 8 = 0) :
    Calls Tryd.prog 7 #[.slice a l.length cap, .int .i64 (first : Nat), .int .i64 second, .int .i64 (long : Nat)] w fun e w' => RefPost w w' e (walkF l (first : Nat) second (long : Nat)) := by
  have h1 : ¬ (long : Int) < 1 := by omega
  have h2 : ¬ 2048 < (long : Int) := by omega
  have ht : (((first : Nat) : Int) % 4 != 0) = false := by
    rw [bne_eq_false_iff_eq]
    omega
  have h3 : ¬ ((first : Nat) : Int) < 0 := by omega
  have hL2 : (l.length : Int) ≤ 16384 := by omega
  have hc2 : ¬ (long : Int) < (room : Int) := by omega
  have hc3 : (long : Int) - (room : Int) = (left : Int) := by omega
  have hc4 : ((left : Int) == 0) = false := by simp; omega
  have HF : Hid (Calls Tryd.prog 10 #[.int .i64 (l.length : Nat), .int .i64 (first : Nat), .int .i64 (room : Nat)] w fun e w' => e = .returned (.bool true) ∧ w = w') := by
    have := rfits_any l.length (first : Nat) (room : Nat) w hL (by omega)
    rw [decide_eq_true (show fits l.length (first : Nat) (room : Nat) from ⟨by omega, by omega, by omega⟩)] at this
    exact this
  have HO : Hid (OwnS (w.alloc (.cells #[.int .i64 (first : Nat), .int .i64 (room : Nat)] 38)) w.heap.size (some ⟨w.heap.size, 0, none⟩) 1 [⟨(first : Int), (room : Int)⟩] ∧ Below w.heap.size w (w.alloc (.cells #[.int .i64 (first : Nat), .int .i64 (room : Nat)] 38))) := ⟨OwnS.new w w.heap.size (Nat.le_refl _) [⟨(first : Int), (room : Int)⟩] (by simp) _ rfl, alloc_below' w _⟩
  have HD : Hid (RefPost w (w.alloc (.cells #[.int .i64 (first : Nat), .int .i64 (room : Nat)] 38)) (.returned (.tuple #[.slice none 0 0, .int .i64 2])) (walkF l first second (long : Int))) := RefPost.no (n := 2) (by decide) HO.out.2 (by rw [hw]; show (restF l second left).1 = 2; unfold restF; rw [if_neg (by omega), if_neg h64, if_pos (Or.inr (by omega))])
  have h5 : ¬ (left : Int) ≤ 64 := by omega
  subst hk
  have h9 : (((k : Nat) : Int) % 8 != 0) = true := by rw [bne_iff_ne]; omega
  have h10 : ¬ ((k : Nat) : Int) < 0 := by omega
  clear h h4 hf hw hc h64 h8
  generalize walkF l (first : Nat) (k : Nat) (long : Int) = r at *
  go_enter Tryd.func7, Tryd.ntmps7
  go_wp2_with fail
  refine HF.out.mono ?_
  rintro e w' ⟨rfl, rfl⟩
  clear HF
  go_wp2
  go_ret2
  exact HD.out
set_option maxRecDepth 100000 in
set_option maxHeartbeats 16000000 in
theorem rwalk_list (a : Option Addr) (cap : Nat) (l : List Nat) (k : Nat) (first : Nat) (second : Int) (long room : Nat) (w : World) (hI : BIn w a cap l) (hL : l.length ≤ 16384) (h : 1 ≤ long ∧ long ≤ 2048) (h4 : first % 4 = 0) (hr : (64 : Int) - (first : Int) % 64 = (room : Int)) (hrm : room ≤ 64) (hp : first ≤ 9223372036854775807) (left : Nat) (hc : room + left = long) (hl0 : 0 < left) (hrp : 0 < room) (hf : first + room ≤ l.length) (hw : walkF l first second (long : Int) = ((restF l second left).1, ⟨(first : Int), (room : Int)⟩ :: (restF l second left).2)) (hsb : k ≤ 9223372036854775807) (h64 : ¬ left ≤ 64) (hk : second = (k : Nat)) (h8 : k % 8 = 0) :
    Calls Tryd.prog 7 #[.slice a l.length cap, .int .i64 (first : Nat), .int .i64 second, .int .i64 (long : Nat)] w fun e w' => RefPost w w' e (walkF l (first : Nat) second (long : Nat)) := by
  have h1 : ¬ (long : Int) < 1 := by omega
  have h2 : ¬ 2048 < (long : Int) := by omega
  have ht : (((first : Nat) : Int) % 4 != 0) = false := by
    rw [bne_eq_false_iff_eq]
    omega
  have h3 : ¬ ((first : Nat) : Int) < 0 := by omega
  have hL2 : (l.length : Int) ≤ 16384 := by omega
  have hc2 : ¬ (long : Int) < (room : Int) := by omega
  have hc3 : (long : Int) - (room : Int) = (left : Int) := by omega
  have hc4 : ((left : Int) == 0) = false := by simp; omega
  have HF : Hid (Calls Tryd.prog 10 #[.int .i64 (l.length : Nat), .int .i64 (first : Nat), .int .i64 (room : Nat)] w fun e w' => e = .returned (.bool true) ∧ w = w') := by
    have := rfits_any l.length (first : Nat) (room : Nat) w hL (by omega)
    rw [decide_eq_true (show fits l.length (first : Nat) (room : Nat) from ⟨by omega, by omega, by omega⟩)] at this
    exact this
  have HO : Hid (OwnS (w.alloc (.cells #[.int .i64 (first : Nat), .int .i64 (room : Nat)] 38)) w.heap.size (some ⟨w.heap.size, 0, none⟩) 1 [⟨(first : Int), (room : Int)⟩] ∧ Below w.heap.size w (w.alloc (.cells #[.int .i64 (first : Nat), .int .i64 (room : Nat)] 38))) := ⟨OwnS.new w w.heap.size (Nat.le_refl _) [⟨(first : Int), (room : Int)⟩] (by simp) _ rfl, alloc_below' w _⟩
  have H0 : Hid (RI w (w.alloc (.cells #[.int .i64 (first : Nat), .int .i64 (room : Nat)] 38)) l (some ⟨w.heap.size, 0, none⟩) 1 [⟨(first : Int), (room : Int)⟩] [⟨(first : Int), (room : Int)⟩] (walkF l first second (long : Int)) k left 5000) := by
    refine ⟨HO.out.2, HO.out.1, by unfold mu; split <;> omega, hsb, h8, by simp; omega, [], by simp, ?_⟩
    rw [hw]
    have er : restF l second left = goF l 5000 k left := by unfold restF; rw [if_neg (by omega), if_neg h64, hk, if_neg (by omega), Int.toNat_natCast]
    rw [er]
    simp
  have HIn : Hid (∀ wr, Below w.heap.size w wr → BIn wr a cap l) := fun wr hb => hI.below hb
  have HL : Hid (l.length ≤ 16384) := hL
  have h5 : ¬ (left : Int) ≤ 64 := by omega
  subst hk
  have h9 : (((k : Nat) : Int) % 8 != 0) = false := by rw [bne_eq_false_iff_eq]; omega
  have h10 : ¬ ((k : Nat) : Int) < 0 := by omega
  clear h h4 hf hw hc h64 h8 hI
  generalize walkF l (first : Nat) (k : Nat) (long : Int) = r at *
  obtain ⟨acc0, H0'⟩ : ∃ acc0, RI w (w.alloc (.cells #[.int .i64 (first : Nat), .int .i64 (room : Nat)] 38)) l (some ⟨w.heap.size, 0, none⟩) 1 acc0 [⟨(first : Int), (room : Int)⟩] r k left 5000 := ⟨_, H0.out⟩
  have H1 : Hid (RI w (w.alloc (.cells #[.int .i64 (first : Nat), .int .i64 (room : Nat)] 38)) l (some ⟨w.heap.size, 0, none⟩) 1 acc0 [⟨(first : Int), (room : Int)⟩] r k left 5000) := H0'
  clear H0 H0'
  go_enter Tryd.func7, Tryd.ntmps7
  go_wp2_with fail
  refine HF.out.mono ?_
  rintro e w' ⟨rfl, rfl⟩
  clear HF
  go_wp2
  go_loopw [12, 13, 14] (fun o v x wr => ∃ (a1 : Option Addr) (c1 : Nat) (acc : List Sg) (z lf f : Nat), o = .slice a1 acc.length c1 ∧ v = .int .i64 (lf : Nat) ∧ x = .int .i64 (z : Nat) ∧ lf ≤ 4096 ∧ Hid (RI w wr l a1 c1 acc0 acc r z lf f)) (fun _ v x _ => mu (intOf x).toNat (intOf v).toNat)
  case atStart => exact ⟨some ⟨w.heap.size, 0, none⟩, 1, [⟨(first : Int), (room : Int)⟩], k, left, 5000, rfl, rfl, rfl, by omega, H1.out⟩
  case round =>
    obtain ⟨a1, c1, acc, z, lf, f, rfl, rfl, rfl, hlf, hR⟩ := hrel
    clear H1 HO
    by_cases hl0 : lf = 0
    · subst hl0
      have HD := hR.out.done
      clear hR
      go_wp2
      go_ret2
      exact HD
    · have hlp : (0 : Int) < (lf : Int) := by omega
      have hsm := hR.out.small
      have hz8 := hR.out.m8
      have HL0 : Hid (¬ lf = 0) := hl0
      have HB := HIn.out wr hR.out.bel
      clear hl0
      cases hn : numE l (z : Int) with
      | none =>
        have HN := rnumber_none a cap l z wr HB HL.out hsm hn
        have HD := hR.out.bad (Below.refl _ wr) 1 (by decide) (by cases f with
          | zero => have := hR.out.few; omega
          | succ f => rw [goF_none HL0.out hn])
        clear hR hn HB HIn HL
        go_wp2_with fail
        refine HN.mono ?_
        rintro e w' ⟨rfl, rfl⟩
        clear HN
        go_wp2
        go_ret2
        exact HD
      | some y =>
        have HN := rnumber_some a cap l z y wr HB HL.out hn
        have HPa := pageAt_any (y : Nat) wr
        obtain ⟨hx1, hx2, hx3⟩ := numE_of hn
        have HY : Hid (numE l (z : Int) = some y) := hn
        have hx8 : z + 8 ≤ 16384 := by omega
        clear hx2 hx1 hn HB
        by_cases hy : y % 64 = 0
        · rw [decide_eq_true (by omega)] at HPa
          by_cases ha : z % 64 = 56 ∧ 64 < lf
          · obtain ⟨f', hL', hm⟩ := hR.out.on HL0.out HY.out hy ha
            have HD : Hid (RI w wr l a1 c1 acc0 acc r y lf f' ∧ mu y lf < mu z lf) := ⟨hL', hm⟩
            have hs1 : (((64 : Int) - (z : Int) % 64) / 8 == 1) = true := by rw [beq_iff_eq]; omega
            have hn1 : (1 : Int) < ((lf : Int) + 63) / 64 := by omega
            clear hL' hm hR hy ha HY HL0 HIn HL
            go_wp2_with fail
            refine HN.mono ?_
            rintro e w' ⟨rfl, rfl⟩
            go_wp2_with fail
            refine HPa.mono ?_
            rintro e w' ⟨rfl, rfl⟩
            clear HN HPa
            go_wp2
            go_roundw
            case rel => exact ⟨a1, c1, acc, y, lf, f', rfl, rfl, rfl, hlf, HD.out.1⟩
            case measure => simpa [intOf] using HD.out.2
          · have HG : Hid (¬ (z % 64 = 56 ∧ 64 < lf)) := ha
            by_cases ho : l.length < y + min 64 lf
            · by_cases hq : lf < 64
              · have hmin : min 64 lf = lf := Nat.min_eq_right (by omega)
                rw [hmin] at ho
                have HF : Hid (Calls Tryd.prog 10 #[.int .i64 (l.length : Nat), .int .i64 (y : Nat), .int .i64 (lf : Nat)] wr fun e w' => e = .returned (.bool false) ∧ wr = w') := by
                  have := rfits_any l.length (y : Nat) (lf : Nat) wr HL.out (by omega)
                  rw [decide_eq_false (fun c => by unfold fits at c; omega)] at this
                  exact this
                have HD : Hid (RefPost w wr (.returned (.tuple #[.slice none 0 0, .int .i64 1])) r) := hR.out.bad (Below.refl _ wr) 1 (by decide) (by cases f with
                  | zero => have := hR.out.few; omega
                  | succ f => rw [goF_out HL0.out HY.out hy HG.out (by rw [hmin]; exact ho)])
                have hq2 : (lf : Int) < 64 := by omega
                by_cases hx : z % 64 = 56
                · have hs1 : (((64 : Int) - (z : Int) % 64) / 8 == 1) = true := by rw [beq_iff_eq]; omega
                  have hn1 : ¬ (1 : Int) < ((lf : Int) + 63) / 64 := by have := HG.out; omega
                  clear hR HG ho hy HY HL0 HIn HL hmin hx
                  go_wp2_with fail
                  refine HN.mono ?_
                  rintro e w' ⟨rfl, rfl⟩
                  go_wp2_with fail
                  refine HPa.mono ?_
                  rintro e w' ⟨rfl, rfl⟩
                  clear HN HPa
                  go_wp2_with fail
                  refine HF.out.mono ?_
                  rintro e w' ⟨rfl, rfl⟩
                  clear HF
                  go_wp2
                  go_ret2
                  exact HD.out
                · have hs1 : (((64 : Int) - (z : Int) % 64) / 8 == 1) = false := by rw [beq_eq_false_iff_ne]; omega
                  clear hR HG ho hy HY HL0 HIn HL hmin hx
                  go_wp2_with fail
                  refine HN.mono ?_
                  rintro e w' ⟨rfl, rfl⟩
                  go_wp2_with fail
                  refine HPa.mono ?_
                  rintro e w' ⟨rfl, rfl⟩
                  clear HN HPa
                  go_wp2_with fail
                  refine HF.out.mono ?_
                  rintro e w' ⟨rfl, rfl⟩
                  clear HF
                  go_wp2
                  go_ret2
                  exact HD.out
              · have hmin : min 64 lf = 64 := Nat.min_eq_left (by omega)
                rw [hmin] at ho
                have HF : Hid (Calls Tryd.prog 10 #[.int .i64 (l.length : Nat), .int .i64 (y : Nat), .int .i64 64] wr fun e w' => e = .returned (.bool false) ∧ wr = w') := by
                  have := rfits_any l.length (y : Nat) 64 wr HL.out (by omega)
                  rw [decide_eq_false (fun c => by unfold fits at c; omega)] at this
                  exact this
                have HD : Hid (RefPost w wr (.returned (.tuple #[.slice none 0 0, .int .i64 1])) r) := hR.out.bad (Below.refl _ wr) 1 (by decide) (by cases f with
                  | zero => have := hR.out.few; omega
                  | succ f => rw [goF_out HL0.out HY.out hy HG.out (by rw [hmin]; exact ho)])
                have hq2 : ¬ (lf : Int) < 64 := by omega
                by_cases hx : z % 64 = 56
                · have hs1 : (((64 : Int) - (z : Int) % 64) / 8 == 1) = true := by rw [beq_iff_eq]; omega
                  have hn1 : ¬ (1 : Int) < ((lf : Int) + 63) / 64 := by have := HG.out; omega
                  clear hR HG ho hy HY HL0 HIn HL hmin hx
                  go_wp2_with fail
                  refine HN.mono ?_
                  rintro e w' ⟨rfl, rfl⟩
                  go_wp2_with fail
                  refine HPa.mono ?_
                  rintro e w' ⟨rfl, rfl⟩
                  clear HN HPa
                  go_wp2_with fail
                  refine HF.out.mono ?_
                  rintro e w' ⟨rfl, rfl⟩
                  clear HF
                  go_wp2
                  go_ret2
                  exact HD.out
                · have hs1 : (((64 : Int) - (z : Int) % 64) / 8 == 1) = false := by rw [beq_eq_false_iff_ne]; omega
                  clear hR HG ho hy HY HL0 HIn HL hmin hx
                  go_wp2_with fail
                  refine HN.mono ?_
                  rintro e w' ⟨rfl, rfl⟩
                  go_wp2_with fail
                  refine HPa.mono ?_
                  rintro e w' ⟨rfl, rfl⟩
                  clear HN HPa
                  go_wp2_with fail
                  refine HF.out.mono ?_
                  rintro e w' ⟨rfl, rfl⟩
                  clear HF
                  go_wp2
                  go_ret2
                  exact HD.out
            · by_cases hq : lf < 64
              · have hmin : min 64 lf = lf := Nat.min_eq_right (by omega)
                rw [hmin] at ho
                have HF : Hid (Calls Tryd.prog 10 #[.int .i64 (l.length : Nat), .int .i64 (y : Nat), .int .i64 (lf : Nat)] wr fun e w' => e = .returned (.bool true) ∧ wr = w') := by
                  have := rfits_any l.length (y : Nat) (lf : Nat) wr HL.out (by omega)
                  rw [decide_eq_true (show fits l.length (y : Nat) (lf : Nat) from ⟨by omega, by omega, by omega⟩)] at this
                  exact this
                have HD : Hid (∀ w' a' cap', Keep (blk a1) wr w' → OwnS w' w.heap.size a' cap' (acc ++ [⟨(y : Int), (lf : Nat)⟩]) → ∃ f', RI w w' l a' cap' acc0 (acc ++ [⟨(y : Int), (lf : Nat)⟩]) r (z + 8) (lf - lf) f' ∧ mu (z + 8) (lf - lf) < mu z lf) := fun w' a' cap' hk' ho' => hR.out.seg HL0.out HY.out hy HG.out (by rw [hmin]; exact ho) (by omega) hmin.symm hk' ho'
                have HOw : Hid (OwnS wr w.heap.size a1 c1 acc ∧ w.heap.size ≤ wr.heap.size ∧ acc.length + lf ≤ 4096) := ⟨hR.out.own, hR.out.bel.size, hR.out.len⟩
                have hq2 : (lf : Int) < 64 := by omega
                by_cases hx : z % 64 = 56
                · have hs1 : (((64 : Int) - (z : Int) % 64) / 8 == 1) = true := by rw [beq_iff_eq]; omega
                  have hn1 : ¬ (1 : Int) < ((lf : Int) + 63) / 64 := by have := HG.out; omega
                  clear hR HG ho hy HY HL0 HIn HL hmin hx
                  go_wp2_with fail
                  refine HN.mono ?_
                  rintro e w' ⟨rfl, rfl⟩
                  go_wp2_with fail
                  refine HPa.mono ?_
                  rintro e w' ⟨rfl, rfl⟩
                  clear HN HPa
                  go_wp2_with fail
                  refine HF.out.mono ?_
                  rintro e w' ⟨rfl, rfl⟩
                  clear HF
                  go_wp2_with (at_builtin; refine app_stepS rfl (.tmp 121) (.tmp 125) rfl wr w.heap.size c1 a1 acc ⟨(y : Int), (lf : Nat)⟩ (by rfl) (by rfl) HOw.out.1 (by have := HOw.out.2.2; omega) HOw.out.2.1 ?_)
                  intro a3 c3 w3 hO hK
                  obtain ⟨f', hL', hm⟩ := HD.out w3 a3 c3 hK hO
                  have HE : Hid (RI w w3 l a3 c3 acc0 (acc ++ [⟨(y : Int), (lf : Nat)⟩]) r (z + 8) (lf - lf) f' ∧ mu (z + 8) (lf - lf) < mu z lf) := ⟨hL', hm⟩
                  clear hO hK HD HOw hL' hm
                  go_wp2
                  go_roundw
                  case rel => exact ⟨a3, c3, acc ++ [(⟨(y : Int), ((lf : Nat) : Int)⟩ : Sg)], z + 8, lf - lf, f', by simp, by go_num, by go_num, by omega, HE.out.1⟩
                  case measure =>
                    have e1 : ((z : Int) + 8).toNat = z + 8 := by omega
                    have e2 : ((lf : Int) - 64).toNat = lf - 64 := by omega
                    simpa [intOf, e1, e2] using HE.out.2
                · have hs1 : (((64 : Int) - (z : Int) % 64) / 8 == 1) = false := by rw [beq_eq_false_iff_ne]; omega
                  clear hR HG ho hy HY HL0 HIn HL hmin hx
                  go_wp2_with fail
                  refine HN.mono ?_
                  rintro e w' ⟨rfl, rfl⟩
                  go_wp2_with fail
                  refine HPa.mono ?_
                  rintro e w' ⟨rfl, rfl⟩
                  clear HN HPa
                  go_wp2_with fail
                  refine HF.out.mono ?_
                  rintro e w' ⟨rfl, rfl⟩
                  clear HF
                  go_wp2_with (at_builtin; refine app_stepS rfl (.tmp 121) (.tmp 125) rfl wr w.heap.size c1 a1 acc ⟨(y : Int), (lf : Nat)⟩ (by rfl) (by rfl) HOw.out.1 (by have := HOw.out.2.2; omega) HOw.out.2.1 ?_)
                  intro a3 c3 w3 hO hK
                  obtain ⟨f', hL', hm⟩ := HD.out w3 a3 c3 hK hO
                  have HE : Hid (RI w w3 l a3 c3 acc0 (acc ++ [⟨(y : Int), (lf : Nat)⟩]) r (z + 8) (lf - lf) f' ∧ mu (z + 8) (lf - lf) < mu z lf) := ⟨hL', hm⟩
                  clear hO hK HD HOw hL' hm
                  go_wp2
                  go_roundw
                  case rel => exact ⟨a3, c3, acc ++ [(⟨(y : Int), ((lf : Nat) : Int)⟩ : Sg)], z + 8, lf - lf, f', by simp, by go_num, by go_num, by omega, HE.out.1⟩
                  case measure =>
                    have e1 : ((z : Int) + 8).toNat = z + 8 := by omega
                    have e2 : ((lf : Int) - 64).toNat = lf - 64 := by omega
                    simpa [intOf, e1, e2] using HE.out.2
              · have hmin : min 64 lf = 64 := Nat.min_eq_left (by omega)
                rw [hmin] at ho
                have HF : Hid (Calls Tryd.prog 10 #[.int .i64 (l.length : Nat), .int .i64 (y : Nat), .int .i64 64] wr fun e w' => e = .returned (.bool true) ∧ wr = w') := by
                  have := rfits_any l.length (y : Nat) 64 wr HL.out (by omega)
                  rw [decide_eq_true (show fits l.length (y : Nat) 64 from ⟨by omega, by omega, by omega⟩)] at this
                  exact this
                have HD : Hid (∀ w' a' cap', Keep (blk a1) wr w' → OwnS w' w.heap.size a' cap' (acc ++ [⟨(y : Int), (64 : Nat)⟩]) → ∃ f', RI w w' l a' cap' acc0 (acc ++ [⟨(y : Int), (64 : Nat)⟩]) r (z + 8) (lf - 64) f' ∧ mu (z + 8) (lf - 64) < mu z lf) := fun w' a' cap' hk' ho' => hR.out.seg HL0.out HY.out hy HG.out (by rw [hmin]; exact ho) (by omega) hmin.symm hk' ho'
                have HOw : Hid (OwnS wr w.heap.size a1 c1 acc ∧ w.heap.size ≤ wr.heap.size ∧ acc.length + lf ≤ 4096) := ⟨hR.out.own, hR.out.bel.size, hR.out.len⟩
                have hq2 : ¬ (lf : Int) < 64 := by omega
                by_cases hx : z % 64 = 56
                · have hs1 : (((64 : Int) - (z : Int) % 64) / 8 == 1) = true := by rw [beq_iff_eq]; omega
                  have hn1 : ¬ (1 : Int) < ((lf : Int) + 63) / 64 := by have := HG.out; omega
                  clear hR HG ho hy HY HL0 HIn HL hmin hx
                  go_wp2_with fail
                  refine HN.mono ?_
                  rintro e w' ⟨rfl, rfl⟩
                  go_wp2_with fail
                  refine HPa.mono ?_
                  rintro e w' ⟨rfl, rfl⟩
                  clear HN HPa
                  go_wp2_with fail
                  refine HF.out.mono ?_
                  rintro e w' ⟨rfl, rfl⟩
                  clear HF
                  go_wp2_with (at_builtin; refine app_stepS rfl (.tmp 121) (.tmp 125) rfl wr w.heap.size c1 a1 acc ⟨(y : Int), (64 : Nat)⟩ (by rfl) (by rfl) HOw.out.1 (by have := HOw.out.2.2; omega) HOw.out.2.1 ?_)
                  intro a3 c3 w3 hO hK
                  obtain ⟨f', hL', hm⟩ := HD.out w3 a3 c3 hK hO
                  have HE : Hid (RI w w3 l a3 c3 acc0 (acc ++ [⟨(y : Int), (64 : Nat)⟩]) r (z + 8) (lf - 64) f' ∧ mu (z + 8) (lf - 64) < mu z lf) := ⟨hL', hm⟩
                  clear hO hK HD HOw hL' hm
                  go_wp2
                  go_roundw
                  case rel => exact ⟨a3, c3, acc ++ [(⟨(y : Int), ((64 : Nat) : Int)⟩ : Sg)], z + 8, lf - 64, f', by simp, by go_num, by go_num, by omega, HE.out.1⟩
                  case measure =>
                    have e1 : ((z : Int) + 8).toNat = z + 8 := by omega
                    have e2 : ((lf : Int) - 64).toNat = lf - 64 := by omega
                    simpa [intOf, e1, e2] using HE.out.2
                · have hs1 : (((64 : Int) - (z : Int) % 64) / 8 == 1) = false := by rw [beq_eq_false_iff_ne]; omega
                  clear hR HG ho hy HY HL0 HIn HL hmin hx
                  go_wp2_with fail
                  refine HN.mono ?_
                  rintro e w' ⟨rfl, rfl⟩
                  go_wp2_with fail
                  refine HPa.mono ?_
                  rintro e w' ⟨rfl, rfl⟩
                  clear HN HPa
                  go_wp2_with fail
                  refine HF.out.mono ?_
                  rintro e w' ⟨rfl, rfl⟩
                  clear HF
                  go_wp2_with (at_builtin; refine app_stepS rfl (.tmp 121) (.tmp 125) rfl wr w.heap.size c1 a1 acc ⟨(y : Int), (64 : Nat)⟩ (by rfl) (by rfl) HOw.out.1 (by have := HOw.out.2.2; omega) HOw.out.2.1 ?_)
                  intro a3 c3 w3 hO hK
                  obtain ⟨f', hL', hm⟩ := HD.out w3 a3 c3 hK hO
                  have HE : Hid (RI w w3 l a3 c3 acc0 (acc ++ [⟨(y : Int), (64 : Nat)⟩]) r (z + 8) (lf - 64) f' ∧ mu (z + 8) (lf - 64) < mu z lf) := ⟨hL', hm⟩
                  clear hO hK HD HOw hL' hm
                  go_wp2
                  go_roundw
                  case rel => exact ⟨a3, c3, acc ++ [(⟨(y : Int), ((64 : Nat) : Int)⟩ : Sg)], z + 8, lf - 64, f', by simp, by go_num, by go_num, by omega, HE.out.1⟩
                  case measure =>
                    have e1 : ((z : Int) + 8).toNat = z + 8 := by omega
                    have e2 : ((lf : Int) - 64).toNat = lf - 64 := by omega
                    simpa [intOf, e1, e2] using HE.out.2
        · rw [decide_eq_false (by omega)] at HPa
          have HD : Hid (RefPost w wr (.returned (.tuple #[.slice none 0 0, .int .i64 2])) r) := hR.out.bad (Below.refl _ wr) 2 (by decide) (by cases f with
            | zero => have := hR.out.few; omega
            | succ f => rw [goF_shape HL0.out HY.out hy])
          clear hR hy HY HL0 HIn HL
          go_wp2_with fail
          refine HN.mono ?_
          rintro e w' ⟨rfl, rfl⟩
          go_wp2_with fail
          refine HPa.mono ?_
          rintro e w' ⟨rfl, rfl⟩
          clear HN HPa
          go_wp2
          go_ret2
          exact HD.out
end Go.Proofs.YtdkafcgangcgbajDoor

/-
  What the calls of record.addNumber and addBatch give: a number's bytes, a batch's bytes behind the bytes that are there.
-/
import Derived.Test.YtalmcjkaheofpaeDoorFault
namespace Go.Proofs.YtalmcjkaheofpaeDoor
open Go.RowKit
set_option linter.unusedVariables false

/-- ONLY THE ROW AT a0 AND NEW BLOCKS ARE TURNED; the new row is the old one or a new one. -/
def Grow (a0 : Option Addr) (w : World) (a1 : Option Addr) (w' : World) : Prop := Keep (blk a0) w w' ∧ ∀ b, blk a1 b → blk a0 b ∨ w.heap.size ≤ b
theorem Grow.refl (a : Option Addr) (w : World) : Grow a w a w := ⟨Keep.refl _ _, fun b h => Or.inl h⟩
theorem Grow.trans {a0 a1 a2 : Option Addr} {w w1 w2 : World} (h : Grow a0 w a1 w1) (k : Grow a1 w1 a2 w2) : Grow a0 w a2 w2 := by
  refine ⟨⟨k.1.os.trans h.1.os, k.1.tape.trans h.1.tape, k.1.output.trans h.1.output, Nat.le_trans h.1.size k.1.size, fun b hb hs => ?_⟩, fun b hb => ?_⟩
  · rw [k.1.block b (Nat.lt_of_lt_of_le hb h.1.size) (fun e => by rcases h.2 b e with e | e; exact hs e; omega)]
    exact h.1.block b hb hs
  · rcases k.2 b hb with e | e
    · exact h.2 b e
    · exact Or.inr (Nat.le_trans h.1.size e)
theorem Grow.below {a0 a1 : Option Addr} {w w' : World} {B : Nat} (h : Grow a0 w a1 w') (hB : B ≤ w.heap.size) (hs : ∀ b, blk a0 b → B ≤ b) : Below B w w' := h.1.below hB hs
theorem Grow.pre {a0 a1 : Option Addr} {w w1 w' : World} (hb : Below w.heap.size w w1) (h : Grow a0 w1 a1 w') : Grow a0 w a1 w' :=
  (show Grow a0 w a0 w1 from ⟨Keep.of_below hb, fun b e => Or.inl e⟩).trans h
/-- ONE BYTE IS APPENDED. -/
theorem app_step1 {ops : Array Oper} {rest : List Oper} {o : Oper} {a : Act} {Q : Exit → Act → World → Prop} (hgd : o.guard = none) (s x : Operand)
    (ho : o.op = .call { callee := .builtin .append, args := #[s, x], argTypes := #[23, 23] }) (w : World) (base cap0 : Nat) (a0 : Option Addr) (ys : List Nat) (iv : Int) (v : Nat)
    (hs : a.eval s = .slice a0 ys.length cap0) (hx : a.eval x = .slice (some ⟨w.heap.size, 0, none⟩) 1 1) (hv : iv = (v : Int)) (h : OwnA w base a0 cap0 ys) (hk : ys.length + 1 ≤ 1073741824) (hb : base ≤ w.heap.size)
    (hc : ∀ a1 cap1 w', OwnA w' base a1 cap1 (ys ++ [v]) → Grow a0 w a1 w' → wpList Tryd.prog ops Q rest (a.put o.dst (.slice a1 (ys.length + 1) cap1)) w') :
    wpList Tryd.prog ops Q (o :: rest) a (w.alloc (.cells #[.int .u8 iv] 5)) := by
  obtain ⟨i0, hi, hz0, hz1, hz2⟩ := info_parts info5
  subst hv
  have hbl : Below w.heap.size w (w.alloc (.cells #[.int .u8 (v : Int)] 5)) := (Below.refl _ _).alloc (Nat.le_refl _) _
  have ho' : OwnA (w.alloc (.cells #[.int .u8 (v : Int)] 5)) base a0 cap0 ys := h.below hbl
  refine wpList_append_lies (w.alloc (.cells #[.int .u8 (v : Int)] 5)) hgd s x 23 ho base 5 i0 (.int .u8 0) 1 1 Tryd.underlying23 hi hz0 hz1 hz2 rfl (by decide) (.slice a0 ys.length cap0) ys.length _ hs ho' ⟨w.heap.size, 0, none⟩ 1 1 [.int .u8 (v : Int)] hx rfl (World.news_of_block (heap_alloc_new w _)) (fun u hu => by simp at hu; subst hu; rfl) (by decide) (by unfold maxLen; omega) (by omega) (Nat.le_trans hb hbl.size) _ rfl ?_
  intro g cap1 w' h2 h3 h4 _
  refine hc (some ⟨g, 0, none⟩) cap1 w' ?_ (Grow.pre hbl ⟨keep_grown h3, fun b hb => ?_⟩)
  · unfold OwnA
    rw [List.map_append, List.length_append]
    exact h2
  · obtain ⟨x, e, rfl⟩ := hb
    cases e
    rcases h4 with h4 | h4
    · left
      cases a0 with
      | none => cases h4
      | some y => exact ⟨y, rfl, by simpa [Value.ownBlock] using h4⟩
    · right
      simp at h4
      simp [h4]
/-- What a call gives that appends. -/
def AddPost (w w' : World) (e : Ending) (base : Nat) (a : Option Addr) (rs : List Nat) : Prop := ∃ a1 cap1, e = .returned (.slice a1 rs.length cap1) ∧ OwnA w' base a1 cap1 rs ∧ Grow a w a1 w'
structure AR (w wr : World) (base : Nat) (a a1 : Option Addr) (cap1 : Nat) (rs : List Nat) : Prop where
  own : OwnA wr base a1 cap1 rs
  grow : Grow a w a1 wr
set_option maxRecDepth 20000 in
set_option maxHeartbeats 1600000 in
theorem addNumber_any (a : Option Addr) (ys : List Nat) (cap n base : Nat) (w : World) (hO : OwnA w base a cap ys) (hn : n < 9223372036854775808) (hl : ys.length + (sev n).length ≤ 1073741824) (hb : base ≤ w.heap.size) :
    Calls Tryd.prog 24 #[.slice a ys.length cap, .int .i64 n] w fun e w' => AddPost w w' e base a (ys ++ sev n) := by
  have H0 : Hid (AR w w base a a cap ys) := ⟨hO, Grow.refl _ _⟩
  have HL : Hid (ys.length + (sev n).length ≤ 1073741824) := hl
  clear hO hl
  go_enter Tryd.func24, Tryd.ntmps24
  go_wp2
  go_loopw [0, 1] (fun t j wr => ∃ (m c : Nat) (a1 : Option Addr) (rs : List Nat), m < 9223372036854775808 ∧ j = .int .i64 m ∧ t = .slice a1 rs.length c ∧ Hid (AR w wr base a a1 c rs ∧ rs ++ sev m = ys ++ sev n)) (fun _ j _ => (intOf j).toNat)
  case atStart => exact ⟨n, cap, a, ys, hn, rfl, rfl, H0.out, rfl⟩
  case round =>
    clear H0
    obtain ⟨m, c, a1, rs, hm, rfl, rfl, hr⟩ := hrel
    have hbw : base ≤ wr.heap.size := Nat.le_trans hb hr.out.1.grow.1.size
    have hrs : rs.length + (sev m).length ≤ 1073741824 := by have h1 := congrArg List.length hr.out.2; rw [List.length_append, List.length_append] at h1; have := HL.out; omega
    have hsp := sev_pos m
    by_cases h128 : m < 128
    · have h128' : (m : Int) < 128 := by omega
      go_wp2_with (at_builtin; refine app_step1 rfl (.tmp 16) (.tmp 19) rfl wr base c a1 rs _ m rfl rfl ?_ hr.out.1.own (by omega) hbw ?_)
      · omega
      intro a2 c2 w2 hO2 hG2
      have HP : Hid (AddPost w w2 (.returned (.slice a2 (rs.length + 1) c2)) base a (ys ++ sev n)) := by
        refine ⟨a2, c2, ?_, ?_, hr.out.1.grow.trans hG2⟩
        · rw [← hr.out.2, sev_small h128, List.length_append, List.length_singleton]
        · rw [← hr.out.2, sev_small h128]; exact hO2
      clear hr hO2 hG2
      go_wp2
      go_ret
      exact HP.out
    · have h128' : (128 : Int) ≤ (m : Int) := by omega
      go_wp2_with (at_builtin; refine app_step1 rfl (.tmp 7) (.tmp 12) rfl wr base c a1 rs _ (m % 128 + 128) rfl rfl ?_ hr.out.1.own (by omega) hbw ?_)
      · omega
      intro a2 c2 w2 hO2 hG2
      have HF : Hid (AR w w2 base a a2 c2 (rs ++ [m % 128 + 128]) ∧ (rs ++ [m % 128 + 128]) ++ sev (m / 128) = ys ++ sev n) :=
        ⟨⟨hO2, hr.out.1.grow.trans hG2⟩, by rw [← hr.out.2, sev_big h128]; simp⟩
      clear hr hO2 hG2
      go_wp2
      go_roundw
      case rel => exact ⟨m / 128, c2, a2, rs ++ [m % 128 + 128], by omega, by go_num, by rw [List.length_append, List.length_singleton], HF⟩
      case measure => simp [intOf]; omega
end Go.Proofs.YtalmcjkaheofpaeDoor

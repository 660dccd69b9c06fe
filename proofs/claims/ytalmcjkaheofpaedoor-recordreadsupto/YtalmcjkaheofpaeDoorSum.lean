/-
  What the call of a reader's sum gives: whether the four bytes are the check of all that was read.
-/
import Derived.Test.YtalmcjkaheofpaeDoorEntries
namespace Go.Proofs.YtalmcjkaheofpaeDoor
open Go.RowKit
set_option linter.unusedVariables false

theorem add0 (a : Option Addr) : a.map (·.add 0) = a := by
  cases a with
  | none => rfl
  | some a => obtain ⟨b, o, s⟩ := a; cases s <;> rfl
theorem slice_to (a : Option Addr) (n cap p : Nat) (h : p ≤ cap) (w : World) : (Instr.slice 23 (.slice a n cap) none (some (.int .i64 (p : Int))) none).run Tryd.prog w = .ok (.slice a p cap) w := by
  have hu : Tryd.prog.underlying 23 = some (.slice (Tryd.prog.elem 23)) := by kernel_rfl
  have hs : (sizeOf (Tryd.prog.elem 23)).run Tryd.prog w = .ok 1 w := by kernel_rfl
  rw [run_slice_h w 23 _ n cap hu .i64 (p : Int) (by omega) (by omega), hs]
  simp [Result.andThen, sliced, add0]
theorem Lies.take {w : World} {a : Option Addr} {bs : List Nat} (h : Lies w a bs) (k : Nat) : Lies w a (bs.take k) := by
  rcases h with h | ⟨b, off, rfl, h⟩
  · exact Or.inl (by rw [h, List.take_nil])
  · refine Or.inr ⟨b, off, rfl, fun i hi => ?_⟩
    rw [List.length_take] at hi
    rw [List.getElem?_take, if_pos (by omega)]
    exact h i (by omega)
/-- What sum gives. -/
def SumPost (w w' : World) (e : Ending) (rb : Nat) (da : Option Addr) (bs : List Nat) (cap p : Nat) : Prop :=
  Keep (fun b => b = rb) w w' ∧ (((bs.drop p).take 4 = low 4 (crcOf (bs.take p)) ∧ e = .returned (.tuple #[]) ∧ RD w' rb da bs cap (p + 4)) ∨ (¬ (bs.drop p).take 4 = low 4 (crcOf (bs.take p)) ∧ Pan e))
structure SR (w wr : World) (rb : Nat) (da : Option Addr) (bs : List Nat) (cap p i c : Nat) : Prop where
  rd : RD wr rb da bs cap (p + i)
  keep : Keep (fun b => b = rb) w wr
  eq : (bs.drop p).take i = low i c
theorem SR.step {w wr w2 : World} {rb : Nat} {da : Option Addr} {bs : List Nat} {cap p i c : Nat} (h : SR w wr rb da bs cap p i c) (hk : Keep (fun b => b = rb) wr w2) (hr : RD w2 rb da bs cap (p + i + 1)) (hp : p + i < bs.length) (hb : bs[p + i]?.getD 0 = c / 2 ^ (8 * i) % 256) : SR w w2 rb da bs cap p (i + 1) c := by
  refine ⟨hr, h.keep.trans hk, ?_⟩
  rw [take_snocN (bs.drop p) i (by rw [List.length_drop]; omega), h.eq, low_snoc, List.getElem?_drop, hb]
theorem sum_short {bs : List Nat} {p i c : Nat} (hi : i < 4) (hp : p + i = bs.length) : ¬ (bs.drop p).take 4 = low 4 c := by
  intro e
  have := congrArg List.length e
  rw [List.length_take, List.length_drop, low_len] at this
  omega
theorem sum_wrong {bs : List Nat} {p i c : Nat} (hi : i < 4) (hp : p + i < bs.length) (hb : bs[p + i]?.getD 0 ≠ c / 2 ^ (8 * i) % 256) : ¬ (bs.drop p).take 4 = low 4 c := by
  intro e
  apply hb
  rw [← low_at 4 c i hi, ← e, List.getElem?_take, if_pos hi, List.getElem?_drop]
theorem wr8 (c i : Nat) : IntKind.u8.wrap ((c : Int) / 2 ^ (8 * (i : Int)).toNat) = ((c / 2 ^ (8 * i) % 256 : Nat) : Int) := by
  rw [show (8 * (i : Int)).toNat = 8 * i by omega, IntKind.wrap_u8']
  exact low_byte c i
set_option maxRecDepth 20000 in
set_option maxHeartbeats 1600000 in
theorem sum_any (rb : Nat) (da : Option Addr) (bs : List Nat) (cap p : Nat) (w : World) (h : RD w rb da bs cap p) :
    Calls Tryd.prog 32 #[.pointer (some ⟨rb, 0, none⟩)] w fun e w' => SumPost w w' e rb da bs cap p := by
  have h0 := h.c0
  have h1 := h.c1
  have hl := h.len
  have hle := h.le
  have hs := fun wz => slice_to da bs.length cap p (by have := h.lc; omega) wz
  have htl : (bs.take p).length = p := by rw [List.length_take]; omega
  have hcr : ∀ q, Calls Tryd.prog 25 #[.slice da p cap] (w.drewN q) fun e w' => e = .returned (.int .u32 (crcOf (bs.take p) : Nat)) ∧ w' = w.drewN q := fun q => by
    have := crc_any da (bs.take p) cap (w.drewN q) (by rw [htl]; unfold maxLen; omega) (h.all.take p) ((h.drewN q).lies.take p)
    rw [htl] at this
    exact this
  have HC : Hid (∀ q, Calls Tryd.prog 25 #[.slice da p cap] (w.drewN q) fun e w' => e = .returned (.int .u32 (crcOf (bs.take p) : Nat)) ∧ w' = w.drewN q) := hcr
  have HR : Hid (∀ q, SR w (w.drewN q) rb da bs cap p 0 (crcOf (bs.take p))) := fun q => ⟨h.drewN q, Keep.drewN (Keep.refl _ _) q, rfl⟩
  have hc32 := crcOf_lt (h.all.take p)
  clear h hcr htl
  have HP0 : Hid (∀ w' e, SumPost w w' e rb da bs cap p ↔ (Keep (fun b => b = rb) w w' ∧ (((bs.drop p).take 4 = low 4 (crcOf (bs.take p)) ∧ e = .returned (.tuple #[]) ∧ RD w' rb da bs cap (p + 4)) ∨ (¬ (bs.drop p).take 4 = low 4 (crcOf (bs.take p)) ∧ Pan e)))) := fun w' e => Iff.rfl
  generalize crcOf (bs.take p) = c at HC HR hc32 HP0
  go_enter Tryd.func32, Tryd.ntmps32
  go_wp2
  go_quiet (first | exact Calls.quiet_of_same (HC.out _))
  go_wp2
  go_loopw [14] (fun j wr => ∃ i : Nat, i ≤ 4 ∧ j = .int .i64 i ∧ Hid (SR w wr rb da bs cap p i c)) (fun j _ => 4 - (intOf j).toNat)
  case atStart => exact ⟨0, by omega, rfl, HR.out _⟩
  case round =>
    clear HR HC
    obtain ⟨i, hi, rfl, hr⟩ := hrel
    by_cases hlt : i < 4
    · by_cases hp : p + i < bs.length
      · have hnx := next_any rb da bs cap (p + i) _ hr.out.rd
        have HN : Hid (∀ q, Calls Tryd.prog 39 #[.pointer (some ⟨rb, 0, none⟩)] (wr.drewN q) fun e w' => e = .returned (.int .u8 ((bs[p + i]?.getD 0 : Nat) : Int)) ∧ Hid (RD w' rb da bs cap (p + i + 1) ∧ Keep (fun b => b = rb) wr w')) := fun q =>
          (next_any rb da bs cap (p + i) _ (hr.out.rd.drewN q)).mono fun e w' ⟨h1, h2⟩ => by
            rcases h2 with ⟨_, h3, h4⟩ | ⟨h3, _⟩
            · exact ⟨h3, h4, (Keep.drewN (Keep.refl _ _) q).trans h1⟩
            · omega
        by_cases hb : bs[p + i]?.getD 0 = c / 2 ^ (8 * i) % 256
        · have HS : Hid (∀ w2, Keep (fun b => b = rb) wr w2 → RD w2 rb da bs cap (p + i + 1) → SR w w2 rb da bs cap p (i + 1) c) := fun w2 k1 k2 => hr.out.step k1 k2 hp hb
          have hne : (((bs[p + i]?.getD 0 : Nat) : Int) != IntKind.u8.wrap ((c : Int) / 2 ^ (8 * (i : Int)).toNat)) = false := by rw [wr8, ← hb]; simp
          clear hb hr hnx
          generalize bs[p + i]?.getD 0 = B at hne HN
          have hw8 : IntKind.i64.wrap (8 * (i : Int)) = 8 * (i : Int) := by rw [IntKind.wrap_i64]; omega
          have h8 : (0 : Int) ≤ 8 * (i : Int) := by omega
          go_upto_region 4 with fail
          go_region_held3 (fun w' => True) (trivial) (first | (go_at_call 39; refine (HN.out _).mono ?_; rintro e w' ⟨rfl, hW⟩))
          go_wp2
          go_roundw
          case rel => exact ⟨i + 1, by omega, by go_num, HS.out _ hW.out.2 hW.out.1⟩
          case measure => simp [intOf]; omega
        · have HS : Hid (¬ (bs.drop p).take 4 = low 4 c) := sum_wrong hlt hp hb
          have hne : (((bs[p + i]?.getD 0 : Nat) : Int) != IntKind.u8.wrap ((c : Int) / 2 ^ (8 * (i : Int)).toNat)) = true := by
            rw [wr8, bne_iff_ne]
            exact fun e => hb (by omega)
          have HK : Hid (Keep (fun b => b = rb) w wr) := hr.out.keep
          clear hb hr hnx
          generalize bs[p + i]?.getD 0 = B at hne HN
          have hw8 : IntKind.i64.wrap (8 * (i : Int)) = 8 * (i : Int) := by rw [IntKind.wrap_i64]; omega
          have h8 : (0 : Int) ≤ 8 * (i : Int) := by omega
          go_upto_region 4 with fail
          go_region_held3 (fun w' => True) (trivial) (first | (go_at_call 39; refine (HN.out _).mono ?_; rintro e w' ⟨rfl, hW⟩; obtain ⟨T, pv, hv⟩ := hW.out.1.er))
          go_wp2
          exact ⟨rfl, (HP0.out _ _).2 ⟨HK.out.trans hW.out.2, Or.inr ⟨HS.out, T, pv, rfl⟩⟩⟩
      · have hp' : p + i = bs.length := by have := hr.out.rd.le; omega
        have HS : Hid (¬ (bs.drop p).take 4 = low 4 c) := sum_short hlt hp'
        have HN : Hid (∀ q, Calls Tryd.prog 39 #[.pointer (some ⟨rb, 0, none⟩)] (wr.drewN q) fun e w' => (∃ T pv, e = .panicked [{ v := .iface T pv, recovered := false }]) ∧ Hid (Keep (fun b => b = rb) w w')) := fun q =>
          (next_any rb da bs cap (p + i) _ (hr.out.rd.drewN q)).mono fun e w' ⟨h1, h2⟩ => by
            rcases h2 with ⟨h3, _⟩ | ⟨_, h4⟩
            · omega
            · exact ⟨h4, hr.out.keep.trans ((Keep.drewN (Keep.refl _ _) q).trans h1)⟩
        clear hr
        have hw8 : IntKind.i64.wrap (8 * (i : Int)) = 8 * (i : Int) := by rw [IntKind.wrap_i64]; omega
        have h8 : (0 : Int) ≤ 8 * (i : Int) := by omega
        go_upto_region 4 with fail
        refine wp_region_any (by kernel_rfl) ?_
        change wpAny _ _ _ _ _ _ _ (World.drew _)
        refine wpAny_take (i := 0) (v := ?_) rfl (by kernel_rfl) (by kernel_rfl) (by kernel_rfl) (fun _ _ _ h => h) (Or.inl ⟨by rfl, ?_⟩) ?_
        rotate_left
        · (intro wq; go_simp; try with_reducible rfl)
        refine wpAny_take (i := 2) (v := ?_) rfl (by kernel_rfl) (by kernel_rfl) (by kernel_rfl) (fun _ _ _ h => h) (Or.inl ⟨by rfl, ?_⟩) ?_
        rotate_left
        · (intro wq; go_simp; try with_reducible rfl)
        refine wpAny_take (i := 3) (v := ?_) rfl (by kernel_rfl) (by kernel_rfl) (by kernel_rfl) (fun _ _ _ h => h) (Or.inl ⟨by rfl, ?_⟩) ?_
        rotate_left
        · (intro wq; go_simp; try with_reducible rfl)
        refine wpAny_take (i := 4) (v := ?_) rfl (by kernel_rfl) (by kernel_rfl) (by kernel_rfl) (fun _ _ _ h => h) (Or.inl ⟨by rfl, ?_⟩) ?_
        rotate_left
        · (intro wq; go_simp; try with_reducible rfl)
        refine wpAny_take (i := 5) (v := ?_) rfl (by kernel_rfl) (by kernel_rfl) (by kernel_rfl) (fun _ _ _ h => h) (Or.inl ⟨by rfl, ?_⟩) ?_
        rotate_left
        · (intro wq; go_simp; try with_reducible rfl)
        refine wpAny_take (i := 6) (v := ?_) rfl (by kernel_rfl) (by kernel_rfl) (by kernel_rfl) (fun _ _ _ h => h) (Or.inl ⟨by rfl, ?_⟩) ?_
        rotate_left
        · (intro wq; go_simp; try with_reducible rfl)
        refine wpAny_ready (rs := [1]) (by kernel_rfl) (by simp) ?_
        refine AllReady.cons rfl (fun K hK => ?_) AllReady.nil
        go_simp
        go_wp2_with (first | (go_at_call 39; refine (HN.out 1).mono ?_; rintro e w' ⟨⟨T, pv, rfl⟩, hW⟩))
        exact ⟨rfl, (HP0.out _ _).2 ⟨hW.out, Or.inr ⟨HS.out, T, pv, rfl⟩⟩⟩
    · obtain rfl : i = 4 := by omega
      have HP : Hid (SumPost w wr (.returned (.tuple #[])) rb da bs cap p) := (HP0.out _ _).2 ⟨hr.out.keep, Or.inl ⟨hr.out.eq, rfl, hr.out.rd⟩⟩
      clear hr
      go_wp2
      go_end0
      exact HP.out
end Go.Proofs.YtalmcjkaheofpaeDoor

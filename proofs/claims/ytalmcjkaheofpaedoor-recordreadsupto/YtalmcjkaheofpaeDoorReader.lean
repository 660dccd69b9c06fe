/-
  What the calls of a reader's next and number give: the next byte, a number; or a panic, where there is none.
-/
import Derived.Test.YtalmcjkaheofpaeDoorCrc
import Derived.Recover
import Derived.Lib.BitFns
namespace Go.Proofs.YtalmcjkaheofpaeDoor
open Go.RowKit
set_option linter.unusedVariables false

/-- THE VARIABLE errUnread holds an error. -/
def ErrV (w : World) : Prop := ∃ T pv, w.cell? ⟨1, 0, none⟩ = some (.iface T pv)
/-- A PANIC that can be recovered. -/
def Pan (e : Ending) : Prop := ∃ T pv, e = .panicked [{ v := .iface T pv, recovered := false }]
/-- HOW A READER LIES: it stands ahead of the byte at. -/
structure RD (w : World) (rb : Nat) (da : Option Addr) (bs : List Nat) (cap p : Nat) : Prop where
  c0 : w.cell? ⟨rb, 0, none⟩ = some (.slice da bs.length cap)
  c1 : w.cell? ⟨rb, 1, none⟩ = some (.int .i64 p)
  free : ∀ o, w.frozen? ⟨rb, o, none⟩ = false
  lies : Lies w da bs
  ne : ∀ b off, bs ≠ [] → da = some ⟨b, off, none⟩ → b < rb
  le : p ≤ bs.length
  er : ErrV w
  ner : 1 < rb
  all : AllB bs
  len : bs.length ≤ 1073741824
  lc : bs.length ≤ cap
theorem RD.lt {w : World} {rb : Nat} {da : Option Addr} {bs : List Nat} {cap p : Nat} (h : RD w rb da bs cap p) : rb < w.heap.size := World.block_lt_of_cell? w _ h.c0
theorem ErrV.keep {S : Nat → Prop} {w w' : World} (h : ErrV w) (hk : Keep S w w') (hs : ¬ S 1) : ErrV w' := by
  obtain ⟨T, pv, h⟩ := h
  exact ⟨T, pv, by rw [hk.cell (p := ⟨1, 0, none⟩) (World.block_lt_of_cell? w _ h) hs]; exact h⟩
theorem ErrV.below {w w' : World} (h : ErrV w) (hb : Below w.heap.size w w') : ErrV w' := h.keep (S := fun _ => False) (Keep.of_below hb) (fun e => e)
theorem RD.keep {S : Nat → Prop} {w w' : World} {rb : Nat} {da : Option Addr} {bs : List Nat} {cap p : Nat} (h : RD w rb da bs cap p) (hk : Keep S w w') (hs : ∀ b, b ≤ rb → ¬ S b) : RD w' rb da bs cap p :=
  ⟨by rw [hk.cell (p := ⟨rb, 0, none⟩) h.lt (hs _ (Nat.le_refl _))]; exact h.c0, by rw [hk.cell (p := ⟨rb, 1, none⟩) h.lt (hs _ (Nat.le_refl _))]; exact h.c1, fun o => by rw [hk.frozen (p := ⟨rb, o, none⟩) h.lt (hs _ (Nat.le_refl _))]; exact h.free o, h.lies.keep hk (fun b off e1 e2 => hs b (Nat.le_of_lt (h.ne b off e1 e2))), h.ne, h.le, h.er.keep hk (hs _ (Nat.le_of_lt h.ner)), h.ner, h.all, h.len, h.lc⟩
theorem RD.drewN {w : World} {rb : Nat} {da : Option Addr} {bs : List Nat} {cap p : Nat} (h : RD w rb da bs cap p) (q : Nat) : RD (w.drewN q) rb da bs cap p :=
  h.keep (S := fun _ => False) (Keep.drewN (Keep.refl _ _) q) (fun _ _ e => e)
theorem RD.step {w : World} {rb : Nat} {da : Option Addr} {bs : List Nat} {cap p : Nat} (h : RD w rb da bs cap p) (hp : p < bs.length) : RD (w.setCell ⟨rb, 1, none⟩ (.int .i64 ((p + 1 : Nat) : Int))) rb da bs cap (p + 1) := by
  have hk : Keep (fun b => b = rb) w (w.setCell ⟨rb, 1, none⟩ (.int .i64 ((p + 1 : Nat) : Int))) := Keep.set (S := fun b => b = rb) (p := ⟨rb, 1, none⟩) (Keep.refl _ _) rfl _
  exact ⟨by rw [far _ (by omega)]; exact h.c0, World.cell?_setCell_same _ _ _ h.c1, fun o => by rw [World.frozen?_setCell]; exact h.free o, h.lies.keep hk (fun b off e1 e2 e3 => by have := h.ne b off e1 e2; omega), h.ne, by omega, h.er.keep hk (fun e => by have := h.ner; omega), h.ner, h.all, h.len, h.lc⟩
theorem RD.byte {w : World} {rb : Nat} {da : Option Addr} {bs : List Nat} {cap p : Nat} (h : RD w rb da bs cap p) (hp : p < bs.length) : ∃ b off, da = some ⟨b, off, none⟩ ∧ w.cell? ⟨b, off + p, none⟩ = some (.int .u8 ((bs[p]?.getD 0 : Nat) : Int)) := by
  rcases h.lies with e | ⟨b, off, e, hc⟩
  · rw [e] at hp; simp at hp
  · exact ⟨b, off, e, hc p hp⟩
/-- What next gives. -/
def NextPost (w w' : World) (e : Ending) (rb : Nat) (da : Option Addr) (bs : List Nat) (cap p : Nat) : Prop :=
  Keep (fun b => b = rb) w w' ∧ ((p < bs.length ∧ e = .returned (.int .u8 ((bs[p]?.getD 0 : Nat) : Int)) ∧ RD w' rb da bs cap (p + 1)) ∨ (p = bs.length ∧ Pan e))
set_option maxHeartbeats 800000 in
theorem next_any (rb : Nat) (da : Option Addr) (bs : List Nat) (cap p : Nat) (w : World) (h : RD w rb da bs cap p) :
    Calls Tryd.prog 39 #[.pointer (some ⟨rb, 0, none⟩)] w fun e w' => NextPost w w' e rb da bs cap p := by
  have h0 := h.c0
  have h1 := h.c1
  have hz := h.free 1
  have hl := h.len
  have hle := h.le
  have HR : Hid (RD w rb da bs cap p) := h
  by_cases hp : p < bs.length
  · obtain ⟨b, off, rfl, hc⟩ := h.byte hp
    have HF : Hid (∀ q, NextPost w ((w.drewN q).setCell ⟨rb, 1, none⟩ (.int .i64 ((p : Int) + 1))) (.returned (.int .u8 ((bs[p]?.getD 0 : Nat) : Int))) rb (some ⟨b, off, none⟩) bs cap p) := fun q =>
      ⟨Keep.set (S := fun b => b = rb) (p := ⟨rb, 1, none⟩) (Keep.drewN (Keep.refl _ _) q) rfl _, Or.inl ⟨hp, rfl, (h.drewN q).step hp⟩⟩
    clear h HR
    generalize bs[p]?.getD 0 = X at hc HF
    go_enter Tryd.func39, Tryd.ntmps39
    go_wp2
    go_quiet (fail)
    go_wp2
    go_quiet (fail)
    go_wp2
    go_ret
    exact HF.out _
  · have hp' : p = bs.length := by omega
    obtain ⟨T, pv, hv⟩ := h.er
    clear h
    go_enter Tryd.func39, Tryd.ntmps39
    go_wp2
    go_quiet (fail)
    go_wp2
    exact ⟨rfl, Keep.drewN (Keep.refl _ _) _, Or.inr ⟨hp', T, pv, rfl⟩⟩
/-- What number gives. -/
def NumPost (w w' : World) (e : Ending) (rb : Nat) (da : Option Addr) (bs : List Nat) (cap p : Nat) : Prop :=
  Keep (fun b => b = rb) w w' ∧ ((∃ v k, rnum (bs.drop p) = some (v, k) ∧ e = .returned (.int .i64 (v : Nat)) ∧ RD w' rb da bs cap (p + k)) ∨ (rnum (bs.drop p) = none ∧ Pan e))
theorem drop_at (bs : List Nat) (p : Nat) (h : p < bs.length) : bs.drop p = (bs[p]?.getD 0) :: bs.drop (p + 1) := by
  rw [List.drop_eq_getElem_cons h, List.getElem?_eq_getElem h]; rfl
/-- What a round of number meets. -/
structure NR (w wr : World) (rb : Nat) (da : Option Addr) (bs : List Nat) (cap p k n : Nat) : Prop where
  rd : RD wr rb da bs cap (p + k)
  keep : Keep (fun b => b = rb) w wr
  eq : rnum (bs.drop p) = rnumF (9 - k) k n (bs.drop (p + k))
  lt : n < 2 ^ (7 * k)
theorem wrap_small (n : Nat) (h : n < 9223372036854775808) : IntKind.i64.wrap (n : Int) = (n : Int) := by
  have e : (n : Int) % 2 ^ 64 = n := Int.emod_eq_of_lt (by omega) (by omega)
  simp only [IntKind.wrap, IntKind.bits, IntKind.signed, e]
  rw [if_neg]
  simp
  omega
theorem i64_or_nat (a b : Nat) (ha : a < 9223372036854775808) (hb : b < 9223372036854775808) : bits .or .i64 (a : Int) (b : Int) = ((a ||| b : Nat) : Int) := by
  have hx : a ||| b < 2 ^ 63 := Nat.or_lt_two_pow (by omega) (by omega)
  show IntKind.i64.wrap ((BitVec.ofInt 64 (a : Int) ||| BitVec.ofInt 64 (b : Int)).toNat : Int) = _
  rw [BitVec.toNat_or, ofInt_u64 a (by omega), ofInt_u64 b (by omega)]
  exact wrap_small _ hx
theorem or_step {n B k : Nat} (hn : n < 2 ^ (7 * k)) (hk : k < 9) : bits BinOp.or IntKind.i64 (n : Int) (wrap64 ((B : Int) % 128 * 2 ^ (7 * k))) = ((n + B % 128 * 2 ^ (7 * k) : Nat) : Int) := by
  have hP : 2 ^ (7 * k) ≤ 2 ^ 56 := Nat.pow_le_pow_right (by decide) (by omega)
  rw [show 2 ^ 56 = 72057594037927936 by decide] at hP
  have e1 : (B : Int) % 128 * 2 ^ (7 * k) = ((B % 128 * 2 ^ (7 * k) : Nat) : Int) := by simp
  have hm : B % 128 * 2 ^ (7 * k) ≤ 127 * 72057594037927936 := Nat.mul_le_mul (by omega) hP
  have e2 : wrap64 ((B % 128 * 2 ^ (7 * k) : Nat) : Int) = ((B % 128 * 2 ^ (7 * k) : Nat) : Int) := by
    generalize B % 128 * 2 ^ (7 * k) = Z at hm
    simp only [wrap64]
    omega
  rw [e1, e2, i64_or_nat n _ (by omega) (by omega), Nat.mul_comm (B % 128), Nat.or_comm, ← Nat.two_pow_add_eq_or_of_lt hn, Nat.add_comm]
theorem step_lt {n B k : Nat} (hn : n < 2 ^ (7 * k)) : n + B % 128 * 2 ^ (7 * k) < 2 ^ (7 * (k + 1)) := by
  rw [pow7]
  have : B % 128 * 2 ^ (7 * k) ≤ 127 * 2 ^ (7 * k) := Nat.mul_le_mul (by omega) (Nat.le_refl _)
  omega
/-- One round's step. -/
theorem rnumF_step {f i acc b : Nat} {r : List Nat} : rnumF (f + 1) i acc (b :: r) = if 128 ≤ b then rnumF f (i + 1) (acc + b % 128 * 2 ^ (7 * i)) r else if (b = 0 ∧ 0 < i) ∨ mx < acc + b % 128 * 2 ^ (7 * i) then none else some (acc + b % 128 * 2 ^ (7 * i), i + 1) := rfl
theorem NR.step {w wr : World} {rb : Nat} {da : Option Addr} {bs : List Nat} {cap p k n : Nat} (h : NR w wr rb da bs cap p k n) (hk : k < 9) (hp : p + k < bs.length) :
    rnum (bs.drop p) = if 128 ≤ bs[p + k]?.getD 0 then rnumF (9 - (k + 1)) (k + 1) (n + bs[p + k]?.getD 0 % 128 * 2 ^ (7 * k)) (bs.drop (p + (k + 1))) else if (bs[p + k]?.getD 0 = 0 ∧ 0 < k) ∨ mx < n + bs[p + k]?.getD 0 % 128 * 2 ^ (7 * k) then none else some (n + bs[p + k]?.getD 0 % 128 * 2 ^ (7 * k), k + 1) := by
  rw [h.eq, drop_at bs (p + k) hp, show 9 - k = (9 - (k + 1)) + 1 by omega, rnumF_step]
  rfl
set_option maxRecDepth 20000 in
set_option maxHeartbeats 1600000 in
theorem number_any (rb : Nat) (da : Option Addr) (bs : List Nat) (cap p : Nat) (w : World) (h : RD w rb da bs cap p) :
    Calls Tryd.prog 38 #[.pointer (some ⟨rb, 0, none⟩)] w fun e w' => NumPost w w' e rb da bs cap p := by
  have H0 : Hid (NR w w rb da bs cap p 0 0) := ⟨h, Keep.refl _ _, rfl, by decide⟩
  clear h
  go_enter Tryd.func38, Tryd.ntmps38
  go_wp2
  go_loopw [3, 6] (fun t i wr => ∃ k n : Nat, k ≤ 9 ∧ i = .int .i64 k ∧ t = .int .i64 n ∧ Hid (NR w wr rb da bs cap p k n)) (fun _ i _ => 9 - (intOf i).toNat)
  case atStart => exact ⟨0, 0, by omega, rfl, rfl, H0⟩
  case round =>
    clear H0
    obtain ⟨k, n, hk, rfl, rfl, hr⟩ := hrel
    by_cases hlt : k < 9
    · go_wp2_with fail
      refine (next_any rb da bs cap (p + k) _ hr.out.rd).mono ?_
      rintro e w2 ⟨hk2, ⟨hp, rfl, hr2⟩ | ⟨hp, hpan⟩⟩
      · have hB := hr.out.rd.all.at (p + k)
        have HS : Hid (_ = _) := hr.out.step hlt hp
        have HO : Hid (_ = _) := @or_step n (bs[p + k]?.getD 0) k hr.out.lt hlt
        have HL : Hid (_ < _) := @step_lt n (bs[p + k]?.getD 0) k hr.out.lt
        have hM : n + bs[p + k]?.getD 0 % 128 * 2 ^ (7 * k) < 9223372036854775808 := by
          have h1 := @step_lt n (bs[p + k]?.getD 0) k hr.out.lt
          have h2 : 2 ^ (7 * (k + 1)) ≤ 2 ^ 63 := Nat.pow_le_pow_right (by decide) (by omega)
          omega
        have HK : Hid (Keep (fun b => b = rb) w w2 ∧ RD w2 rb da bs cap (p + (k + 1))) := ⟨hr.out.keep.trans hk2, hr2⟩
        have HE : Hid (ErrV w2) := hr2.er
        clear hr hk2 hr2 hp
        generalize bs[p + k]?.getD 0 = B at hB HS HO HL hM
        go_upto_region 7 with fail
        rw [HO.out]
        clear HO
        generalize n + B % 128 * 2 ^ (7 * k) = M at hM HS HL
        by_cases hb : 128 ≤ B
        · have hb' : (128 : Int) ≤ (B : Int) := by omega
          go_wp2
          go_roundw
          case rel => exact ⟨k + 1, M, by omega, by go_num, rfl, ⟨HK.out.2, HK.out.1, by rw [HS.out, if_pos hb], HL.out⟩⟩
          case measure => simp [intOf]; omega
        · have hb' : (B : Int) < (128 : Int) := by omega
          by_cases hbad : (B = 0 ∧ 0 < k) ∨ mx < M
          · obtain ⟨T, pv, hv⟩ := HE.out
            have HP : Hid (NumPost w w2 (.panicked [{ v := .iface T pv, recovered := false }]) rb da bs cap p) := ⟨HK.out.1, Or.inr ⟨by rw [HS.out, if_neg hb, if_pos hbad], T, pv, rfl⟩⟩
            clear HS HK HE
            rcases hbad with ⟨h1, h2⟩ | h1
            · subst h1
              go_wp2
              exact ⟨rfl, HP.out⟩
            · have h1' : (4611686018427387904 : Int) < (M : Int) := by have := h1; unfold mx at this; omega
              clear h1
              by_cases h0 : B = 0
              · subst h0
                by_cases hk0 : 0 < k
                · go_wp2
                  exact ⟨rfl, HP.out⟩
                · go_wp2
                  exact ⟨rfl, HP.out⟩
              · have hB0 : ((B : Int) == 0) = false := by rw [beq_eq_false_iff_ne]; omega
                clear h0
                go_wp2
                exact ⟨rfl, HP.out⟩
          · have HP : Hid (NumPost w w2 (.returned (.int .i64 (M : Nat))) rb da bs cap p) := ⟨HK.out.1, Or.inl ⟨M, k + 1, by rw [HS.out, if_neg hb, if_neg hbad], rfl, HK.out.2⟩⟩
            have h1 : (M : Int) ≤ (4611686018427387904 : Int) := by
              have : ¬ mx < M := fun e => hbad (Or.inr e)
              unfold mx at this; omega
            have h2 : B = 0 → k = 0 := fun e => by
              by_cases hk0 : k = 0
              · exact hk0
              · exact absurd (Or.inl ⟨e, by omega⟩) hbad
            clear HS HK HE hbad
            by_cases h0 : B = 0
            · obtain rfl := h2 h0
              subst h0
              clear h2
              go_wp2
              go_ret
              exact HP.out
            · clear h2
              have hB0 : ((B : Int) == 0) = false := by rw [beq_eq_false_iff_ne]; omega
              clear h0
              go_wp2
              go_ret
              exact HP.out
      · obtain ⟨T, pv, rfl⟩ := hpan
        have HP : Hid (NumPost w w2 (.panicked [{ v := .iface T pv, recovered := false }]) rb da bs cap p) := by
          refine ⟨hr.out.keep.trans hk2, Or.inr ⟨?_, T, pv, rfl⟩⟩
          rw [hr.out.eq, show 9 - k = (9 - (k + 1)) + 1 by omega, hp, List.drop_length]
          rfl
        clear hr hk2
        go_wp2
        exact ⟨rfl, HP.out⟩
    · obtain rfl : k = 9 := by omega
      obtain ⟨T, pv, hv⟩ := hr.out.rd.er
      have HP : Hid (NumPost w wr (.panicked [{ v := .iface T pv, recovered := false }]) rb da bs cap p) := ⟨hr.out.keep, Or.inr ⟨by rw [hr.out.eq]; rfl, T, pv, rfl⟩⟩
      clear hr
      go_wp2
      exact ⟨rfl, HP.out⟩
end Go.Proofs.YtalmcjkaheofpaeDoor

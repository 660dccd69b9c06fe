/-
  What the calls of granaryref1.Bytes and granarysame.Error give; scripts of calls as they lie; what the calls of a script do to a chip's state.
-/
import Derived.Test.YtjeelaaimhckhabDoorSpec
namespace Go.Proofs.YtjeelaaimhckhabDoor
open Go.RowKit
set_option linter.unusedVariables false

set_option maxHeartbeats 800000 in
theorem bytes_any (a a2 : Option Addr) (xs bs : List Nat) (cap cap2 : Nat) (w : World) (hm : xs.length ≤ 140737488355328) (hm2 : bs.length ≤ 140737488355328) (hc : Lies w a xs) (hc2 : Lies w a2 bs) :
    Calls Tryd.prog 19 #[.slice a xs.length cap, .slice a2 bs.length cap2] w fun e w' => e = .returned (.bool (decide (xs = bs))) ∧ Below w.heap.size w w' := by
  by_cases hl : xs.length = bs.length
  · have HL : Hid (xs.length = bs.length) := hl
    have ht : (((xs.length : Nat) : Int) != ((bs.length : Nat) : Int)) = false := by simp; omega
    have hle : xs.length ≤ bs.length := by omega
    by_cases h0 : xs.length = 0
    · have h1 : bs.length = 0 := by omega
      obtain rfl := List.eq_nil_of_length_eq_zero h0
      obtain rfl := List.eq_nil_of_length_eq_zero h1
      clear hl HL ht h0 h1 hle
      go_enter Tryd.func19, Tryd.ntmps19
      go_wp2
      go_loop [5] (fun j => j = .int .i64 0) (fun _ => 0)
      case atStart => rfl
      case round =>
        subst hrel
        go_wp2
        go_ret
        exact ⟨rfl, Below.refl _ _⟩
    · rcases hc with h | ⟨b, off, rfl, hc⟩
      · rw [h] at h0; exact absurd rfl h0
      rcases hc2 with h | ⟨b2, off2, rfl, hc2⟩
      · rw [h] at hl; exact absurd hl h0
      have hc' : ∀ wr, Below w.heap.size w wr → Lies wr (some ⟨b, off, none⟩) xs := fun wr hb => Lies.below (Or.inr ⟨b, off, rfl, hc⟩) hb
      have hc2' : ∀ wr, Below w.heap.size w wr → Lies wr (some ⟨b2, off2, none⟩) bs := fun wr hb => Lies.below (Or.inr ⟨b2, off2, rfl, hc2⟩) hb
      have HC : Hid (∀ wr, Below w.heap.size w wr → Lies wr (some ⟨b, off, none⟩) xs) := hc'
      have HC2 : Hid (∀ wr, Below w.heap.size w wr → Lies wr (some ⟨b2, off2, none⟩) bs) := hc2'
      clear hl h0 hc hc2 hc' hc2'
      go_enter Tryd.func19, Tryd.ntmps19
      go_wp2
      go_loopw [5] (fun j wr => ∃ k : Nat, k ≤ xs.length ∧ j = .int .i64 k ∧ Hid (∀ i, i < k → xs[i]?.getD 0 = bs[i]?.getD 0) ∧ Below w.heap.size w wr) (fun j _ => xs.length - (intOf j).toNat)
      case atStart => exact ⟨0, by omega, rfl, (fun i h => by omega), Below.refl _ _⟩
      case round =>
        obtain ⟨k, hk, rfl, hsame, hbr⟩ := hrel
        by_cases hlt : k < xs.length
        · have hlt2 : k < bs.length := by omega
          obtain hno | ⟨b3, off3, hbo, hc⟩ := HC.out wr hbr
          · rw [hno] at hlt; exact absurd hlt (Nat.not_lt_zero _)
          cases hbo
          obtain hno | ⟨b3, off3, hbo, hc2⟩ := HC2.out wr hbr
          · rw [hno] at hlt2; exact absurd hlt2 (Nat.not_lt_zero _)
          cases hbo
          have hck := hc k hlt
          have hck2 := hc2 k hlt2
          have HX : Hid (∀ X Y : Nat, xs[k]?.getD 0 = X → bs[k]?.getD 0 = Y → (X = Y → ∀ i, i < k + 1 → xs[i]?.getD 0 = bs[i]?.getD 0) ∧ (X ≠ Y → xs ≠ bs)) := by
            rintro X Y rfl rfl
            refine ⟨fun h i hi => ?_, fun h e => h (by rw [e])⟩
            by_cases h2 : i < k
            · exact hsame.out i h2
            · have : i = k := by omega
              subst this; exact h
          have HX2 : Hid (((xs[k]?.getD 0 : Nat) = (bs[k]?.getD 0) → ∀ i, i < k + 1 → xs[i]?.getD 0 = bs[i]?.getD 0) ∧ (xs[k]?.getD 0 ≠ bs[k]?.getD 0 → xs ≠ bs)) := HX.out _ _ rfl rfl
          clear HX hc hc2
          generalize xs[k]?.getD 0 = X at hck HX2
          generalize bs[k]?.getD 0 = Y at hck2 HX2
          go_wp2
          go_quiet (fail)
          go_wp2
          · have hne : (X != Y) = true := by
              have h : ((X : Int) != (Y : Int)) = true := by assumption
              simp at h ⊢; omega
            have hb2 := below_drewN hbr nq
            go_ret
            refine ⟨?_, hb2⟩
            rw [decide_eq_false (HX2.out.2 (by simpa using hne))]
            rfl
          · have heq : X = Y := by
              have h : ((X : Int) != (Y : Int)) = false := by assumption
              simp at h; omega
            have hb2 := below_drewN hbr nq
            have hall := HX2.out.1 heq
            go_roundw
            case rel => exact ⟨k + 1, by omega, by go_num, hall, hb2⟩
            case measure => simp [intOf]; omega
        · obtain rfl : k = xs.length := by omega
          go_wp2
          go_ret
          refine ⟨?_, hbr⟩
          have : xs = bs := ext_getD HL.out hsame.out
          rw [decide_eq_true this]
          rfl
  · have ht : (((xs.length : Nat) : Int) != ((bs.length : Nat) : Int)) = true := by simp; omega
    have hne : xs ≠ bs := fun e => hl (by rw [e])
    rw [decide_eq_false hne]
    clear hne hl
    go_enter Tryd.func19, Tryd.ntmps19
    go_wp2
    go_ret
    exact ⟨rfl, Below.refl _ _⟩


set_option maxHeartbeats 800000 in
theorem error_any (n k : Nat) (w : World) (hE : EType w) : Calls Tryd.prog 10 #[errI n, .int .i64 (k : Int)] w fun ev w' => ev = .returned (.bool (decide (n = k))) ∧ Below w.heap.size w w' := by
  by_cases h : n = k
  · rw [decide_eq_true h]
    exact same_err n k w hE h
  · rw [decide_eq_false h]
    by_cases h0 : n = 0
    · subst h0
      have := error_nil k w
      rw [decide_eq_false (fun e => h e.symm)] at this
      exact this.mono fun e w' ⟨h1, h2⟩ => ⟨h1, h2 ▸ Below.refl _ _⟩
    · unfold errI
      rw [if_neg h0]
      have ht := told_errno (n : Int) w hE
      have h2 : ((n : Int) == (k : Int)) = false := by rw [beq_eq_false_iff_ne]; omega
      clear h h0 hE
      go_enter Tryd.func10, Tryd.ntmps10
      go_wp2_with fail
      refine ht.mono ?_
      rintro e w2 ⟨rfl, hb⟩
      go_wp2
      go_ret
      exact ⟨rfl, hb⟩
/-- One call of a script. -/
structure OpD where
  kind : Int
  die : Int
  block : Int
  page : Int
  fault : Int
  a : Option Addr
  bs : List Nat
  cap : Nat
/-- .. as it lies at the i-th place. -/
structure OpAt (w : World) (b off i : Nat) (o : OpD) : Prop where
  k0 : w.cell? ⟨b, off + i * 6, none⟩ = some (.int .i64 o.kind)
  k1 : w.cell? ⟨b, off + i * 6 + 1, none⟩ = some (.int .i64 o.die)
  k2 : w.cell? ⟨b, off + i * 6 + 2, none⟩ = some (.int .i64 o.block)
  k3 : w.cell? ⟨b, off + i * 6 + 3, none⟩ = some (.int .i64 o.page)
  k4 : w.cell? ⟨b, off + i * 6 + 4, none⟩ = some (.slice o.a o.bs.length o.cap)
  k5 : w.cell? ⟨b, off + i * 6 + 5, none⟩ = some (.int .i64 o.fault)
  all : AllB o.bs
  lies : Lies w o.a o.bs
  fits : o.bs.length ≤ o.cap
theorem OpAt.below {w w' : World} {b off i : Nat} {o : OpD} (h : OpAt w b off i o) (hb : Below w.heap.size w w') : OpAt w' b off i o := by
  have hc : ∀ q, w'.cell? ⟨b, q, none⟩ = w.cell? ⟨b, q, none⟩ := fun q => hb.cell (p := ⟨b, q, none⟩) (show b < w.heap.size from World.block_lt_of_cell? w ⟨b, off + i * 6, none⟩ h.k0)
  exact ⟨by rw [hc]; exact h.k0, by rw [hc]; exact h.k1, by rw [hc]; exact h.k2, by rw [hc]; exact h.k3, by rw [hc]; exact h.k4, by rw [hc]; exact h.k5, h.all, h.lies.below hb, h.fits⟩
/-- A script of n calls. -/
def Script (w : World) (a : Option Addr) (n : Nat) : Prop := n = 0 ∨ ∃ b off, a = some ⟨b, off, none⟩ ∧ ∀ i, i < n → ∃ o, OpAt w b off i o
theorem Script.below {w w' : World} {a : Option Addr} {n : Nat} (h : Script w a n) (hb : Below w.heap.size w w') : Script w' a n := by
  rcases h with h | ⟨b, off, rfl, h⟩
  · exact Or.inl h
  · exact Or.inr ⟨b, off, rfl, fun i hi => by obtain ⟨o, ho⟩ := h i hi; exact ⟨o, ho.below hb⟩⟩
theorem Script.slice {w : World} {a : Option Addr} {n i : Nat} (h : Script w a n) (hi : i < n) : ∃ b off, a = some ⟨b, off, none⟩ ∧ ∃ o, OpAt w b off i o := by
  rcases h with h | ⟨b, off, e, h⟩
  · omega
  · exact ⟨b, off, e, h i hi⟩

theorem kOf_inj {D B : Nat} {d b d' b' : Int} (h : Here D B d b) (h' : Here D B d' b') (e : kOf B d b = kOf B d' b') : d = d' ∧ b = b' := by
  obtain ⟨x, y, rfl, rfl, h1, h2, h3, _⟩ := h.nat
  obtain ⟨x', y', rfl, rfl, h1', h2', h3', _⟩ := h'.nat
  rw [h3, h3'] at e
  have hx : x = x' := by
    have a1 : (x * B + y) / B = x := by rw [Nat.mul_comm, Nat.mul_add_div (by omega), Nat.div_eq_of_lt h2, Nat.add_zero]
    have a2 : (x' * B + y') / B = x' := by rw [Nat.mul_comm, Nat.mul_add_div (by omega), Nat.div_eq_of_lt h2', Nat.add_zero]
    rw [← a1, ← a2, e]
  subst hx
  exact ⟨rfl, by omega⟩
/-- What Program does: nothing, or it writes the next page of a block that there is. -/
theorem progF_cases (D B P Y : Nat) (s : St) (die block page : Int) (bs : List Nat) (f : Int) :
    ((progF D B P Y s die block page bs f).1 ≠ 0 ∧ (progF D B P Y s die block page bs f).2 = s) ∨
    (s.off = false ∧ Here D B die block ∧ bs.length = Y ∧ (0 ≤ f ∧ f ≤ 2) ∧ s.bad (kOf B die block) = false ∧ page = (s.next (kOf B die block) : Int) ∧ page < P ∧
      ∃ xs o, progF D B P Y s die block page bs f = ((if f = 0 then 0 else if f = 1 then 6 else 7), { putSt s (kOf B die block) page.toNat Y xs with off := o }) ∧ xs = (if f = 0 then bs else bs.take (Y / 2)) ∧ o = (if f = 2 then true else false)) := by
  unfold progF
  by_cases ho : s.off = true
  · rw [if_pos ho]; exact Or.inl ⟨by simp, rfl⟩
  rw [if_neg ho]
  by_cases hh : ¬ (0 ≤ die ∧ die < D ∧ 0 ≤ block ∧ block < B)
  · rw [if_pos hh]; exact Or.inl ⟨by simp, rfl⟩
  rw [if_neg hh]
  by_cases hp : ¬ (0 ≤ page ∧ page < P) ∨ ¬ (0 ≤ f ∧ f ≤ 2)
  · rw [if_pos hp]; exact Or.inl ⟨by simp, rfl⟩
  rw [if_neg hp]
  by_cases hn : bs.length ≠ Y
  · rw [if_pos hn]; exact Or.inl ⟨by simp, rfl⟩
  rw [if_neg hn]
  by_cases hb : s.bad (kOf B die block) = true
  · rw [if_pos hb]; exact Or.inl ⟨by simp, rfl⟩
  rw [if_neg hb]
  by_cases hx : page ≠ (s.next (kOf B die block) : Int)
  · rw [if_pos hx]; exact Or.inl ⟨by simp, rfl⟩
  rw [if_neg hx]
  have ho' : s.off = false := by simpa using ho
  refine Or.inr ⟨ho', Classical.not_not.1 hh, Classical.not_not.1 hn, ?_, by simpa using hb, Classical.not_not.1 hx, ?_, ?_⟩
  · exact Classical.not_not.1 (fun e => hp (Or.inr e))
  · exact (Classical.not_not.1 (fun e => hp (Or.inl e))).2
  by_cases f0 : f = 0
  · subst f0
    rw [if_pos rfl]
    refine ⟨bs, false, ?_, rfl, rfl⟩
    unfold putSt
    rw [if_pos rfl, ho']
  rw [if_neg f0]
  by_cases f1 : f = 1
  · subst f1
    refine ⟨bs.take (Y / 2), false, ?_, rfl, rfl⟩
    unfold putSt
    rw [if_pos rfl, ho']
    rfl
  rw [if_neg f1]
  have f2 : f = 2 := by
    have := Classical.not_not.1 (fun e => hp (Or.inr e))
    omega
  subst f2
  exact ⟨bs.take (Y / 2), true, rfl, rfl, rfl⟩
/-- What Erase does: nothing; or it turns one good block that there is. -/
theorem eraseF_cases (D B P Y : Nat) (s : St) (die block f : Int) :
    ((eraseF D B P Y s die block f).1 ≠ 0 ∧ (eraseF D B P Y s die block f).2 = s ∧ (s.off = false → (eraseF D B P Y s die block f).1 ≠ 7)) ∨
    (s.off = false ∧ Here D B die block ∧ s.bad (kOf B die block) = false ∧
      ((eraseF D B P Y s die block f = (6, { s with bad := upd s.bad (kOf B die block) true })) ∨
       ∃ c o l nx, nx ≤ P ∧ (c = 0 ∨ c = 7) ∧ eraseF D B P Y s die block f = (c, { s with off := o, bytes := upd s.bytes (kOf B die block) l, next := upd s.next (kOf B die block) nx, wear := upd s.wear (kOf B die block) (s.wear (kOf B die block) + 1) }))) := by
  unfold eraseF
  by_cases ho : s.off = true
  · rw [if_pos ho]; exact Or.inl ⟨by simp, rfl, fun e => by rw [ho] at e; cases e⟩
  rw [if_neg ho]
  by_cases hh : ¬ (0 ≤ die ∧ die < D ∧ 0 ≤ block ∧ block < B)
  · rw [if_pos hh]; exact Or.inl ⟨by simp, rfl, fun _ => by simp⟩
  rw [if_neg hh]
  by_cases hp : ¬ (0 ≤ f ∧ f ≤ 2)
  · rw [if_pos hp]; exact Or.inl ⟨by simp, rfl, fun _ => by simp⟩
  rw [if_neg hp]
  by_cases hb : s.bad (kOf B die block) = true
  · rw [if_pos hb]; exact Or.inl ⟨by simp, rfl, fun _ => by simp⟩
  rw [if_neg hb]
  have ho' : s.off = false := by simpa using ho
  refine Or.inr ⟨ho', Classical.not_not.1 hh, by simpa using hb, ?_⟩
  by_cases f0 : f = 0
  · rw [if_pos f0]
    exact Or.inr ⟨0, false, _, 0, Nat.zero_le _, Or.inl rfl, by rw [← ho']⟩
  rw [if_neg f0]
  by_cases f1 : f = 1
  · rw [if_pos f1]
    exact Or.inl rfl
  rw [if_neg f1]
  exact Or.inr ⟨7, true, _, P, Nat.le_refl _, Or.inr rfl, rfl⟩
theorem progF_wear (D B P Y : Nat) (s : St) (die block page : Int) (bs : List Nat) (f : Int) : (progF D B P Y s die block page bs f).2.wear = s.wear ∧ (progF D B P Y s die block page bs f).2.bad = s.bad := by
  rcases progF_cases D B P Y s die block page bs f with ⟨_, h⟩ | ⟨_, _, _, _, _, _, _, xs, o, h, _⟩
  · rw [h]; exact ⟨rfl, rfl⟩
  · rw [h]; exact ⟨rfl, rfl⟩
theorem eraseF_wear (D B P Y : Nat) (s : St) (die block f : Int) (m : Nat) (hm : ∀ k, s.wear k ≤ m) : ∀ k, (eraseF D B P Y s die block f).2.wear k ≤ m + 1 := by
  intro k
  have := hm k
  rcases eraseF_cases D B P Y s die block f with ⟨_, h, _⟩ | ⟨_, _, _, h | ⟨c, o, l, nx, _, _, h⟩⟩
  · rw [h]; omega
  · rw [h]; exact Nat.le_succ_of_le this
  · rw [h]
    show upd s.wear (kOf B die block) (s.wear (kOf B die block) + 1) k ≤ m + 1
    by_cases e : k = kOf B die block
    · rw [e, upd_same]; have := hm (kOf B die block); omega
    · rw [upd_ne _ _ _ _ e]; omega
end Go.Proofs.YtjeelaaimhckhabDoor

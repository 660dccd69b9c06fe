/-
  What the calls of the document's Program and Erase give: just what the plain functions of the state say.
-/
import Derived.Test.YtjeelaaimhckhabDoorRefNew
import Derived.Test.YtjeelaaimhckhabDoorRefRead
import Derived.Test.YtjeelaaimhckhabDoorRefProg
import Derived.Test.YtjeelaaimhckhabDoorRefProg2
import Derived.Test.YtjeelaaimhckhabDoorRefErase
namespace Go.Proofs.YtjeelaaimhckhabDoor
open Go.RowKit
set_option linter.unusedVariables false

theorem rprogram_any {D B P Y rb ab nb wb db cap : Nat} {s : St} (die block page f : Int) (a : Option Addr) (bs : List Nat) (cap2 : Nat) (w : World) (hG : Geo D B P Y) (h : RH D B P Y w rb ab nb wb db cap s) (hL : Lies w a bs) (hsb : ∀ b off, a = some ⟨b, off, none⟩ → bs ≠ [] → ¬ RMine rb ab nb wb db b) :
    Calls Tryd.prog 26 #[.pointer (some ⟨rb, 0, none⟩), .int .i64 die, .int .i64 block, .int .i64 page, .slice a bs.length cap2, .int .i64 f] w fun e w' =>
      e = .returned (.int .i64 ((progF D B P Y s die block page bs f).1 : Int)) ∧ RH D B P Y w' rb ab nb wb db cap (progF D B P Y s die block page bs f).2 ∧ Keep (RMine rb ab nb wb db) w w' := by
  unfold progF
  by_cases ho : s.off = true
  · rw [if_pos ho]
    exact (rprogram_off die block page f a bs.length cap2 w hG h ho).mono fun e w' ⟨h1, h2⟩ => ⟨h1, h2 ▸ h, h2 ▸ Keep.refl _ _⟩
  rw [if_neg ho]
  have ho' : s.off = false := by simpa using ho
  by_cases hh : ¬ (0 ≤ die ∧ die < D ∧ 0 ≤ block ∧ block < B)
  · rw [if_pos hh]
    exact (rprogram_none die block page f a bs.length cap2 w hG h ho' hh).mono fun e w' ⟨h1, h2⟩ => ⟨h1, h2 ▸ h, h2 ▸ Keep.refl _ _⟩
  replace hh := Classical.not_not.1 hh
  rw [if_neg (fun e => e hh)]
  have hb : ∀ {w' : World}, Below w.heap.size w w' → RH D B P Y w' rb ab nb wb db cap s ∧ Keep (RMine rb ab nb wb db) w w' := fun hb => ⟨h.below hG hb, Keep.of_below hb⟩
  by_cases hp : ¬ (0 ≤ page ∧ page < P)
  · rw [if_pos (Or.inl hp)]
    by_cases hp0 : page < 0
    · exact (rprogram_page1 die block page f a bs.length cap2 w hG h ho' hh hp0).mono fun e w' ⟨h1, h2⟩ => ⟨h1, hb h2⟩
    · exact (rprogram_page2 die block page f a bs.length cap2 w hG h ho' hh (by omega) (by omega)).mono fun e w' ⟨h1, h2⟩ => ⟨h1, hb h2⟩
  replace hp := Classical.not_not.1 hp
  by_cases hf : ¬ (0 ≤ f ∧ f ≤ 2)
  · rw [if_pos (Or.inr hf)]
    by_cases hf0 : f < 0
    · exact (rprogram_fault1 die block page f a bs.length cap2 w hG h ho' hh hp.1 hp.2 hf0).mono fun e w' ⟨h1, h2⟩ => ⟨h1, hb h2⟩
    · exact (rprogram_fault2 die block page f a bs.length cap2 w hG h ho' hh hp.1 hp.2 (by omega) (by omega)).mono fun e w' ⟨h1, h2⟩ => ⟨h1, hb h2⟩
  replace hf := Classical.not_not.1 hf
  rw [if_neg (fun e => e.elim (fun e => e hp) (fun e => e hf))]
  by_cases hn : ¬ (bs.length = Y)
  · rw [if_pos hn]
    exact (rprogram_shape die block page f a bs.length cap2 w hG h ho' hh hp.1 hp.2 hf.1 hf.2 hn).mono fun e w' ⟨h1, h2⟩ => ⟨h1, hb h2⟩
  replace hn := Classical.not_not.1 hn
  rw [if_neg (fun e => e hn)]
  by_cases hbd : s.bad (kOf B die block) = true
  · rw [if_pos hbd]
    exact (rprogram_bad die block page f a bs.length cap2 w hG h ho' hh hp.1 hp.2 hf.1 hf.2 hn hbd).mono fun e w' ⟨h1, h2⟩ => ⟨h1, hb h2⟩
  rw [if_neg hbd]
  have hbd' : s.bad (kOf B die block) = false := by simpa using hbd
  by_cases hx : ¬ (page = (s.next (kOf B die block) : Int))
  · rw [if_pos hx]
    exact (rprogram_order die block page f a bs.length cap2 w hG h ho' hh hp.1 hp.2 hf.1 hf.2 hn hbd' hx).mono fun e w' ⟨h1, h2⟩ => ⟨h1, hb h2⟩
  replace hx := Classical.not_not.1 hx
  rw [if_neg (fun e => e hx)]
  have hy0 := hG.y0
  rcases hL with hL | ⟨sb, so, rfl, hL⟩
  · rw [hL] at hn; simp at hn; omega
  have hh' : Here D B die block := hh
  obtain ⟨d, b, rfl, rfl, hd, hb', hk, hlt⟩ := hh'.nat
  rw [hk] at hx hbd' ⊢
  obtain ⟨p, rfl⟩ : ∃ p : Nat, page = p := ⟨page.toNat, by omega⟩
  have hp' : p < P := by omega
  have hx' : s.next (d * B + b) = p := by omega
  rw [show (p : Int).toNat = p from rfl]
  have hnm := hsb sb so rfl (fun e => by rw [e] at hn; simp at hn; omega)
  by_cases f0 : f = 0
  · subst f0
    rw [if_pos rfl, hn]
    exact rprogram_fine d b p sb so cap2 bs w hG h ho' hd hb' hp' hn hL hnm hbd' hx'
  rw [if_neg f0]
  by_cases f1 : f = 1
  · subst f1
    rw [if_pos rfl, hn]
    exact rprogram_fail d b p sb so cap2 bs w hG h ho' hd hb' hp' hn hL hnm hbd' hx'
  rw [if_neg f1]
  obtain rfl : f = 2 := by omega
  rw [hn]
  exact rprogram_torn d b p sb so cap2 bs w hG h ho' hd hb' hp' hn hL hnm hbd' hx'
theorem rerase_any {D B P Y rb ab nb wb db cap : Nat} {s : St} (die block f : Int) (w : World) (hG : Geo D B P Y) (h : RH D B P Y w rb ab nb wb db cap s) (hwr : ∀ k, s.wear k < 4611686018427387904) :
    Calls Tryd.prog 28 #[.pointer (some ⟨rb, 0, none⟩), .int .i64 die, .int .i64 block, .int .i64 f] w fun e w' =>
      e = .returned (.int .i64 ((eraseF D B P Y s die block f).1 : Int)) ∧ RH D B P Y w' rb ab nb wb db cap (eraseF D B P Y s die block f).2 ∧ Keep (RMine rb ab nb wb db) w w' := by
  unfold eraseF
  by_cases ho : s.off = true
  · rw [if_pos ho]
    exact (rerase_off die block f w hG h ho).mono fun e w' ⟨h1, h2⟩ => ⟨h1, h2 ▸ h, h2 ▸ Keep.refl _ _⟩
  rw [if_neg ho]
  have ho' : s.off = false := by simpa using ho
  by_cases hh : ¬ (0 ≤ die ∧ die < D ∧ 0 ≤ block ∧ block < B)
  · rw [if_pos hh]
    exact (rerase_none die block f w hG h ho' hh).mono fun e w' ⟨h1, h2⟩ => ⟨h1, h2 ▸ h, h2 ▸ Keep.refl _ _⟩
  replace hh := Classical.not_not.1 hh
  rw [if_neg (fun e => e hh)]
  have hb : ∀ {w' : World}, Below w.heap.size w w' → RH D B P Y w' rb ab nb wb db cap s ∧ Keep (RMine rb ab nb wb db) w w' := fun hb => ⟨h.below hG hb, Keep.of_below hb⟩
  by_cases hf : ¬ (0 ≤ f ∧ f ≤ 2)
  · rw [if_pos hf]
    by_cases hf0 : f < 0
    · exact (rerase_fault1 die block f w hG h ho' hh hf0).mono fun e w' ⟨h1, h2⟩ => ⟨h1, hb h2⟩
    · exact (rerase_fault2 die block f w hG h ho' hh (by omega) (by omega)).mono fun e w' ⟨h1, h2⟩ => ⟨h1, hb h2⟩
  replace hf := Classical.not_not.1 hf
  rw [if_neg (fun e => e hf)]
  by_cases hbd : s.bad (kOf B die block) = true
  · rw [if_pos hbd]
    exact (rerase_bad die block f w hG h ho' hh hf.1 hf.2 hbd).mono fun e w' ⟨h1, h2⟩ => ⟨h1, hb h2⟩
  rw [if_neg hbd]
  have hbd' : s.bad (kOf B die block) = false := by simpa using hbd
  have hh' : Here D B die block := hh
  obtain ⟨d, b, rfl, rfl, hd, hb', hk, hlt⟩ := hh'.nat
  rw [hk] at hbd' ⊢
  by_cases f0 : f = 0
  · subst f0
    rw [if_pos rfl]
    exact rerase_fine d b w hG h ho' hd hb' hbd' (hwr _)
  rw [if_neg f0]
  by_cases f1 : f = 1
  · subst f1
    rw [if_pos rfl]
    exact rerase_fail d b w hG h ho' hd hb' hbd' (hwr _)
  rw [if_neg f1]
  obtain rfl : f = 2 := by omega
  exact rerase_torn d b w hG h ho' hd hb' hbd' (hwr _)
end Go.Proofs.YtjeelaaimhckhabDoor

/-
  What Program and Erase answer and what becomes of a chip, as plain functions of its state; the calls give just that.
-/
import Derived.Test.YtjeelaaimhckhabDoorNew
import Derived.Test.YtjeelaaimhckhabDoorProgram
import Derived.Test.YtjeelaaimhckhabDoorErase
import Derived.Test.YtjeelaaimhckhabDoorTold
namespace Go.Proofs.YtjeelaaimhckhabDoor
open Go.RowKit
set_option linter.unusedVariables false

/-- An error as a value. -/
def errI (n : Nat) : Value := if n = 0 then .nilIface else .iface 30 (.int .i64 (n : Int))
theorem errI_zero : errI 0 = .nilIface := rfl
def progF (D B P Y : Nat) (s : St) (die block page : Int) (bs : List Nat) (f : Int) : Nat × St :=
  if s.off = true then (7, s)
  else if ¬ (0 ≤ die ∧ die < D ∧ 0 ≤ block ∧ block < B) then (1, s)
  else if ¬ (0 ≤ page ∧ page < P) ∨ ¬ (0 ≤ f ∧ f ≤ 2) then (1, s)
  else if bs.length ≠ Y then (2, s)
  else if s.bad (kOf B die block) = true then (6, s)
  else if page ≠ (s.next (kOf B die block) : Int) then (5, s)
  else if f = 0 then (0, putSt s (kOf B die block) page.toNat Y bs)
  else if f = 1 then (6, putSt s (kOf B die block) page.toNat Y (bs.take (Y / 2)))
  else (7, { putSt s (kOf B die block) page.toNat Y (bs.take (Y / 2)) with off := true })
def eraseF (D B P Y : Nat) (s : St) (die block f : Int) : Nat × St :=
  if s.off = true then (7, s)
  else if ¬ (0 ≤ die ∧ die < D ∧ 0 ≤ block ∧ block < B) then (1, s)
  else if ¬ (0 ≤ f ∧ f ≤ 2) then (1, s)
  else if s.bad (kOf B die block) = true then (6, s)
  else if f = 0 then (0, { s with bytes := upd s.bytes (kOf B die block) (List.replicate (P * Y) 255), next := upd s.next (kOf B die block) 0, wear := upd s.wear (kOf B die block) (s.wear (kOf B die block) + 1) })
  else if f = 1 then (6, { s with bad := upd s.bad (kOf B die block) true })
  else (7, { s with off := true, bytes := upd s.bytes (kOf B die block) (List.replicate (P * Y) 0), next := upd s.next (kOf B die block) P, wear := upd s.wear (kOf B die block) (s.wear (kOf B die block) + 1) })
theorem program_any {D B P Y cb bb : Nat} {pb : Nat → Nat} {s : St} (die block page f : Int) (a : Option Addr) (bs : List Nat) (cap : Nat) (w : World) (hG : Geo D B P Y) (h : CH D B P Y w cb bb pb s) (hA : AllB bs) (hc : bs.length ≤ cap) (hL : Lies w a bs) :
    Calls Tryd.prog 15 #[.pointer (some ⟨cb, 0, none⟩), .int .i64 die, .int .i64 block, .int .i64 page, .slice a bs.length cap, .int .i64 f] w fun e w' =>
      e = .returned (errI (progF D B P Y s die block page bs f).1) ∧ CH D B P Y w' cb bb pb (progF D B P Y s die block page bs f).2 ∧ Keep (Mine (D * B) cb bb pb) w w' := by
  unfold progF
  by_cases ho : s.off = true
  · rw [if_pos ho]
    exact (program_off die block page f a bs.length cap w hG h ho).mono fun e w' ⟨h1, h2⟩ => ⟨h1, h2 ▸ h, h2 ▸ Keep.refl _ _⟩
  rw [if_neg ho]
  have ho' : s.off = false := by simpa using ho
  by_cases hh : ¬ (0 ≤ die ∧ die < D ∧ 0 ≤ block ∧ block < B)
  · rw [if_pos hh]
    exact (program_none die block page f a bs.length cap w hG h ho' hh).mono fun e w' ⟨h1, h2⟩ => ⟨h1, h2 ▸ h, h2 ▸ Keep.refl _ _⟩
  replace hh := Classical.not_not.1 hh
  rw [if_neg (fun e => e hh)]
  have hb : ∀ {w' : World}, Below w.heap.size w w' → CH D B P Y w' cb bb pb s ∧ Keep (Mine (D * B) cb bb pb) w w' := fun hb => ⟨h.below hG.n.1 hb, Keep.of_below hb⟩
  by_cases hp : ¬ (0 ≤ page ∧ page < P)
  · rw [if_pos (Or.inl hp)]
    exact (program_page die block page f a bs.length cap w hG h ho' hh hp).mono fun e w' ⟨h1, h2⟩ => ⟨h1, hb h2⟩
  replace hp := Classical.not_not.1 hp
  by_cases hf : ¬ (0 ≤ f ∧ f ≤ 2)
  · rw [if_pos (Or.inr hf)]
    exact (program_fault die block page f a bs.length cap w hG h ho' hh hp hf).mono fun e w' ⟨h1, h2⟩ => ⟨h1, hb h2⟩
  replace hf := Classical.not_not.1 hf
  rw [if_neg (fun e => e.elim (fun e => e hp) (fun e => e hf))]
  by_cases hn : ¬ (bs.length = Y)
  · rw [if_pos hn]
    exact (program_shape die block page f a bs.length cap w hG h ho' hh hp hf hn).mono fun e w' ⟨h1, h2⟩ => ⟨h1, hb h2⟩
  replace hn := Classical.not_not.1 hn
  rw [if_neg (fun e => e hn)]
  by_cases hbd : s.bad (kOf B die block) = true
  · rw [if_pos hbd]
    exact (program_bad die block page f a bs.length cap w hG h ho' hh hp hf hn hbd).mono fun e w' ⟨h1, h2⟩ => ⟨h1, hb h2⟩
  rw [if_neg hbd]
  have hbd' : s.bad (kOf B die block) = false := by simpa using hbd
  by_cases hx : ¬ (page = (s.next (kOf B die block) : Int))
  · rw [if_pos hx]
    exact (program_order die block page f a bs.length cap w hG h ho' hh hp hf hn hbd' hx).mono fun e w' ⟨h1, h2⟩ => ⟨h1, hb h2⟩
  replace hx := Classical.not_not.1 hx
  rw [if_neg (fun e => e hx)]
  have hy0 := hG.y0
  rcases hL with hL | ⟨ab, ao, rfl, hL⟩
  · rw [hL] at hn; simp at hn; omega
  have hh' : Here D B die block := hh
  obtain ⟨d, b, rfl, rfl, hd, hb', hk, hlt⟩ := hh'.nat
  rw [hk] at hx hbd' ⊢
  obtain ⟨p, rfl⟩ : ∃ p : Nat, page = p := ⟨page.toNat, by omega⟩
  have hp' : p < P := by omega
  have hx' : s.next (d * B + b) = p := by omega
  rw [show (p : Int).toNat = p from rfl]
  have hc' : Y ≤ cap := by omega
  by_cases f0 : f = 0
  · subst f0
    rw [if_pos rfl, hn]
    exact program_fine d b p ab ao cap bs w hG h ho' hd hb' hp' hn hA hc' hL hbd' hx'
  rw [if_neg f0]
  by_cases f1 : f = 1
  · subst f1
    rw [if_pos rfl, hn]
    exact program_fail d b p ab ao cap bs w hG h ho' hd hb' hp' hn hA hc' hL hbd' hx'
  rw [if_neg f1]
  obtain rfl : f = 2 := by omega
  rw [hn]
  exact program_torn d b p ab ao cap bs w hG h ho' hd hb' hp' hn hA hc' hL hbd' hx'
theorem erase_any {D B P Y cb bb : Nat} {pb : Nat → Nat} {s : St} (die block f : Int) (w : World) (hG : Geo D B P Y) (h : CH D B P Y w cb bb pb s) (hwr : ∀ k, s.wear k < 4611686018427387904) :
    Calls Tryd.prog 16 #[.pointer (some ⟨cb, 0, none⟩), .int .i64 die, .int .i64 block, .int .i64 f] w fun e w' =>
      e = .returned (errI (eraseF D B P Y s die block f).1) ∧ CH D B P Y w' cb bb pb (eraseF D B P Y s die block f).2 ∧ Keep (Mine (D * B) cb bb pb) w w' := by
  unfold eraseF
  by_cases ho : s.off = true
  · rw [if_pos ho]
    exact (erase_off die block f w hG h ho).mono fun e w' ⟨h1, h2⟩ => ⟨h1, h2 ▸ h, h2 ▸ Keep.refl _ _⟩
  rw [if_neg ho]
  have ho' : s.off = false := by simpa using ho
  by_cases hh : ¬ (0 ≤ die ∧ die < D ∧ 0 ≤ block ∧ block < B)
  · rw [if_pos hh]
    exact (erase_none die block f w hG h ho' hh).mono fun e w' ⟨h1, h2⟩ => ⟨h1, h2 ▸ h, h2 ▸ Keep.refl _ _⟩
  replace hh := Classical.not_not.1 hh
  rw [if_neg (fun e => e hh)]
  have hb : ∀ {w' : World}, Below w.heap.size w w' → CH D B P Y w' cb bb pb s ∧ Keep (Mine (D * B) cb bb pb) w w' := fun hb => ⟨h.below hG.n.1 hb, Keep.of_below hb⟩
  by_cases hf : ¬ (0 ≤ f ∧ f ≤ 2)
  · rw [if_pos hf]
    exact (erase_fault die block f w hG h ho' hh hf).mono fun e w' ⟨h1, h2⟩ => ⟨h1, hb h2⟩
  replace hf := Classical.not_not.1 hf
  rw [if_neg (fun e => e hf)]
  by_cases hbd : s.bad (kOf B die block) = true
  · rw [if_pos hbd]
    exact (erase_bad die block f w hG h ho' hh hf hbd).mono fun e w' ⟨h1, h2⟩ => ⟨h1, hb h2⟩
  rw [if_neg hbd]
  have hbd' : s.bad (kOf B die block) = false := by simpa using hbd
  by_cases f0 : f = 0
  · subst f0
    rw [if_pos rfl]
    exact erase_fine die block w hG h ho' hh hbd' (hwr _)
  rw [if_neg f0]
  by_cases f1 : f = 1
  · subst f1
    rw [if_pos rfl]
    exact erase_fail die block w hG h ho' hh hbd' (hwr _)
  rw [if_neg f1]
  obtain rfl : f = 2 := by omega
  exact erase_torn die block w hG h ho' hh hbd' (hwr _)
/-- What is told of a block. -/
def tellE (D B : Nat) (s : St) (die block : Int) : Nat :=
  if s.off = true then 7 else if ¬ (0 ≤ die ∧ die < D ∧ 0 ≤ block ∧ block < B) then 1 else 0
theorem same_err (n k : Nat) (w : World) (hE : EType w) (h : n = k) : Calls Tryd.prog 10 #[errI n, .int .i64 (k : Int)] w fun ev w' => ev = .returned (.bool true) ∧ Below w.heap.size w w' := by
  subst h
  by_cases h0 : n = 0
  · subst h0
    exact (error_nil 0 w).mono fun e w' ⟨h1, h2⟩ => ⟨h1, h2 ▸ Below.refl _ _⟩
  · unfold errI
    rw [if_neg h0]
    exact error_same n w hE
set_option maxHeartbeats 800000 in
theorem fact_any (w : World) (hE : EType w) : Calls Tryd.prog 14 #[] w fun e w' => e = .returned (.bool true) ∧ Below w.heap.size w w' := by
  have hG : Geo 1 2 2 8 := ⟨by omega, by omega, by omega, by omega, by omega, by omega, by omega, by omega, by omega⟩
  have mk : ∀ wz, (Instr.makeSlice 36 (.int .i64 8) (.int .i64 8)).run Tryd.prog wz = .ok (.slice (some ⟨wz.heap.size, 0, none⟩) 8 8) (wz.alloc (.cells (mkB 8) 5)) := fun wz => made_bytes 8 (by omega) wz
  have HG : Hid (Geo 1 2 2 8) := hG
  clear hG
  have HE : Hid (EType w) := hE
  clear hE
  go_enter Tryd.func14, Tryd.ntmps14
  go_wp2_with fail
  refine (new_yes w HG.out).mono ?_
  rintro e w1 ⟨cb, bb, pb, rfl, h1, hge, hb1⟩
  have H1 : Hid (CH 1 2 2 8 w1 cb bb pb (blank 16)) := h1
  clear h1 hge
  go_wp2_with fail
  have hbA : Below w1.heap.size w1 (w1.alloc (.cells (mkB 8) 5)) := (Below.refl _ _).alloc (Nat.le_refl _) _
  have h2 := H1.out.below (by omega) hbA
  have hL : Lies (w1.alloc (.cells (mkB 8) 5)) (some ⟨w1.heap.size, 0, none⟩) (List.replicate 8 0) := row_lies (t := 5) (heap_alloc_new w1 _)
  refine (program_order 0 0 1 0 (some ⟨w1.heap.size, 0, none⟩) 8 8 _ HG.out h2 rfl ⟨by omega, by omega, by omega, by omega⟩ ⟨by omega, by omega⟩ ⟨by omega, by omega⟩ rfl rfl (by show (1 : Int) ≠ ((0 : Nat) : Int); omega)).mono ?_
  rintro e w3 ⟨rfl, hb3⟩
  have hB : Below w.heap.size w w3 := (hb1.trans (hbA.mono hb1.size)).trans (hb3.mono (by have := hb1.size; have := hbA.size; omega))
  clear hb1 hbA h2 hL hb3 H1
  go_wp2_with fail
  refine (error_same 5 w3 (HE.out.below hB HE.out.pos)).mono ?_
  rintro e w4 ⟨rfl, hb4⟩
  go_wp2
  go_ret
  exact ⟨rfl, hB.trans (hb4.mono hB.size)⟩
end Go.Proofs.YtjeelaaimhckhabDoor

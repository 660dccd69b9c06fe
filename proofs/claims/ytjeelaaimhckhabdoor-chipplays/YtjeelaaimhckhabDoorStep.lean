/-
  What the call of granarylaw1.chipStep gives: true; the chip and the document's chip are again of one state.
-/
import Derived.Test.YtjeelaaimhckhabDoorRefSpec
namespace Go.Proofs.YtjeelaaimhckhabDoor
open Go.RowKit
set_option linter.unusedVariables false

/-- A copy of one call of a script, in a block of its own. -/
structure OBox (w : World) (b : Nat) (o : OpD) : Prop where
  c0 : w.cell? ⟨b, 0, none⟩ = some (.int .i64 o.kind)
  c1 : w.cell? ⟨b, 1, none⟩ = some (.int .i64 o.die)
  c2 : w.cell? ⟨b, 2, none⟩ = some (.int .i64 o.block)
  c3 : w.cell? ⟨b, 3, none⟩ = some (.int .i64 o.page)
  c4 : w.cell? ⟨b, 4, none⟩ = some (.slice o.a o.bs.length o.cap)
  c5 : w.cell? ⟨b, 5, none⟩ = some (.int .i64 o.fault)
theorem OBox.new (w : World) (o : OpD) : OBox (w.alloc (.cells #[.int .i64 o.kind, .int .i64 o.die, .int .i64 o.block, .int .i64 o.page, .slice o.a o.bs.length o.cap, .int .i64 o.fault] 38)) w.heap.size o :=
  ⟨by simp, by simp, by simp, by simp, by simp, by simp⟩
theorem OBox.keep {w w' : World} {b : Nat} {o : OpD} {S : Nat → Prop} (h : OBox w b o) (hk : Keep S w w') (hs : ¬ S b) : OBox w' b o := by
  have hc : ∀ q, w'.cell? ⟨b, q, none⟩ = w.cell? ⟨b, q, none⟩ := fun q => hk.cell (p := ⟨b, q, none⟩) (show b < w.heap.size from World.block_lt_of_cell? w ⟨b, 0, none⟩ h.c0) hs
  exact ⟨by rw [hc]; exact h.c0, by rw [hc]; exact h.c1, by rw [hc]; exact h.c2, by rw [hc]; exact h.c3, by rw [hc]; exact h.c4, by rw [hc]; exact h.c5⟩
theorem OBox.below {w w' : World} {b : Nat} {o : OpD} (h : OBox w b o) (hb : Below w.heap.size w w') : OBox w' b o := h.keep (S := fun _ => False) (Keep.of_below hb) (fun e => e)
/-- Both chips are of one state. -/
structure PB (D B P Y : Nat) (w : World) (cb bb : Nat) (pb : Nat → Nat) (rb ab nb wb db cap : Nat) (s : St) : Prop where
  ch : CH D B P Y w cb bb pb s
  rh : RH D B P Y w rb ab nb wb db cap s
theorem PB.below {D B P Y cb bb rb ab nb wb db cap : Nat} {pb : Nat → Nat} {w w' : World} {s : St} (h : PB D B P Y w cb bb pb rb ab nb wb db cap s) (hG : Geo D B P Y) (hb : Below w.heap.size w w') : PB D B P Y w' cb bb pb rb ab nb wb db cap s :=
  ⟨h.ch.below hG.n.1 hb, h.rh.below hG hb⟩
/-- They lie apart, behind what came in. -/
structure Sep (n cb bb : Nat) (pb : Nat → Nat) (rb ab nb wb db N0 : Nat) : Prop where
  ap : ∀ b, Mine n cb bb pb b → ¬ RMine rb ab nb wb db b
  m : ∀ b, Mine n cb bb pb b → N0 ≤ b
  r : ∀ b, RMine rb ab nb wb db b → N0 ≤ b
  p : 0 < N0
/-- A call's data lies in what came in. -/
structure Dat (w : World) (o : OpD) (N0 : Nat) : Prop where
  all : AllB o.bs
  lies : Lies w o.a o.bs
  fits : o.bs.length ≤ o.cap
  old : ∀ b off, o.a = some ⟨b, off, none⟩ → o.bs ≠ [] → b < N0
def StepPost (D B P Y cb bb : Nat) (pb : Nat → Nat) (rb ab nb wb db cap N0 m : Nat) (w : World) (e : Ending) (w' : World) : Prop :=
  e = .returned (.bool true) ∧ ∃ s', PB D B P Y w' cb bb pb rb ab nb wb db cap s' ∧ (∀ k, s'.wear k ≤ m + 1) ∧ Below N0 w w'
theorem Lies.keep2 {S : Nat → Prop} {w w' : World} {a : Option Addr} {bs : List Nat} (h : Lies w a bs) (hk : Keep S w w') (hs : ∀ b off, a = some ⟨b, off, none⟩ → bs ≠ [] → ¬ S b) : Lies w' a bs := by
  by_cases e : bs = []
  · exact Or.inl e
  · exact h.keep hk (fun b off hb => hs b off hb e)
set_option maxRecDepth 100000 in
set_option maxHeartbeats 8000000 in
theorem step_prog {D B P Y cb bb rb ab nb wb db cap N0 m : Nat} {pb : Nat → Nat} {s : St} (o : OpD) (w : World) (hG : Geo D B P Y) (hE : EType w) (hP : PB D B P Y w cb bb pb rb ab nb wb db cap s) (hS : Sep (D * B) cb bb pb rb ab nb wb db N0) (hN : N0 ≤ w.heap.size) (hD : Dat w o N0) (hw : ∀ k, s.wear k ≤ m) (hm : m ≤ 140737488351232) (hk : o.kind = 1) :
    Calls Tryd.prog 12 #[.pointer (some ⟨cb, 0, none⟩), .pointer (some ⟨rb, 0, none⟩), .agg #[.int .i64 o.kind, .int .i64 o.die, .int .i64 o.block, .int .i64 o.page, .slice o.a o.bs.length o.cap, .int .i64 o.fault]] w fun e w' => StepPost D B P Y cb bb pb rb ab nb wb db cap N0 m w e w' := by
  have f1 : (o.kind == 1) = true := beq_iff_eq.2 hk
  clear hk
  have HBd : Hid (∀ k, s.wear k < 4611686018427387904) := fun k => by have := hw k; omega
  have HDN : Hid (∀ b off, o.a = some ⟨b, off, none⟩ → o.bs ≠ [] → ¬ RMine rb ab nb wb db b) := fun b off e e2 hr => by have := hD.old b off e e2; have := hS.r b hr; omega
  have HG : Hid (Geo D B P Y) := hG
  have HE : Hid (EType w) := hE
  have HS : Hid (Sep (D * B) cb bb pb rb ab nb wb db N0) := hS
  have HN : Hid (N0 ≤ w.heap.size) := hN
  have HD : Hid (Dat w o N0) := hD
  have HW : Hid ((∀ k, s.wear k ≤ m) ∧ m ≤ 140737488351232) := ⟨hw, hm⟩
  have HP0 : Hid (PB D B P Y w cb bb pb rb ab nb wb db cap s) := hP
  have HMb : Hid (¬ Mine (D * B) cb bb pb w.heap.size ∧ ¬ RMine rb ab nb wb db w.heap.size) := ⟨fun h => Nat.lt_irrefl _ (hP.ch.lt hG.n.1 _ h), fun h => Nat.lt_irrefl _ (hP.rh.lt hG _ h)⟩
  have hOB := OBox.new w o
  have hbA : Below w.heap.size w (w.alloc (.cells #[.int .i64 o.kind, .int .i64 o.die, .int .i64 o.block, .int .i64 o.page, .slice o.a o.bs.length o.cap, .int .i64 o.fault] 38)) := (Below.refl _ _).alloc (Nat.le_refl _) _
  have z0 := hOB.c0
  have z1 := hOB.c1
  have z2 := hOB.c2
  have z3 := hOB.c3
  have z4 := hOB.c4
  have z5 := hOB.c5
  clear hG hE hP hS hN hD hw hm
  go_enter Tryd.func12, Tryd.ntmps12
  go_wp2_with fail
  generalize w.alloc (.cells #[.int .i64 o.kind, .int .i64 o.die, .int .i64 o.block, .int .i64 o.page, .slice o.a o.bs.length o.cap, .int .i64 o.fault] 38) = w1 at hOB hbA z0 z1 z2 z3 z4 z5 ⊢
  have HB1 : Hid (Below N0 w w1 ∧ PB D B P Y w1 cb bb pb rb ab nb wb db cap s ∧ OBox w1 w.heap.size o ∧ Lies w1 o.a o.bs) := ⟨hbA.mono HN.out, HP0.out.below HG.out hbA, hOB, HD.out.lies.below hbA⟩
  clear hOB hbA z0 z1 z2 z3 z4 z5
  refine (program_any o.die o.block o.page o.fault o.a o.bs o.cap w1 HG.out HB1.out.2.1.ch HD.out.all HD.out.fits HB1.out.2.2.2).mono ?_
  rintro e w2 ⟨rfl, h2, hk2⟩
  have HWR : Hid (∀ k, (progF D B P Y s o.die o.block o.page o.bs o.fault).2.wear k ≤ m + 1) := (fun k => by rw [(progF_wear ..).1]; exact Nat.le_succ_of_le (HW.out.1 k))
  have HB2 : Hid (Below N0 w w2 ∧ CH D B P Y w2 cb bb pb (progF D B P Y s o.die o.block o.page o.bs o.fault).2 ∧ RH D B P Y w2 rb ab nb wb db cap s ∧ OBox w2 w.heap.size o ∧ Lies w2 o.a o.bs) :=
    ⟨HB1.out.1.trans (hk2.below (Nat.le_trans HN.out HB1.out.1.size) HS.out.m), h2, HB1.out.2.1.rh.keep HG.out hk2 (fun b hb hm => HS.out.ap b hm hb), HB1.out.2.2.1.keep hk2 HMb.out.1, HB1.out.2.2.2.keep2 hk2 (fun b off e e2 hm => by have := HD.out.old b off e e2; have := HS.out.m b hm; omega)⟩
  clear h2 hk2
  have z0 := HB2.out.2.2.2.1.c0
  have z1 := HB2.out.2.2.2.1.c1
  have z2 := HB2.out.2.2.2.1.c2
  have z3 := HB2.out.2.2.2.1.c3
  have z4 := HB2.out.2.2.2.1.c4
  have z5 := HB2.out.2.2.2.1.c5
  go_wp2_with fail
  refine (rprogram_any o.die o.block o.page o.fault o.a o.bs o.cap w2 HG.out HB2.out.2.2.1 HB2.out.2.2.2.2 (fun b off e => HDN.out b off e)).mono ?_
  rintro e w3 ⟨rfl, h3, hk3⟩
  have HB3 : Hid (Below N0 w w3 ∧ PB D B P Y w3 cb bb pb rb ab nb wb db cap (progF D B P Y s o.die o.block o.page o.bs o.fault).2) := ⟨HB2.out.1.trans (hk3.below (Nat.le_trans HN.out HB2.out.1.size) HS.out.r), HB2.out.2.1.keep HG.out.n.1 hk3 (fun b hb hr => HS.out.ap b hb hr), h3⟩
  clear h3 hk3 HB2
  clear z0 z1 z2 z3 z4 z5
  generalize progF D B P Y s o.die o.block o.page o.bs o.fault = res at *
  go_wp2_with fail
  refine (same_err res.1 res.1 w3 (HE.out.below HB3.out.1 HS.out.p) rfl).mono ?_
  rintro e w4 ⟨rfl, hb4⟩
  have HF : Hid (StepPost D B P Y cb bb pb rb ab nb wb db cap N0 m w (.returned (.bool true)) w4) := ⟨rfl, res.2, HB3.out.2.below HG.out hb4, HWR.out, HB3.out.1.trans (hb4.mono (Nat.le_trans HN.out HB3.out.1.size))⟩
  clear hb4 HB3
  go_wp2
  go_ret
  exact HF.out
set_option maxRecDepth 100000 in
set_option maxHeartbeats 8000000 in
theorem step_erase {D B P Y cb bb rb ab nb wb db cap N0 m : Nat} {pb : Nat → Nat} {s : St} (o : OpD) (w : World) (hG : Geo D B P Y) (hE : EType w) (hP : PB D B P Y w cb bb pb rb ab nb wb db cap s) (hS : Sep (D * B) cb bb pb rb ab nb wb db N0) (hN : N0 ≤ w.heap.size) (hD : Dat w o N0) (hw : ∀ k, s.wear k ≤ m) (hm : m ≤ 140737488351232) (hk : o.kind = 3) :
    Calls Tryd.prog 12 #[.pointer (some ⟨cb, 0, none⟩), .pointer (some ⟨rb, 0, none⟩), .agg #[.int .i64 o.kind, .int .i64 o.die, .int .i64 o.block, .int .i64 o.page, .slice o.a o.bs.length o.cap, .int .i64 o.fault]] w fun e w' => StepPost D B P Y cb bb pb rb ab nb wb db cap N0 m w e w' := by
  have f1 : (o.kind == 1) = false := by rw [hk]; rfl
  have f2 : (o.kind == 2) = false := by rw [hk]; rfl
  have f3 : (o.kind == 3) = true := beq_iff_eq.2 hk
  clear hk
  have HBd : Hid (∀ k, s.wear k < 4611686018427387904) := fun k => by have := hw k; omega
  have HDN : Hid (∀ b off, o.a = some ⟨b, off, none⟩ → o.bs ≠ [] → ¬ RMine rb ab nb wb db b) := fun b off e e2 hr => by have := hD.old b off e e2; have := hS.r b hr; omega
  have HG : Hid (Geo D B P Y) := hG
  have HE : Hid (EType w) := hE
  have HS : Hid (Sep (D * B) cb bb pb rb ab nb wb db N0) := hS
  have HN : Hid (N0 ≤ w.heap.size) := hN
  have HD : Hid (Dat w o N0) := hD
  have HW : Hid ((∀ k, s.wear k ≤ m) ∧ m ≤ 140737488351232) := ⟨hw, hm⟩
  have HP0 : Hid (PB D B P Y w cb bb pb rb ab nb wb db cap s) := hP
  have HMb : Hid (¬ Mine (D * B) cb bb pb w.heap.size ∧ ¬ RMine rb ab nb wb db w.heap.size) := ⟨fun h => Nat.lt_irrefl _ (hP.ch.lt hG.n.1 _ h), fun h => Nat.lt_irrefl _ (hP.rh.lt hG _ h)⟩
  have hOB := OBox.new w o
  have hbA : Below w.heap.size w (w.alloc (.cells #[.int .i64 o.kind, .int .i64 o.die, .int .i64 o.block, .int .i64 o.page, .slice o.a o.bs.length o.cap, .int .i64 o.fault] 38)) := (Below.refl _ _).alloc (Nat.le_refl _) _
  have z0 := hOB.c0
  have z1 := hOB.c1
  have z2 := hOB.c2
  have z3 := hOB.c3
  have z4 := hOB.c4
  have z5 := hOB.c5
  clear hG hE hP hS hN hD hw hm
  go_enter Tryd.func12, Tryd.ntmps12
  go_wp2_with fail
  generalize w.alloc (.cells #[.int .i64 o.kind, .int .i64 o.die, .int .i64 o.block, .int .i64 o.page, .slice o.a o.bs.length o.cap, .int .i64 o.fault] 38) = w1 at hOB hbA z0 z1 z2 z3 z4 z5 ⊢
  have HB1 : Hid (Below N0 w w1 ∧ PB D B P Y w1 cb bb pb rb ab nb wb db cap s ∧ OBox w1 w.heap.size o ∧ Lies w1 o.a o.bs) := ⟨hbA.mono HN.out, HP0.out.below HG.out hbA, hOB, HD.out.lies.below hbA⟩
  clear hOB hbA z0 z1 z2 z3 z4 z5
  refine (erase_any o.die o.block o.fault w1 HG.out HB1.out.2.1.ch HBd.out).mono ?_
  rintro e w2 ⟨rfl, h2, hk2⟩
  have HWR : Hid (∀ k, (eraseF D B P Y s o.die o.block o.fault).2.wear k ≤ m + 1) := (eraseF_wear D B P Y s o.die o.block o.fault m HW.out.1)
  have HB2 : Hid (Below N0 w w2 ∧ CH D B P Y w2 cb bb pb (eraseF D B P Y s o.die o.block o.fault).2 ∧ RH D B P Y w2 rb ab nb wb db cap s ∧ OBox w2 w.heap.size o ∧ Lies w2 o.a o.bs) :=
    ⟨HB1.out.1.trans (hk2.below (Nat.le_trans HN.out HB1.out.1.size) HS.out.m), h2, HB1.out.2.1.rh.keep HG.out hk2 (fun b hb hm => HS.out.ap b hm hb), HB1.out.2.2.1.keep hk2 HMb.out.1, HB1.out.2.2.2.keep2 hk2 (fun b off e e2 hm => by have := HD.out.old b off e e2; have := HS.out.m b hm; omega)⟩
  clear h2 hk2
  have z0 := HB2.out.2.2.2.1.c0
  have z1 := HB2.out.2.2.2.1.c1
  have z2 := HB2.out.2.2.2.1.c2
  have z3 := HB2.out.2.2.2.1.c3
  have z4 := HB2.out.2.2.2.1.c4
  have z5 := HB2.out.2.2.2.1.c5
  go_wp2_with fail
  refine (rerase_any o.die o.block o.fault w2 HG.out HB2.out.2.2.1 HBd.out).mono ?_
  rintro e w3 ⟨rfl, h3, hk3⟩
  have HB3 : Hid (Below N0 w w3 ∧ PB D B P Y w3 cb bb pb rb ab nb wb db cap (eraseF D B P Y s o.die o.block o.fault).2) := ⟨HB2.out.1.trans (hk3.below (Nat.le_trans HN.out HB2.out.1.size) HS.out.r), HB2.out.2.1.keep HG.out.n.1 hk3 (fun b hb hr => HS.out.ap b hb hr), h3⟩
  clear h3 hk3 HB2
  clear z0 z1 z2 z3 z4 z5
  generalize eraseF D B P Y s o.die o.block o.fault = res at *
  go_wp2_with fail
  refine (same_err res.1 res.1 w3 (HE.out.below HB3.out.1 HS.out.p) rfl).mono ?_
  rintro e w4 ⟨rfl, hb4⟩
  have HF : Hid (StepPost D B P Y cb bb pb rb ab nb wb db cap N0 m w (.returned (.bool true)) w4) := ⟨rfl, res.2, HB3.out.2.below HG.out hb4, HWR.out, HB3.out.1.trans (hb4.mono (Nat.le_trans HN.out HB3.out.1.size))⟩
  clear hb4 HB3
  go_wp2
  go_ret
  exact HF.out
set_option maxRecDepth 100000 in
set_option maxHeartbeats 8000000 in
theorem step_on {D B P Y cb bb rb ab nb wb db cap N0 m : Nat} {pb : Nat → Nat} {s : St} (o : OpD) (w : World) (hG : Geo D B P Y) (hE : EType w) (hP : PB D B P Y w cb bb pb rb ab nb wb db cap s) (hS : Sep (D * B) cb bb pb rb ab nb wb db N0) (hN : N0 ≤ w.heap.size) (hD : Dat w o N0) (hw : ∀ k, s.wear k ≤ m) (hm : m ≤ 140737488351232) (hk1 : o.kind ≠ 1) (hk2 : o.kind ≠ 2) (hk3 : o.kind ≠ 3) (hk4 : o.kind ≠ 4) :
    Calls Tryd.prog 12 #[.pointer (some ⟨cb, 0, none⟩), .pointer (some ⟨rb, 0, none⟩), .agg #[.int .i64 o.kind, .int .i64 o.die, .int .i64 o.block, .int .i64 o.page, .slice o.a o.bs.length o.cap, .int .i64 o.fault]] w fun e w' => StepPost D B P Y cb bb pb rb ab nb wb db cap N0 m w e w' := by
  have f1 : (o.kind == 1) = false := beq_eq_false_iff_ne.2 hk1
  have f2 : (o.kind == 2) = false := beq_eq_false_iff_ne.2 hk2
  have f3 : (o.kind == 3) = false := beq_eq_false_iff_ne.2 hk3
  have f4 : (o.kind == 4) = false := beq_eq_false_iff_ne.2 hk4
  clear hk1 hk2 hk3 hk4
  have HG : Hid (Geo D B P Y) := hG
  have HE : Hid (EType w) := hE
  have HS : Hid (Sep (D * B) cb bb pb rb ab nb wb db N0) := hS
  have HN : Hid (N0 ≤ w.heap.size) := hN
  have HD : Hid (Dat w o N0) := hD
  have HW : Hid ((∀ k, s.wear k ≤ m) ∧ m ≤ 140737488351232) := ⟨hw, hm⟩
  have HP0 : Hid (PB D B P Y w cb bb pb rb ab nb wb db cap s) := hP
  have HMb : Hid (¬ Mine (D * B) cb bb pb w.heap.size ∧ ¬ RMine rb ab nb wb db w.heap.size) := ⟨fun h => Nat.lt_irrefl _ (hP.ch.lt hG.n.1 _ h), fun h => Nat.lt_irrefl _ (hP.rh.lt hG _ h)⟩
  have hOB := OBox.new w o
  have hbA : Below w.heap.size w (w.alloc (.cells #[.int .i64 o.kind, .int .i64 o.die, .int .i64 o.block, .int .i64 o.page, .slice o.a o.bs.length o.cap, .int .i64 o.fault] 38)) := (Below.refl _ _).alloc (Nat.le_refl _) _
  have z0 := hOB.c0
  have z1 := hOB.c1
  have z2 := hOB.c2
  have z3 := hOB.c3
  have z4 := hOB.c4
  have z5 := hOB.c5
  clear hG hE hP hS hN hD hw hm
  go_enter Tryd.func12, Tryd.ntmps12
  go_wp2_with fail
  generalize w.alloc (.cells #[.int .i64 o.kind, .int .i64 o.die, .int .i64 o.block, .int .i64 o.page, .slice o.a o.bs.length o.cap, .int .i64 o.fault] 38) = w1 at hOB hbA z0 z1 z2 z3 z4 z5 ⊢
  have HB1 : Hid (Below N0 w w1 ∧ PB D B P Y w1 cb bb pb rb ab nb wb db cap s ∧ OBox w1 w.heap.size o ∧ Lies w1 o.a o.bs) := ⟨hbA.mono HN.out, HP0.out.below HG.out hbA, hOB, HD.out.lies.below hbA⟩
  clear hOB hbA z0 z1 z2 z3 z4 z5
  refine (on_any _ HB1.out.2.1.ch).mono ?_
  rintro e w2 ⟨rfl, h2, hk2⟩
  have HB2 : Hid (Below N0 w w2 ∧ CH D B P Y w2 cb bb pb { s with off := false } ∧ RH D B P Y w2 rb ab nb wb db cap s) :=
    ⟨HB1.out.1.trans (hk2.below (Nat.le_trans HN.out HB1.out.1.size) HS.out.m), h2, HB1.out.2.1.rh.keep HG.out hk2 (fun b hb hm => HS.out.ap b hm hb)⟩
  have c8 := HB2.out.2.2.c8
  have f8 := HB2.out.2.2.fr rb 8 (Or.inl rfl)
  have hk3 : Keep (RMine rb ab nb wb db) w2 (w2.setCell ⟨rb, 8, none⟩ (.bool false)) := (Keep.refl _ _).set (Or.inl rfl) _
  have HF : Hid (StepPost D B P Y cb bb pb rb ab nb wb db cap N0 m w (.returned (.bool true)) (w2.setCell ⟨rb, 8, none⟩ (.bool false))) :=
    ⟨rfl, { s with off := false }, ⟨HB2.out.2.1.keep HG.out.n.1 hk3 (fun b hb hr => HS.out.ap b hb hr), HB2.out.2.2.setOff false⟩, fun k => Nat.le_succ_of_le (HW.out.1 k), HB2.out.1.trans (hk3.below (Nat.le_trans HN.out HB2.out.1.size) HS.out.r)⟩
  clear h2 hk2 hk3 HB2
  go_wp2
  go_ret
  exact HF.out
set_option maxRecDepth 100000 in
set_option maxHeartbeats 8000000 in
theorem step_tell_off {D B P Y cb bb rb ab nb wb db cap N0 m : Nat} {pb : Nat → Nat} {s : St} (o : OpD) (w : World) (hG : Geo D B P Y) (hE : EType w) (hP : PB D B P Y w cb bb pb rb ab nb wb db cap s) (hS : Sep (D * B) cb bb pb rb ab nb wb db N0) (hN : N0 ≤ w.heap.size) (hD : Dat w o N0) (hw : ∀ k, s.wear k ≤ m) (hm : m ≤ 140737488351232) (hk : o.kind = 4) (ho : s.off = true) :
    Calls Tryd.prog 12 #[.pointer (some ⟨cb, 0, none⟩), .pointer (some ⟨rb, 0, none⟩), .agg #[.int .i64 o.kind, .int .i64 o.die, .int .i64 o.block, .int .i64 o.page, .slice o.a o.bs.length o.cap, .int .i64 o.fault]] w fun e w' => StepPost D B P Y cb bb pb rb ab nb wb db cap N0 m w e w' := by
  have f1 : (o.kind == 1) = false := by rw [hk]; rfl
  have f2 : (o.kind == 2) = false := by rw [hk]; rfl
  have f3 : (o.kind == 3) = false := by rw [hk]; rfl
  have f4 : (o.kind == 4) = true := beq_iff_eq.2 hk
  clear hk
  have HG : Hid (Geo D B P Y) := hG
  have HE : Hid (EType w) := hE
  have HS : Hid (Sep (D * B) cb bb pb rb ab nb wb db N0) := hS
  have HN : Hid (N0 ≤ w.heap.size) := hN
  have HD : Hid (Dat w o N0) := hD
  have HW : Hid ((∀ k, s.wear k ≤ m) ∧ m ≤ 140737488351232) := ⟨hw, hm⟩
  have HP0 : Hid (PB D B P Y w cb bb pb rb ab nb wb db cap s) := hP
  have HMb : Hid (¬ Mine (D * B) cb bb pb w.heap.size ∧ ¬ RMine rb ab nb wb db w.heap.size) := ⟨fun h => Nat.lt_irrefl _ (hP.ch.lt hG.n.1 _ h), fun h => Nat.lt_irrefl _ (hP.rh.lt hG _ h)⟩
  have hOB := OBox.new w o
  have hbA : Below w.heap.size w (w.alloc (.cells #[.int .i64 o.kind, .int .i64 o.die, .int .i64 o.block, .int .i64 o.page, .slice o.a o.bs.length o.cap, .int .i64 o.fault] 38)) := (Below.refl _ _).alloc (Nat.le_refl _) _
  have z0 := hOB.c0
  have z1 := hOB.c1
  have z2 := hOB.c2
  have z3 := hOB.c3
  have z4 := hOB.c4
  have z5 := hOB.c5
  clear hG hE hP hS hN hD hw hm
  go_enter Tryd.func12, Tryd.ntmps12
  go_wp2_with fail
  generalize w.alloc (.cells #[.int .i64 o.kind, .int .i64 o.die, .int .i64 o.block, .int .i64 o.page, .slice o.a o.bs.length o.cap, .int .i64 o.fault] 38) = w1 at hOB hbA z0 z1 z2 z3 z4 z5 ⊢
  have HB1 : Hid (Below N0 w w1 ∧ PB D B P Y w1 cb bb pb rb ab nb wb db cap s ∧ OBox w1 w.heap.size o ∧ Lies w1 o.a o.bs) := ⟨hbA.mono HN.out, HP0.out.below HG.out hbA, hOB, HD.out.lies.below hbA⟩
  clear hOB hbA z0 z1 z2 z3 z4 z5
  refine (rfault_off o.die o.block _ HB1.out.2.1.rh ho).mono ?_
  rintro e w2 ⟨rfl, rfl⟩
  have z0 := HB1.out.2.2.1.c0
  have z1 := HB1.out.2.2.1.c1
  have z2 := HB1.out.2.2.1.c2
  have z3 := HB1.out.2.2.1.c3
  have z4 := HB1.out.2.2.1.c4
  have z5 := HB1.out.2.2.1.c5
  go_wp2_with fail
  refine (next_off o.die o.block _ HB1.out.2.1.ch ho).mono ?_
  rintro e w3 ⟨rfl, rfl⟩
  go_wp2_with fail
  refine (wear_off o.die o.block _ HB1.out.2.1.ch ho).mono ?_
  rintro e w4 ⟨rfl, rfl⟩
  go_wp2_with fail
  refine (bad_off o.die o.block _ HB1.out.2.1.ch ho).mono ?_
  rintro e w5 ⟨rfl, rfl⟩
  clear z0 z1 z2 z3 z4 z5
  go_wp2_with fail
  refine (error_same 7 _ (HE.out.below HB1.out.1 HS.out.p)).mono ?_
  rintro e w6 ⟨rfl, hb6⟩
  have HB6 : Hid (Below N0 w w6 ∧ PB D B P Y w6 cb bb pb rb ab nb wb db cap s) := ⟨HB1.out.1.trans (hb6.mono (Nat.le_trans HN.out HB1.out.1.size)), HB1.out.2.1.below HG.out hb6⟩
  clear hb6 HB1
  go_wp2_with fail
  refine (error_same 7 _ (HE.out.below HB6.out.1 HS.out.p)).mono ?_
  rintro e w7 ⟨rfl, hb7⟩
  have HB7 : Hid (Below N0 w w7 ∧ PB D B P Y w7 cb bb pb rb ab nb wb db cap s) := ⟨HB6.out.1.trans (hb7.mono (Nat.le_trans HN.out HB6.out.1.size)), HB6.out.2.below HG.out hb7⟩
  clear hb7 HB6
  go_wp2_with fail
  refine (error_same 7 _ (HE.out.below HB7.out.1 HS.out.p)).mono ?_
  rintro e w8 ⟨rfl, hb8⟩
  have HF : Hid (StepPost D B P Y cb bb pb rb ab nb wb db cap N0 m w (.returned (.bool true)) w8) := ⟨rfl, s, HB7.out.2.below HG.out hb8, fun k => Nat.le_succ_of_le (HW.out.1 k), HB7.out.1.trans (hb8.mono (Nat.le_trans HN.out HB7.out.1.size))⟩
  clear hb8 HB7
  go_wp2
  go_ret
  exact HF.out
set_option maxRecDepth 100000 in
set_option maxHeartbeats 8000000 in
theorem step_tell_none {D B P Y cb bb rb ab nb wb db cap N0 m : Nat} {pb : Nat → Nat} {s : St} (o : OpD) (w : World) (hG : Geo D B P Y) (hE : EType w) (hP : PB D B P Y w cb bb pb rb ab nb wb db cap s) (hS : Sep (D * B) cb bb pb rb ab nb wb db N0) (hN : N0 ≤ w.heap.size) (hD : Dat w o N0) (hw : ∀ k, s.wear k ≤ m) (hm : m ≤ 140737488351232) (hk : o.kind = 4) (ho : s.off = false) (hno : ¬ Here D B o.die o.block) :
    Calls Tryd.prog 12 #[.pointer (some ⟨cb, 0, none⟩), .pointer (some ⟨rb, 0, none⟩), .agg #[.int .i64 o.kind, .int .i64 o.die, .int .i64 o.block, .int .i64 o.page, .slice o.a o.bs.length o.cap, .int .i64 o.fault]] w fun e w' => StepPost D B P Y cb bb pb rb ab nb wb db cap N0 m w e w' := by
  have f1 : (o.kind == 1) = false := by rw [hk]; rfl
  have f2 : (o.kind == 2) = false := by rw [hk]; rfl
  have f3 : (o.kind == 3) = false := by rw [hk]; rfl
  have f4 : (o.kind == 4) = true := beq_iff_eq.2 hk
  clear hk
  have HG : Hid (Geo D B P Y) := hG
  have HE : Hid (EType w) := hE
  have HS : Hid (Sep (D * B) cb bb pb rb ab nb wb db N0) := hS
  have HN : Hid (N0 ≤ w.heap.size) := hN
  have HD : Hid (Dat w o N0) := hD
  have HW : Hid ((∀ k, s.wear k ≤ m) ∧ m ≤ 140737488351232) := ⟨hw, hm⟩
  have HP0 : Hid (PB D B P Y w cb bb pb rb ab nb wb db cap s) := hP
  have HMb : Hid (¬ Mine (D * B) cb bb pb w.heap.size ∧ ¬ RMine rb ab nb wb db w.heap.size) := ⟨fun h => Nat.lt_irrefl _ (hP.ch.lt hG.n.1 _ h), fun h => Nat.lt_irrefl _ (hP.rh.lt hG _ h)⟩
  have hOB := OBox.new w o
  have hbA : Below w.heap.size w (w.alloc (.cells #[.int .i64 o.kind, .int .i64 o.die, .int .i64 o.block, .int .i64 o.page, .slice o.a o.bs.length o.cap, .int .i64 o.fault] 38)) := (Below.refl _ _).alloc (Nat.le_refl _) _
  have z0 := hOB.c0
  have z1 := hOB.c1
  have z2 := hOB.c2
  have z3 := hOB.c3
  have z4 := hOB.c4
  have z5 := hOB.c5
  clear hG hE hP hS hN hD hw hm
  go_enter Tryd.func12, Tryd.ntmps12
  go_wp2_with fail
  generalize w.alloc (.cells #[.int .i64 o.kind, .int .i64 o.die, .int .i64 o.block, .int .i64 o.page, .slice o.a o.bs.length o.cap, .int .i64 o.fault] 38) = w1 at hOB hbA z0 z1 z2 z3 z4 z5 ⊢
  have HB1 : Hid (Below N0 w w1 ∧ PB D B P Y w1 cb bb pb rb ab nb wb db cap s ∧ OBox w1 w.heap.size o ∧ Lies w1 o.a o.bs) := ⟨hbA.mono HN.out, HP0.out.below HG.out hbA, hOB, HD.out.lies.below hbA⟩
  clear hOB hbA z0 z1 z2 z3 z4 z5
  refine (rfault_none o.die o.block _ HB1.out.2.1.rh ho hno).mono ?_
  rintro e w2 ⟨rfl, rfl⟩
  have z0 := HB1.out.2.2.1.c0
  have z1 := HB1.out.2.2.1.c1
  have z2 := HB1.out.2.2.1.c2
  have z3 := HB1.out.2.2.1.c3
  have z4 := HB1.out.2.2.1.c4
  have z5 := HB1.out.2.2.1.c5
  go_wp2_with fail
  refine (next_none o.die o.block _ HG.out HB1.out.2.1.ch ho hno).mono ?_
  rintro e w3 ⟨rfl, rfl⟩
  go_wp2_with fail
  refine (wear_none o.die o.block _ HG.out HB1.out.2.1.ch ho hno).mono ?_
  rintro e w4 ⟨rfl, rfl⟩
  go_wp2_with fail
  refine (bad_none o.die o.block _ HG.out HB1.out.2.1.ch ho hno).mono ?_
  rintro e w5 ⟨rfl, rfl⟩
  clear z0 z1 z2 z3 z4 z5
  go_wp2_with fail
  refine (error_same 1 _ (HE.out.below HB1.out.1 HS.out.p)).mono ?_
  rintro e w6 ⟨rfl, hb6⟩
  have HB6 : Hid (Below N0 w w6 ∧ PB D B P Y w6 cb bb pb rb ab nb wb db cap s) := ⟨HB1.out.1.trans (hb6.mono (Nat.le_trans HN.out HB1.out.1.size)), HB1.out.2.1.below HG.out hb6⟩
  clear hb6 HB1
  go_wp2_with fail
  refine (error_same 1 _ (HE.out.below HB6.out.1 HS.out.p)).mono ?_
  rintro e w7 ⟨rfl, hb7⟩
  have HB7 : Hid (Below N0 w w7 ∧ PB D B P Y w7 cb bb pb rb ab nb wb db cap s) := ⟨HB6.out.1.trans (hb7.mono (Nat.le_trans HN.out HB6.out.1.size)), HB6.out.2.below HG.out hb7⟩
  clear hb7 HB6
  go_wp2_with fail
  refine (error_same 1 _ (HE.out.below HB7.out.1 HS.out.p)).mono ?_
  rintro e w8 ⟨rfl, hb8⟩
  have HF : Hid (StepPost D B P Y cb bb pb rb ab nb wb db cap N0 m w (.returned (.bool true)) w8) := ⟨rfl, s, HB7.out.2.below HG.out hb8, fun k => Nat.le_succ_of_le (HW.out.1 k), HB7.out.1.trans (hb8.mono (Nat.le_trans HN.out HB7.out.1.size))⟩
  clear hb8 HB7
  go_wp2
  go_ret
  exact HF.out
set_option maxRecDepth 100000 in
set_option maxHeartbeats 8000000 in
theorem step_tell_some {D B P Y cb bb rb ab nb wb db cap N0 m : Nat} {pb : Nat → Nat} {s : St} (o : OpD) (w : World) (hG : Geo D B P Y) (hE : EType w) (hP : PB D B P Y w cb bb pb rb ab nb wb db cap s) (hS : Sep (D * B) cb bb pb rb ab nb wb db N0) (hN : N0 ≤ w.heap.size) (hD : Dat w o N0) (hw : ∀ k, s.wear k ≤ m) (hm : m ≤ 140737488351232) (hk : o.kind = 4) (ho : s.off = false) (hh : Here D B o.die o.block) :
    Calls Tryd.prog 12 #[.pointer (some ⟨cb, 0, none⟩), .pointer (some ⟨rb, 0, none⟩), .agg #[.int .i64 o.kind, .int .i64 o.die, .int .i64 o.block, .int .i64 o.page, .slice o.a o.bs.length o.cap, .int .i64 o.fault]] w fun e w' => StepPost D B P Y cb bb pb rb ab nb wb db cap N0 m w e w' := by
  have f1 : (o.kind == 1) = false := by rw [hk]; rfl
  have f2 : (o.kind == 2) = false := by rw [hk]; rfl
  have f3 : (o.kind == 3) = false := by rw [hk]; rfl
  have f4 : (o.kind == 4) = true := beq_iff_eq.2 hk
  clear hk
  obtain ⟨d, b, hd0, hb0, hd, hb, hkk, hlt⟩ := hh.nat
  obtain ⟨k, HKK⟩ : ∃ k, Hid (kOf B o.die o.block = k) := ⟨_, rfl⟩
  have HKl : Hid (k < D * B) := by rw [← HKK.out]; exact hh.lt
  have hk64 : k < 64 := by have := hG.n.2; have := HKl.out; omega
  have HRF : Hid (∀ wz, RH D B P Y wz rb ab nb wb db cap s → Calls Tryd.prog 29 #[.pointer (some ⟨rb, 0, none⟩), .int .i64 o.die, .int .i64 o.block] wz fun e w' => e = .returned (.tuple #[.int .i64 (k : Int), .int .i64 0]) ∧ Below wz.heap.size wz w') := by
    intro wz hz
    have := rfault_some d b wz hG hz ho hd hb
    rw [← hd0, ← hb0, ← hkk, HKK.out] at this
    exact this
  have HH : Hid (Here D B o.die o.block) := hh
  clear hh hd0 hb0 hd hb hkk hlt
  have HG : Hid (Geo D B P Y) := hG
  have HE : Hid (EType w) := hE
  have HS : Hid (Sep (D * B) cb bb pb rb ab nb wb db N0) := hS
  have HN : Hid (N0 ≤ w.heap.size) := hN
  have HD : Hid (Dat w o N0) := hD
  have HW : Hid ((∀ k, s.wear k ≤ m) ∧ m ≤ 140737488351232) := ⟨hw, hm⟩
  have HP0 : Hid (PB D B P Y w cb bb pb rb ab nb wb db cap s) := hP
  have HMb : Hid (¬ Mine (D * B) cb bb pb w.heap.size ∧ ¬ RMine rb ab nb wb db w.heap.size) := ⟨fun h => Nat.lt_irrefl _ (hP.ch.lt hG.n.1 _ h), fun h => Nat.lt_irrefl _ (hP.rh.lt hG _ h)⟩
  have hOB := OBox.new w o
  have hbA : Below w.heap.size w (w.alloc (.cells #[.int .i64 o.kind, .int .i64 o.die, .int .i64 o.block, .int .i64 o.page, .slice o.a o.bs.length o.cap, .int .i64 o.fault] 38)) := (Below.refl _ _).alloc (Nat.le_refl _) _
  have z0 := hOB.c0
  have z1 := hOB.c1
  have z2 := hOB.c2
  have z3 := hOB.c3
  have z4 := hOB.c4
  have z5 := hOB.c5
  clear hG hE hP hS hN hD hw hm
  go_enter Tryd.func12, Tryd.ntmps12
  go_wp2_with fail
  generalize w.alloc (.cells #[.int .i64 o.kind, .int .i64 o.die, .int .i64 o.block, .int .i64 o.page, .slice o.a o.bs.length o.cap, .int .i64 o.fault] 38) = w1 at hOB hbA z0 z1 z2 z3 z4 z5 ⊢
  have HB1 : Hid (Below N0 w w1 ∧ PB D B P Y w1 cb bb pb rb ab nb wb db cap s ∧ OBox w1 w.heap.size o ∧ Lies w1 o.a o.bs) := ⟨hbA.mono HN.out, HP0.out.below HG.out hbA, hOB, HD.out.lies.below hbA⟩
  clear hOB hbA z0 z1 z2 z3 z4 z5
  refine (HRF.out _ HB1.out.2.1.rh).mono ?_
  rintro e w2 ⟨rfl, hb2⟩
  have HB2 : Hid (Below N0 w w2 ∧ PB D B P Y w2 cb bb pb rb ab nb wb db cap s ∧ OBox w2 w.heap.size o) := ⟨HB1.out.1.trans (hb2.mono (Nat.le_trans HN.out HB1.out.1.size)), HB1.out.2.1.below HG.out hb2, HB1.out.2.2.1.below hb2⟩
  clear hb2 HB1
  have z0 := HB2.out.2.2.c0
  have z1 := HB2.out.2.2.c1
  have z2 := HB2.out.2.2.c2
  have z3 := HB2.out.2.2.c3
  have z4 := HB2.out.2.2.c4
  have z5 := HB2.out.2.2.c5
  go_wp2_with fail
  refine (next_some o.die o.block _ HG.out HB2.out.2.1.ch ho HH.out).mono ?_
  rintro e w3 ⟨rfl, hb3⟩
  have HB3 : Hid (Below N0 w w3 ∧ PB D B P Y w3 cb bb pb rb ab nb wb db cap s ∧ OBox w3 w.heap.size o) := ⟨HB2.out.1.trans (hb3.mono (Nat.le_trans HN.out HB2.out.1.size)), HB2.out.2.1.below HG.out hb3, HB2.out.2.2.below hb3⟩
  clear hb3 HB2
  clear z0 z1 z2 z3 z4 z5
  have z0 := HB3.out.2.2.c0
  have z1 := HB3.out.2.2.c1
  have z2 := HB3.out.2.2.c2
  have z3 := HB3.out.2.2.c3
  have z4 := HB3.out.2.2.c4
  have z5 := HB3.out.2.2.c5
  go_wp2_with fail
  refine (wear_some o.die o.block _ HG.out HB3.out.2.1.ch ho HH.out).mono ?_
  rintro e w4 ⟨rfl, hb4⟩
  have HB4 : Hid (Below N0 w w4 ∧ PB D B P Y w4 cb bb pb rb ab nb wb db cap s ∧ OBox w4 w.heap.size o) := ⟨HB3.out.1.trans (hb4.mono (Nat.le_trans HN.out HB3.out.1.size)), HB3.out.2.1.below HG.out hb4, HB3.out.2.2.below hb4⟩
  clear hb4 HB3
  clear z0 z1 z2 z3 z4 z5
  have z0 := HB4.out.2.2.c0
  have z1 := HB4.out.2.2.c1
  have z2 := HB4.out.2.2.c2
  have z3 := HB4.out.2.2.c3
  have z4 := HB4.out.2.2.c4
  have z5 := HB4.out.2.2.c5
  go_wp2_with fail
  refine (bad_some o.die o.block _ HG.out HB4.out.2.1.ch ho HH.out).mono ?_
  rintro e w5 ⟨rfl, hb5⟩
  have HB5 : Hid (Below N0 w w5 ∧ PB D B P Y w5 cb bb pb rb ab nb wb db cap s) := ⟨HB4.out.1.trans (hb5.mono (Nat.le_trans HN.out HB4.out.1.size)), HB4.out.2.1.below HG.out hb5⟩
  clear hb5 HB4
  clear z0 z1 z2 z3 z4 z5
  have HNIL : Hid (∀ wz, Calls Tryd.prog 10 #[.nilIface, .int .i64 0] wz fun ev w' => ev = .returned (.bool true) ∧ wz = w') := fun wz => error_nil 0 wz
  go_wp2_with fail
  refine (HNIL.out _).mono ?_
  rintro e w6 ⟨rfl, rfl⟩
  go_wp2_with fail
  refine (HNIL.out _).mono ?_
  rintro e w7 ⟨rfl, rfl⟩
  go_wp2_with fail
  refine (HNIL.out _).mono ?_
  rintro e w8 ⟨rfl, rfl⟩
  rw [HKK.out]
  have c5 := HB5.out.2.rh.c5
  have c6 := HB5.out.2.rh.c6
  have c7 := HB5.out.2.rh.c7
  have r1 := HB5.out.2.rh.r1 k HKl.out
  have r2 := HB5.out.2.rh.r2 k HKl.out
  have r3 := HB5.out.2.rh.r3 k HKl.out
  obtain ⟨n64, HDB⟩ : ∃ n64, Hid (D * B = n64) := ⟨_, rfl⟩
  have hkn : k < n64 := by rw [← HDB.out]; exact HKl.out
  rw [HDB.out] at c5 c6 c7
  generalize s.next k = x1 at r1 ⊢
  generalize s.wear k = x2 at r2 ⊢
  generalize s.bad k = x3 at r3 ⊢
  have HF : Hid (∀ wz, Below w5.heap.size w5 wz → StepPost D B P Y cb bb pb rb ab nb wb db cap N0 m w (.returned (.bool true)) wz) := fun wz hz => ⟨rfl, s, HB5.out.2.below HG.out hz, fun k => Nat.le_succ_of_le (HW.out.1 k), HB5.out.1.trans (hz.mono (Nat.le_trans HN.out HB5.out.1.size))⟩
  clear HB5
  go_wp2
  go_ret
  exact HF.out _ (Below.refl _ _)
set_option maxRecDepth 100000 in
set_option maxHeartbeats 8000000 in
theorem step_read_off {D B P Y cb bb rb ab nb wb db cap N0 m : Nat} {pb : Nat → Nat} {s : St} (o : OpD) (w : World) (hG : Geo D B P Y) (hE : EType w) (hP : PB D B P Y w cb bb pb rb ab nb wb db cap s) (hS : Sep (D * B) cb bb pb rb ab nb wb db N0) (hN : N0 ≤ w.heap.size) (hD : Dat w o N0) (hw : ∀ k, s.wear k ≤ m) (hm : m ≤ 140737488351232) (hk : o.kind = 2) (ho : s.off = true) :
    Calls Tryd.prog 12 #[.pointer (some ⟨cb, 0, none⟩), .pointer (some ⟨rb, 0, none⟩), .agg #[.int .i64 o.kind, .int .i64 o.die, .int .i64 o.block, .int .i64 o.page, .slice o.a o.bs.length o.cap, .int .i64 o.fault]] w fun e w' => StepPost D B P Y cb bb pb rb ab nb wb db cap N0 m w e w' := by
  have f1 : (o.kind == 1) = false := by rw [hk]; rfl
  have f2 : (o.kind == 2) = true := beq_iff_eq.2 hk
  clear hk
  have HG : Hid (Geo D B P Y) := hG
  have HE : Hid (EType w) := hE
  have HS : Hid (Sep (D * B) cb bb pb rb ab nb wb db N0) := hS
  have HN : Hid (N0 ≤ w.heap.size) := hN
  have HD : Hid (Dat w o N0) := hD
  have HW : Hid ((∀ k, s.wear k ≤ m) ∧ m ≤ 140737488351232) := ⟨hw, hm⟩
  have HP0 : Hid (PB D B P Y w cb bb pb rb ab nb wb db cap s) := hP
  have HMb : Hid (¬ Mine (D * B) cb bb pb w.heap.size ∧ ¬ RMine rb ab nb wb db w.heap.size) := ⟨fun h => Nat.lt_irrefl _ (hP.ch.lt hG.n.1 _ h), fun h => Nat.lt_irrefl _ (hP.rh.lt hG _ h)⟩
  have hOB := OBox.new w o
  have hbA : Below w.heap.size w (w.alloc (.cells #[.int .i64 o.kind, .int .i64 o.die, .int .i64 o.block, .int .i64 o.page, .slice o.a o.bs.length o.cap, .int .i64 o.fault] 38)) := (Below.refl _ _).alloc (Nat.le_refl _) _
  have z0 := hOB.c0
  have z1 := hOB.c1
  have z2 := hOB.c2
  have z3 := hOB.c3
  have z4 := hOB.c4
  have z5 := hOB.c5
  clear hG hE hP hS hN hD hw hm
  go_enter Tryd.func12, Tryd.ntmps12
  go_wp2_with fail
  generalize w.alloc (.cells #[.int .i64 o.kind, .int .i64 o.die, .int .i64 o.block, .int .i64 o.page, .slice o.a o.bs.length o.cap, .int .i64 o.fault] 38) = w1 at hOB hbA z0 z1 z2 z3 z4 z5 ⊢
  have HB1 : Hid (Below N0 w w1 ∧ PB D B P Y w1 cb bb pb rb ab nb wb db cap s ∧ OBox w1 w.heap.size o ∧ Lies w1 o.a o.bs) := ⟨hbA.mono HN.out, HP0.out.below HG.out hbA, hOB, HD.out.lies.below hbA⟩
  clear hOB hbA z0 z1 z2 z3 z4 z5
  refine (read_off o.die o.block o.page _ HB1.out.2.1.ch ho).mono ?_
  rintro e w2 ⟨rfl, rfl⟩
  have hb2 : Below w2.heap.size w2 w2 := Below.refl _ _
  have HB2 : Hid (Below N0 w w2 ∧ PB D B P Y w2 cb bb pb rb ab nb wb db cap s ∧ OBox w2 w.heap.size o) := ⟨HB1.out.1.trans (hb2.mono (Nat.le_trans HN.out HB1.out.1.size)), HB1.out.2.1.below HG.out hb2, HB1.out.2.2.1.below hb2⟩
  clear hb2 HB1
  have z0 := HB2.out.2.2.c0
  have z1 := HB2.out.2.2.c1
  have z2 := HB2.out.2.2.c2
  have z3 := HB2.out.2.2.c3
  have z4 := HB2.out.2.2.c4
  have z5 := HB2.out.2.2.c5
  go_wp2_with fail
  refine (rread_off o.die o.block o.page _ HG.out HB2.out.2.1.rh ho).mono ?_
  rintro e w3 ⟨rfl, rfl⟩
  have hb3 : Below w3.heap.size w3 w3 := Below.refl _ _
  have HB3 : Hid (Below N0 w w3 ∧ PB D B P Y w3 cb bb pb rb ab nb wb db cap s) := ⟨HB2.out.1.trans (hb3.mono (Nat.le_trans HN.out HB2.out.1.size)), HB2.out.2.1.below HG.out hb3⟩
  clear hb3 HB2
  clear z0 z1 z2 z3 z4 z5
  go_wp2_with fail
  refine (error_same 7 _ (HE.out.below HB3.out.1 HS.out.p)).mono ?_
  rintro e w4 ⟨rfl, hb4⟩
  have HB4 : Hid (Below N0 w w4 ∧ PB D B P Y w4 cb bb pb rb ab nb wb db cap s) := ⟨HB3.out.1.trans (hb4.mono (Nat.le_trans HN.out HB3.out.1.size)), HB3.out.2.below HG.out hb4⟩
  clear hb4 HB3
  have hby := fun wz => bytes_any none none [] [] 0 0 wz (by simp) (by simp) (Or.inl rfl) (Or.inl rfl)
  have HBY : Hid (∀ wz, Calls Tryd.prog 19 #[.slice none 0 0, .slice none 0 0] wz fun e w' => e = .returned (.bool true) ∧ Below wz.heap.size wz w') := hby
  clear hby
  go_wp2_with fail
  refine (HBY.out _).mono ?_
  rintro e w5 ⟨rfl, hb5⟩
  have HF : Hid (StepPost D B P Y cb bb pb rb ab nb wb db cap N0 m w (.returned (.bool true)) w5) := ⟨rfl, s, HB4.out.2.below HG.out hb5, fun k => Nat.le_succ_of_le (HW.out.1 k), HB4.out.1.trans (hb5.mono (Nat.le_trans HN.out HB4.out.1.size))⟩
  clear hb5 HB4
  go_wp2
  go_loop [15] (fun j => j = .int .i64 0) (fun _ => 0)
  case atStart => rfl
  case round =>
    subst hrel
    go_wp2
    go_ret
    exact HF.out
set_option maxRecDepth 100000 in
set_option maxHeartbeats 8000000 in
theorem step_read_none {D B P Y cb bb rb ab nb wb db cap N0 m : Nat} {pb : Nat → Nat} {s : St} (o : OpD) (w : World) (hG : Geo D B P Y) (hE : EType w) (hP : PB D B P Y w cb bb pb rb ab nb wb db cap s) (hS : Sep (D * B) cb bb pb rb ab nb wb db N0) (hN : N0 ≤ w.heap.size) (hD : Dat w o N0) (hw : ∀ k, s.wear k ≤ m) (hm : m ≤ 140737488351232) (hk : o.kind = 2) (ho : s.off = false) (hno : ¬ Here D B o.die o.block) :
    Calls Tryd.prog 12 #[.pointer (some ⟨cb, 0, none⟩), .pointer (some ⟨rb, 0, none⟩), .agg #[.int .i64 o.kind, .int .i64 o.die, .int .i64 o.block, .int .i64 o.page, .slice o.a o.bs.length o.cap, .int .i64 o.fault]] w fun e w' => StepPost D B P Y cb bb pb rb ab nb wb db cap N0 m w e w' := by
  have f1 : (o.kind == 1) = false := by rw [hk]; rfl
  have f2 : (o.kind == 2) = true := beq_iff_eq.2 hk
  clear hk
  have HG : Hid (Geo D B P Y) := hG
  have HE : Hid (EType w) := hE
  have HS : Hid (Sep (D * B) cb bb pb rb ab nb wb db N0) := hS
  have HN : Hid (N0 ≤ w.heap.size) := hN
  have HD : Hid (Dat w o N0) := hD
  have HW : Hid ((∀ k, s.wear k ≤ m) ∧ m ≤ 140737488351232) := ⟨hw, hm⟩
  have HP0 : Hid (PB D B P Y w cb bb pb rb ab nb wb db cap s) := hP
  have HMb : Hid (¬ Mine (D * B) cb bb pb w.heap.size ∧ ¬ RMine rb ab nb wb db w.heap.size) := ⟨fun h => Nat.lt_irrefl _ (hP.ch.lt hG.n.1 _ h), fun h => Nat.lt_irrefl _ (hP.rh.lt hG _ h)⟩
  have hOB := OBox.new w o
  have hbA : Below w.heap.size w (w.alloc (.cells #[.int .i64 o.kind, .int .i64 o.die, .int .i64 o.block, .int .i64 o.page, .slice o.a o.bs.length o.cap, .int .i64 o.fault] 38)) := (Below.refl _ _).alloc (Nat.le_refl _) _
  have z0 := hOB.c0
  have z1 := hOB.c1
  have z2 := hOB.c2
  have z3 := hOB.c3
  have z4 := hOB.c4
  have z5 := hOB.c5
  clear hG hE hP hS hN hD hw hm
  go_enter Tryd.func12, Tryd.ntmps12
  go_wp2_with fail
  generalize w.alloc (.cells #[.int .i64 o.kind, .int .i64 o.die, .int .i64 o.block, .int .i64 o.page, .slice o.a o.bs.length o.cap, .int .i64 o.fault] 38) = w1 at hOB hbA z0 z1 z2 z3 z4 z5 ⊢
  have HB1 : Hid (Below N0 w w1 ∧ PB D B P Y w1 cb bb pb rb ab nb wb db cap s ∧ OBox w1 w.heap.size o ∧ Lies w1 o.a o.bs) := ⟨hbA.mono HN.out, HP0.out.below HG.out hbA, hOB, HD.out.lies.below hbA⟩
  clear hOB hbA z0 z1 z2 z3 z4 z5
  refine (read_none o.die o.block o.page _ HG.out HB1.out.2.1.ch ho hno).mono ?_
  rintro e w2 ⟨rfl, rfl⟩
  have hb2 : Below w2.heap.size w2 w2 := Below.refl _ _
  have HB2 : Hid (Below N0 w w2 ∧ PB D B P Y w2 cb bb pb rb ab nb wb db cap s ∧ OBox w2 w.heap.size o) := ⟨HB1.out.1.trans (hb2.mono (Nat.le_trans HN.out HB1.out.1.size)), HB1.out.2.1.below HG.out hb2, HB1.out.2.2.1.below hb2⟩
  clear hb2 HB1
  have z0 := HB2.out.2.2.c0
  have z1 := HB2.out.2.2.c1
  have z2 := HB2.out.2.2.c2
  have z3 := HB2.out.2.2.c3
  have z4 := HB2.out.2.2.c4
  have z5 := HB2.out.2.2.c5
  go_wp2_with fail
  refine (rread_none o.die o.block o.page _ HG.out HB2.out.2.1.rh ho hno).mono ?_
  rintro e w3 ⟨rfl, rfl⟩
  have hb3 : Below w3.heap.size w3 w3 := Below.refl _ _
  have HB3 : Hid (Below N0 w w3 ∧ PB D B P Y w3 cb bb pb rb ab nb wb db cap s) := ⟨HB2.out.1.trans (hb3.mono (Nat.le_trans HN.out HB2.out.1.size)), HB2.out.2.1.below HG.out hb3⟩
  clear hb3 HB2
  clear z0 z1 z2 z3 z4 z5
  go_wp2_with fail
  refine (error_same 1 _ (HE.out.below HB3.out.1 HS.out.p)).mono ?_
  rintro e w4 ⟨rfl, hb4⟩
  have HB4 : Hid (Below N0 w w4 ∧ PB D B P Y w4 cb bb pb rb ab nb wb db cap s) := ⟨HB3.out.1.trans (hb4.mono (Nat.le_trans HN.out HB3.out.1.size)), HB3.out.2.below HG.out hb4⟩
  clear hb4 HB3
  have hby := fun wz => bytes_any none none [] [] 0 0 wz (by simp) (by simp) (Or.inl rfl) (Or.inl rfl)
  have HBY : Hid (∀ wz, Calls Tryd.prog 19 #[.slice none 0 0, .slice none 0 0] wz fun e w' => e = .returned (.bool true) ∧ Below wz.heap.size wz w') := hby
  clear hby
  go_wp2_with fail
  refine (HBY.out _).mono ?_
  rintro e w5 ⟨rfl, hb5⟩
  have HF : Hid (StepPost D B P Y cb bb pb rb ab nb wb db cap N0 m w (.returned (.bool true)) w5) := ⟨rfl, s, HB4.out.2.below HG.out hb5, fun k => Nat.le_succ_of_le (HW.out.1 k), HB4.out.1.trans (hb5.mono (Nat.le_trans HN.out HB4.out.1.size))⟩
  clear hb5 HB4
  go_wp2
  go_loop [15] (fun j => j = .int .i64 0) (fun _ => 0)
  case atStart => rfl
  case round =>
    subst hrel
    go_wp2
    go_ret
    exact HF.out
set_option maxRecDepth 100000 in
set_option maxHeartbeats 8000000 in
theorem step_read_page1 {D B P Y cb bb rb ab nb wb db cap N0 m : Nat} {pb : Nat → Nat} {s : St} (o : OpD) (w : World) (hG : Geo D B P Y) (hE : EType w) (hP : PB D B P Y w cb bb pb rb ab nb wb db cap s) (hS : Sep (D * B) cb bb pb rb ab nb wb db N0) (hN : N0 ≤ w.heap.size) (hD : Dat w o N0) (hw : ∀ k, s.wear k ≤ m) (hm : m ≤ 140737488351232) (hk : o.kind = 2) (ho : s.off = false) (hh : Here D B o.die o.block) (hp : o.page < 0) :
    Calls Tryd.prog 12 #[.pointer (some ⟨cb, 0, none⟩), .pointer (some ⟨rb, 0, none⟩), .agg #[.int .i64 o.kind, .int .i64 o.die, .int .i64 o.block, .int .i64 o.page, .slice o.a o.bs.length o.cap, .int .i64 o.fault]] w fun e w' => StepPost D B P Y cb bb pb rb ab nb wb db cap N0 m w e w' := by
  have f1 : (o.kind == 1) = false := by rw [hk]; rfl
  have f2 : (o.kind == 2) = true := beq_iff_eq.2 hk
  clear hk
  have HG : Hid (Geo D B P Y) := hG
  have HE : Hid (EType w) := hE
  have HS : Hid (Sep (D * B) cb bb pb rb ab nb wb db N0) := hS
  have HN : Hid (N0 ≤ w.heap.size) := hN
  have HD : Hid (Dat w o N0) := hD
  have HW : Hid ((∀ k, s.wear k ≤ m) ∧ m ≤ 140737488351232) := ⟨hw, hm⟩
  have HP0 : Hid (PB D B P Y w cb bb pb rb ab nb wb db cap s) := hP
  have HMb : Hid (¬ Mine (D * B) cb bb pb w.heap.size ∧ ¬ RMine rb ab nb wb db w.heap.size) := ⟨fun h => Nat.lt_irrefl _ (hP.ch.lt hG.n.1 _ h), fun h => Nat.lt_irrefl _ (hP.rh.lt hG _ h)⟩
  have hOB := OBox.new w o
  have hbA : Below w.heap.size w (w.alloc (.cells #[.int .i64 o.kind, .int .i64 o.die, .int .i64 o.block, .int .i64 o.page, .slice o.a o.bs.length o.cap, .int .i64 o.fault] 38)) := (Below.refl _ _).alloc (Nat.le_refl _) _
  have z0 := hOB.c0
  have z1 := hOB.c1
  have z2 := hOB.c2
  have z3 := hOB.c3
  have z4 := hOB.c4
  have z5 := hOB.c5
  clear hG hE hP hS hN hD hw hm
  go_enter Tryd.func12, Tryd.ntmps12
  go_wp2_with fail
  generalize w.alloc (.cells #[.int .i64 o.kind, .int .i64 o.die, .int .i64 o.block, .int .i64 o.page, .slice o.a o.bs.length o.cap, .int .i64 o.fault] 38) = w1 at hOB hbA z0 z1 z2 z3 z4 z5 ⊢
  have HB1 : Hid (Below N0 w w1 ∧ PB D B P Y w1 cb bb pb rb ab nb wb db cap s ∧ OBox w1 w.heap.size o ∧ Lies w1 o.a o.bs) := ⟨hbA.mono HN.out, HP0.out.below HG.out hbA, hOB, HD.out.lies.below hbA⟩
  clear hOB hbA z0 z1 z2 z3 z4 z5
  refine (read_page o.die o.block o.page _ HG.out HB1.out.2.1.ch ho hh (by omega)).mono ?_
  rintro e w2 ⟨rfl, hb2⟩
  have HB2 : Hid (Below N0 w w2 ∧ PB D B P Y w2 cb bb pb rb ab nb wb db cap s ∧ OBox w2 w.heap.size o) := ⟨HB1.out.1.trans (hb2.mono (Nat.le_trans HN.out HB1.out.1.size)), HB1.out.2.1.below HG.out hb2, HB1.out.2.2.1.below hb2⟩
  clear hb2 HB1
  have z0 := HB2.out.2.2.c0
  have z1 := HB2.out.2.2.c1
  have z2 := HB2.out.2.2.c2
  have z3 := HB2.out.2.2.c3
  have z4 := HB2.out.2.2.c4
  have z5 := HB2.out.2.2.c5
  go_wp2_with fail
  refine (rread_page1 o.die o.block o.page _ HG.out HB2.out.2.1.rh ho hh hp).mono ?_
  rintro e w3 ⟨rfl, hb3⟩
  have HB3 : Hid (Below N0 w w3 ∧ PB D B P Y w3 cb bb pb rb ab nb wb db cap s) := ⟨HB2.out.1.trans (hb3.mono (Nat.le_trans HN.out HB2.out.1.size)), HB2.out.2.1.below HG.out hb3⟩
  clear hb3 HB2
  clear z0 z1 z2 z3 z4 z5
  go_wp2_with fail
  refine (error_same 1 _ (HE.out.below HB3.out.1 HS.out.p)).mono ?_
  rintro e w4 ⟨rfl, hb4⟩
  have HB4 : Hid (Below N0 w w4 ∧ PB D B P Y w4 cb bb pb rb ab nb wb db cap s) := ⟨HB3.out.1.trans (hb4.mono (Nat.le_trans HN.out HB3.out.1.size)), HB3.out.2.below HG.out hb4⟩
  clear hb4 HB3
  have hby := fun wz => bytes_any none none [] [] 0 0 wz (by simp) (by simp) (Or.inl rfl) (Or.inl rfl)
  have HBY : Hid (∀ wz, Calls Tryd.prog 19 #[.slice none 0 0, .slice none 0 0] wz fun e w' => e = .returned (.bool true) ∧ Below wz.heap.size wz w') := hby
  clear hby
  go_wp2_with fail
  refine (HBY.out _).mono ?_
  rintro e w5 ⟨rfl, hb5⟩
  have HF : Hid (StepPost D B P Y cb bb pb rb ab nb wb db cap N0 m w (.returned (.bool true)) w5) := ⟨rfl, s, HB4.out.2.below HG.out hb5, fun k => Nat.le_succ_of_le (HW.out.1 k), HB4.out.1.trans (hb5.mono (Nat.le_trans HN.out HB4.out.1.size))⟩
  clear hb5 HB4
  go_wp2
  go_loop [15] (fun j => j = .int .i64 0) (fun _ => 0)
  case atStart => rfl
  case round =>
    subst hrel
    go_wp2
    go_ret
    exact HF.out
set_option maxRecDepth 100000 in
set_option maxHeartbeats 8000000 in
theorem step_read_page2 {D B P Y cb bb rb ab nb wb db cap N0 m : Nat} {pb : Nat → Nat} {s : St} (o : OpD) (w : World) (hG : Geo D B P Y) (hE : EType w) (hP : PB D B P Y w cb bb pb rb ab nb wb db cap s) (hS : Sep (D * B) cb bb pb rb ab nb wb db N0) (hN : N0 ≤ w.heap.size) (hD : Dat w o N0) (hw : ∀ k, s.wear k ≤ m) (hm : m ≤ 140737488351232) (hk : o.kind = 2) (ho : s.off = false) (hh : Here D B o.die o.block) (hp0 : 0 ≤ o.page) (hp : (P : Int) ≤ o.page) :
    Calls Tryd.prog 12 #[.pointer (some ⟨cb, 0, none⟩), .pointer (some ⟨rb, 0, none⟩), .agg #[.int .i64 o.kind, .int .i64 o.die, .int .i64 o.block, .int .i64 o.page, .slice o.a o.bs.length o.cap, .int .i64 o.fault]] w fun e w' => StepPost D B P Y cb bb pb rb ab nb wb db cap N0 m w e w' := by
  have f1 : (o.kind == 1) = false := by rw [hk]; rfl
  have f2 : (o.kind == 2) = true := beq_iff_eq.2 hk
  clear hk
  have HG : Hid (Geo D B P Y) := hG
  have HE : Hid (EType w) := hE
  have HS : Hid (Sep (D * B) cb bb pb rb ab nb wb db N0) := hS
  have HN : Hid (N0 ≤ w.heap.size) := hN
  have HD : Hid (Dat w o N0) := hD
  have HW : Hid ((∀ k, s.wear k ≤ m) ∧ m ≤ 140737488351232) := ⟨hw, hm⟩
  have HP0 : Hid (PB D B P Y w cb bb pb rb ab nb wb db cap s) := hP
  have HMb : Hid (¬ Mine (D * B) cb bb pb w.heap.size ∧ ¬ RMine rb ab nb wb db w.heap.size) := ⟨fun h => Nat.lt_irrefl _ (hP.ch.lt hG.n.1 _ h), fun h => Nat.lt_irrefl _ (hP.rh.lt hG _ h)⟩
  have hOB := OBox.new w o
  have hbA : Below w.heap.size w (w.alloc (.cells #[.int .i64 o.kind, .int .i64 o.die, .int .i64 o.block, .int .i64 o.page, .slice o.a o.bs.length o.cap, .int .i64 o.fault] 38)) := (Below.refl _ _).alloc (Nat.le_refl _) _
  have z0 := hOB.c0
  have z1 := hOB.c1
  have z2 := hOB.c2
  have z3 := hOB.c3
  have z4 := hOB.c4
  have z5 := hOB.c5
  clear hG hE hP hS hN hD hw hm
  go_enter Tryd.func12, Tryd.ntmps12
  go_wp2_with fail
  generalize w.alloc (.cells #[.int .i64 o.kind, .int .i64 o.die, .int .i64 o.block, .int .i64 o.page, .slice o.a o.bs.length o.cap, .int .i64 o.fault] 38) = w1 at hOB hbA z0 z1 z2 z3 z4 z5 ⊢
  have HB1 : Hid (Below N0 w w1 ∧ PB D B P Y w1 cb bb pb rb ab nb wb db cap s ∧ OBox w1 w.heap.size o ∧ Lies w1 o.a o.bs) := ⟨hbA.mono HN.out, HP0.out.below HG.out hbA, hOB, HD.out.lies.below hbA⟩
  clear hOB hbA z0 z1 z2 z3 z4 z5
  refine (read_page o.die o.block o.page _ HG.out HB1.out.2.1.ch ho hh (by omega)).mono ?_
  rintro e w2 ⟨rfl, hb2⟩
  have HB2 : Hid (Below N0 w w2 ∧ PB D B P Y w2 cb bb pb rb ab nb wb db cap s ∧ OBox w2 w.heap.size o) := ⟨HB1.out.1.trans (hb2.mono (Nat.le_trans HN.out HB1.out.1.size)), HB1.out.2.1.below HG.out hb2, HB1.out.2.2.1.below hb2⟩
  clear hb2 HB1
  have z0 := HB2.out.2.2.c0
  have z1 := HB2.out.2.2.c1
  have z2 := HB2.out.2.2.c2
  have z3 := HB2.out.2.2.c3
  have z4 := HB2.out.2.2.c4
  have z5 := HB2.out.2.2.c5
  go_wp2_with fail
  refine (rread_page2 o.die o.block o.page _ HG.out HB2.out.2.1.rh ho hh hp0 hp).mono ?_
  rintro e w3 ⟨rfl, hb3⟩
  have HB3 : Hid (Below N0 w w3 ∧ PB D B P Y w3 cb bb pb rb ab nb wb db cap s) := ⟨HB2.out.1.trans (hb3.mono (Nat.le_trans HN.out HB2.out.1.size)), HB2.out.2.1.below HG.out hb3⟩
  clear hb3 HB2
  clear z0 z1 z2 z3 z4 z5
  go_wp2_with fail
  refine (error_same 1 _ (HE.out.below HB3.out.1 HS.out.p)).mono ?_
  rintro e w4 ⟨rfl, hb4⟩
  have HB4 : Hid (Below N0 w w4 ∧ PB D B P Y w4 cb bb pb rb ab nb wb db cap s) := ⟨HB3.out.1.trans (hb4.mono (Nat.le_trans HN.out HB3.out.1.size)), HB3.out.2.below HG.out hb4⟩
  clear hb4 HB3
  have hby := fun wz => bytes_any none none [] [] 0 0 wz (by simp) (by simp) (Or.inl rfl) (Or.inl rfl)
  have HBY : Hid (∀ wz, Calls Tryd.prog 19 #[.slice none 0 0, .slice none 0 0] wz fun e w' => e = .returned (.bool true) ∧ Below wz.heap.size wz w') := hby
  clear hby
  go_wp2_with fail
  refine (HBY.out _).mono ?_
  rintro e w5 ⟨rfl, hb5⟩
  have HF : Hid (StepPost D B P Y cb bb pb rb ab nb wb db cap N0 m w (.returned (.bool true)) w5) := ⟨rfl, s, HB4.out.2.below HG.out hb5, fun k => Nat.le_succ_of_le (HW.out.1 k), HB4.out.1.trans (hb5.mono (Nat.le_trans HN.out HB4.out.1.size))⟩
  clear hb5 HB4
  go_wp2
  go_loop [15] (fun j => j = .int .i64 0) (fun _ => 0)
  case atStart => rfl
  case round =>
    subst hrel
    go_wp2
    go_ret
    exact HF.out
set_option maxRecDepth 100000 in
set_option maxHeartbeats 8000000 in
theorem step_read_some {D B P Y cb bb rb ab nb wb db cap N0 m : Nat} {pb : Nat → Nat} {s : St} (o : OpD) (w : World) (hG : Geo D B P Y) (hE : EType w) (hP : PB D B P Y w cb bb pb rb ab nb wb db cap s) (hS : Sep (D * B) cb bb pb rb ab nb wb db N0) (hN : N0 ≤ w.heap.size) (hD : Dat w o N0) (hw : ∀ k, s.wear k ≤ m) (hm : m ≤ 140737488351232) (hk : o.kind = 2) (ho : s.off = false) (hh : Here D B o.die o.block) (p : Nat) (hpg : o.page = p) (hp : p < P) :
    Calls Tryd.prog 12 #[.pointer (some ⟨cb, 0, none⟩), .pointer (some ⟨rb, 0, none⟩), .agg #[.int .i64 o.kind, .int .i64 o.die, .int .i64 o.block, .int .i64 o.page, .slice o.a o.bs.length o.cap, .int .i64 o.fault]] w fun e w' => StepPost D B P Y cb bb pb rb ab nb wb db cap N0 m w e w' := by
  have f1 : (o.kind == 1) = false := by rw [hk]; rfl
  have f2 : (o.kind == 2) = true := beq_iff_eq.2 hk
  clear hk
  obtain ⟨d, b, hd0, hb0, hd, hb, hkk, hlt⟩ := hh.nat
  have y1 := hG.y1
  have HRR : Hid (∀ wz, RH D B P Y wz rb ab nb wb db cap s → Calls Tryd.prog 27 #[.pointer (some ⟨rb, 0, none⟩), .int .i64 o.die, .int .i64 o.block, .int .i64 o.page] wz fun e w' => ∃ A c, e = .returned (.tuple #[.slice (some ⟨ab, A, none⟩) Y c, .int .i64 0]) ∧ Lies w' (some ⟨ab, A, none⟩) (pageOf (s.bytes (kOf B o.die o.block)) (p * Y) Y) ∧ Below wz.heap.size wz w') := by
    intro wz hz
    have := rread_some d b p wz hG hz ho hd hb hp
    rw [← hd0, ← hb0, ← hpg, ← hkk] at this
    exact this
  have HRC : Hid (∀ wz, CH D B P Y wz cb bb pb s → Calls Tryd.prog 18 #[.pointer (some ⟨cb, 0, none⟩), .int .i64 o.die, .int .i64 o.block, .int .i64 o.page] wz fun e w' => ∃ g, e = .returned (.tuple #[.slice (some ⟨g, 0, none⟩) Y Y, .nilIface]) ∧ wz.heap.size ≤ g ∧
      w'.heap[g]? = some (.cells ((pageOf (s.bytes (kOf B o.die o.block)) (p * Y) Y).map bv).toArray 5 (0, 0)) ∧ (pageOf (s.bytes (kOf B o.die o.block)) (p * Y) Y).length = Y ∧ Below wz.heap.size wz w') := by
    intro wz hz
    have := read_some o.die o.block p wz hG hz ho hh hp
    rw [← hpg] at this
    exact this
  clear hh hd0 hb0 hd hb hkk hlt hpg hp
  generalize pageOf (s.bytes (kOf B o.die o.block)) (p * Y) Y = pg at HRR HRC
  have HG : Hid (Geo D B P Y) := hG
  have HE : Hid (EType w) := hE
  have HS : Hid (Sep (D * B) cb bb pb rb ab nb wb db N0) := hS
  have HN : Hid (N0 ≤ w.heap.size) := hN
  have HD : Hid (Dat w o N0) := hD
  have HW : Hid ((∀ k, s.wear k ≤ m) ∧ m ≤ 140737488351232) := ⟨hw, hm⟩
  have HP0 : Hid (PB D B P Y w cb bb pb rb ab nb wb db cap s) := hP
  have HMb : Hid (¬ Mine (D * B) cb bb pb w.heap.size ∧ ¬ RMine rb ab nb wb db w.heap.size) := ⟨fun h => Nat.lt_irrefl _ (hP.ch.lt hG.n.1 _ h), fun h => Nat.lt_irrefl _ (hP.rh.lt hG _ h)⟩
  have hOB := OBox.new w o
  have hbA : Below w.heap.size w (w.alloc (.cells #[.int .i64 o.kind, .int .i64 o.die, .int .i64 o.block, .int .i64 o.page, .slice o.a o.bs.length o.cap, .int .i64 o.fault] 38)) := (Below.refl _ _).alloc (Nat.le_refl _) _
  have z0 := hOB.c0
  have z1 := hOB.c1
  have z2 := hOB.c2
  have z3 := hOB.c3
  have z4 := hOB.c4
  have z5 := hOB.c5
  clear hG hE hP hS hN hD hw hm
  go_enter Tryd.func12, Tryd.ntmps12
  go_wp2_with fail
  generalize w.alloc (.cells #[.int .i64 o.kind, .int .i64 o.die, .int .i64 o.block, .int .i64 o.page, .slice o.a o.bs.length o.cap, .int .i64 o.fault] 38) = w1 at hOB hbA z0 z1 z2 z3 z4 z5 ⊢
  have HB1 : Hid (Below N0 w w1 ∧ PB D B P Y w1 cb bb pb rb ab nb wb db cap s ∧ OBox w1 w.heap.size o ∧ Lies w1 o.a o.bs) := ⟨hbA.mono HN.out, HP0.out.below HG.out hbA, hOB, HD.out.lies.below hbA⟩
  clear hOB hbA z0 z1 z2 z3 z4 z5
  refine (HRC.out _ HB1.out.2.1.ch).mono ?_
  rintro e w2 ⟨g, rfl, hg1, hg2, hg3, hb2⟩
  have HB2 : Hid (Below N0 w w2 ∧ PB D B P Y w2 cb bb pb rb ab nb wb db cap s ∧ OBox w2 w.heap.size o) := ⟨HB1.out.1.trans (hb2.mono (Nat.le_trans HN.out HB1.out.1.size)), HB1.out.2.1.below HG.out hb2, HB1.out.2.2.1.below hb2⟩
  have HGn : Hid (w1.heap.size ≤ g ∧ w2.heap[g]? = some (.cells (pg.map bv).toArray 5 (0, 0)) ∧ pg.length = Y ∧ PB D B P Y w1 cb bb pb rb ab nb wb db cap s ∧ N0 ≤ w1.heap.size) := ⟨hg1, hg2, hg3, HB1.out.2.1, Nat.le_trans HN.out HB1.out.1.size⟩
  clear hb2 HB1 hg1 hg2 hg3
  have z0 := HB2.out.2.2.c0
  have z1 := HB2.out.2.2.c1
  have z2 := HB2.out.2.2.c2
  have z3 := HB2.out.2.2.c3
  have z4 := HB2.out.2.2.c4
  have z5 := HB2.out.2.2.c5
  go_wp2_with fail
  refine (HRR.out _ HB2.out.2.1.rh).mono ?_
  rintro e w3 ⟨A, c, rfl, hL3, hb3⟩
  have HB3 : Hid (Below N0 w w3 ∧ PB D B P Y w3 cb bb pb rb ab nb wb db cap s ∧ w3.heap[g]? = some (.cells (pg.map bv).toArray 5 (0, 0)) ∧ Lies w3 (some ⟨ab, A, none⟩) pg) := ⟨HB2.out.1.trans (hb3.mono (Nat.le_trans HN.out HB2.out.1.size)), HB2.out.2.1.below HG.out hb3, by rw [hb3.block g (heap_lt HGn.out.2.1)]; exact HGn.out.2.1, hL3⟩
  clear hb3 HB2 hL3
  clear z0 z1 z2 z3 z4 z5
  have HNIL : Hid (∀ wz, Calls Tryd.prog 10 #[.nilIface, .int .i64 0] wz fun ev w' => ev = .returned (.bool true) ∧ wz = w') := fun wz => error_nil 0 wz
  go_wp2_with fail
  refine (HNIL.out _).mono ?_
  rintro e w4 ⟨rfl, rfl⟩
  have hby := bytes_any (some ⟨g, 0, none⟩) (some ⟨ab, A, none⟩) pg pg Y c w3 (by have := HGn.out.2.2.1; omega) (by have := HGn.out.2.2.1; omega) (row_lies HB3.out.2.2.1) HB3.out.2.2.2
  rw [decide_eq_true rfl] at hby
  have HBY : Hid (Calls Tryd.prog 19 #[.slice (some ⟨g, 0, none⟩) Y Y, .slice (some ⟨ab, A, none⟩) Y c] w3 fun e w' => e = .returned (.bool true) ∧ Below w3.heap.size w3 w') := by
    have e := HGn.out.2.2.1
    show Calls _ _ _ _ _
    have h := hby
    rw [show (Value.slice (some ⟨g, 0, none⟩) pg.length Y) = .slice (some ⟨g, 0, none⟩) Y Y by rw [e], show (Value.slice (some ⟨ab, A, none⟩) pg.length c) = .slice (some ⟨ab, A, none⟩) Y c by rw [e]] at h
    exact h
  clear hby
  go_wp2_with fail
  refine HBY.out.mono ?_
  rintro e w5 ⟨rfl, hb5⟩
  have HB5 : Hid (Below N0 w w5 ∧ PB D B P Y w5 cb bb pb rb ab nb wb db cap s ∧ w5.heap[g]? = some (.cells (pg.map bv).toArray 5 (0, 0))) := ⟨HB3.out.1.trans (hb5.mono (Nat.le_trans HN.out HB3.out.1.size)), HB3.out.2.1.below HG.out hb5, by rw [hb5.block g (heap_lt HB3.out.2.2.1)]; exact HB3.out.2.2.1⟩
  have HGM : Hid (¬ Mine (D * B) cb bb pb g ∧ ¬ RMine rb ab nb wb db g ∧ N0 ≤ g) := ⟨fun h => by have := HGn.out.2.2.2.1.ch.lt HG.out.n.1 _ h; have := HGn.out.1; omega, fun h => by have := HGn.out.2.2.2.1.rh.lt HG.out _ h; have := HGn.out.1; omega, Nat.le_trans HGn.out.2.2.2.2 HGn.out.1⟩
  have HLY : Hid (pg.length = Y) := HGn.out.2.2.1
  clear hb5 HB3 HBY HGn
  go_wp2
  go_loopw [15] (fun j wr => ∃ i : Nat, i ≤ Y ∧ j = .int .i64 i ∧ Hid (wr.heap[g]? = some (.cells ((fillK pg 7 i).map bv).toArray 5 (0, 0)) ∧ Keep (fun b => b = g) w5 wr)) (fun j _ => Y - (intOf j).toNat)
  case atStart => exact ⟨0, by omega, rfl, HB5.out.2.2, Keep.refl _ _⟩
  case round =>
    obtain ⟨i, hi, rfl, hR⟩ := hrel
    by_cases hlt : i < Y
    · have hf := row_free hR.out.1 i
      have hck := row_cell hR.out.1 i (by rw [fillK_len, HLY.out]; exact hlt)
      generalize (fillK pg 7 i)[i]?.getD 0 = X at hck
      have HR : Hid ((wr.setCell ⟨g, i, none⟩ (.int .u8 7)).heap[g]? = some (.cells ((fillK pg 7 (i + 1)).map bv).toArray 5 (0, 0)) ∧ Keep (fun b => b = g) w5 (wr.setCell ⟨g, i, none⟩ (.int .u8 7))) := ⟨row_set hR.out.1 i 7, hR.out.2.set rfl _⟩
      clear hR
      go_wp2
      first
        | exact ⟨⟨i + 1, by omega, by go_num, HR.out⟩, by simp [intOf]; omega⟩
        | (refine ⟨?_, by simp [intOf]; omega⟩
           (repeat apply Exists.intro)
           refine ⟨?_, by rfl⟩
           exact ⟨i + 1, by omega, by go_num, HR.out⟩)
    · obtain rfl : i = Y := by omega
      have HF : Hid (StepPost D B P i cb bb pb rb ab nb wb db cap N0 m w (.returned (.bool true)) wr) := ⟨rfl, s, ⟨HB5.out.2.1.ch.keep HG.out.n.1 hR.out.2 (fun b hb e => HGM.out.1 (by rw [← e]; exact hb)), HB5.out.2.1.rh.keep HG.out hR.out.2 (fun b hb e => HGM.out.2.1 (by rw [← e]; exact hb))⟩, fun k => Nat.le_succ_of_le (HW.out.1 k), HB5.out.1.trans (hR.out.2.below (Nat.le_trans HN.out HB5.out.1.size) (fun b hb => by have e : b = g := hb; rw [e]; exact HGM.out.2.2))⟩
      clear hR
      go_wp2
      go_ret
      exact HF.out
theorem step_any {D B P Y cb bb rb ab nb wb db cap N0 m : Nat} {pb : Nat → Nat} {s : St} (o : OpD) (w : World) (hG : Geo D B P Y) (hE : EType w) (hP : PB D B P Y w cb bb pb rb ab nb wb db cap s) (hS : Sep (D * B) cb bb pb rb ab nb wb db N0) (hN : N0 ≤ w.heap.size) (hD : Dat w o N0) (hw : ∀ k, s.wear k ≤ m) (hm : m ≤ 140737488351232) :
    Calls Tryd.prog 12 #[.pointer (some ⟨cb, 0, none⟩), .pointer (some ⟨rb, 0, none⟩), .agg #[.int .i64 o.kind, .int .i64 o.die, .int .i64 o.block, .int .i64 o.page, .slice o.a o.bs.length o.cap, .int .i64 o.fault]] w fun e w' => StepPost D B P Y cb bb pb rb ab nb wb db cap N0 m w e w' := by
  by_cases k1 : o.kind = 1
  · exact step_prog o w hG hE hP hS hN hD hw hm k1
  by_cases k2 : o.kind = 2
  · by_cases ho : s.off = true
    · exact step_read_off o w hG hE hP hS hN hD hw hm k2 ho
    have ho' : s.off = false := by simpa using ho
    by_cases hh : Here D B o.die o.block
    · by_cases p1 : o.page < 0
      · exact step_read_page1 o w hG hE hP hS hN hD hw hm k2 ho' hh p1
      by_cases p2 : (P : Int) ≤ o.page
      · exact step_read_page2 o w hG hE hP hS hN hD hw hm k2 ho' hh (by omega) p2
      exact step_read_some o w hG hE hP hS hN hD hw hm k2 ho' hh o.page.toNat (by omega) (by omega)
    · exact step_read_none o w hG hE hP hS hN hD hw hm k2 ho' hh
  by_cases k3 : o.kind = 3
  · exact step_erase o w hG hE hP hS hN hD hw hm k3
  by_cases k4 : o.kind = 4
  · by_cases ho : s.off = true
    · exact step_tell_off o w hG hE hP hS hN hD hw hm k4 ho
    have ho' : s.off = false := by simpa using ho
    by_cases hh : Here D B o.die o.block
    · exact step_tell_some o w hG hE hP hS hN hD hw hm k4 ho' hh
    · exact step_tell_none o w hG hE hP hS hN hD hw hm k4 ho' hh
  exact step_on o w hG hE hP hS hN hD hw hm k1 k2 k3 k4
end Go.Proofs.YtjeelaaimhckhabDoor

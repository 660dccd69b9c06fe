/-
  What the call of (*Chip).Erase gives, and what Program and Erase give where something is wrong: its error; nothing turns.
-/
import Derived.Test.YtjeelaaimhckhabDoorTell
namespace Go.Proofs.YtjeelaaimhckhabDoor
open Go.RowKit
set_option linter.unusedVariables false

set_option maxHeartbeats 800000 in
theorem program_off {D B P Y cb bb : Nat} {pb : Nat → Nat} {s : St} (die block page f : Int) (a : Option Addr) (n cap : Nat) (w : World) (hG : Geo D B P Y) (h : CH D B P Y w cb bb pb s) (ho : s.off = true) :
    Calls Tryd.prog 15 #[.pointer (some ⟨cb, 0, none⟩), .int .i64 die, .int .i64 block, .int .i64 page, .slice a n cap, .int .i64 f] w fun e w' => e = .returned (.iface 30 (.int .i64 7)) ∧ w' = w := by
  have HF := find_off die block w h ho
  clear h hG
  go_enter Tryd.func15, Tryd.ntmps15
  go_wp2_with fail
  refine HF.mono ?_
  rintro e w1 ⟨rfl, rfl⟩
  go_wp2
  go_ret
  exact ⟨rfl, rfl⟩

set_option maxHeartbeats 800000 in
theorem program_none {D B P Y cb bb : Nat} {pb : Nat → Nat} {s : St} (die block page f : Int) (a : Option Addr) (n cap : Nat) (w : World) (hG : Geo D B P Y) (h : CH D B P Y w cb bb pb s) (ho : s.off = false) (hno : ¬ Here D B die block) :
    Calls Tryd.prog 15 #[.pointer (some ⟨cb, 0, none⟩), .int .i64 die, .int .i64 block, .int .i64 page, .slice a n cap, .int .i64 f] w fun e w' => e = .returned (.iface 30 (.int .i64 1)) ∧ w' = w := by
  have HF := find_none die block w hG h ho hno
  clear h hG hno
  go_enter Tryd.func15, Tryd.ntmps15
  go_wp2_with fail
  refine HF.mono ?_
  rintro e w1 ⟨rfl, rfl⟩
  go_wp2
  go_ret
  exact ⟨rfl, rfl⟩

set_option maxHeartbeats 800000 in
theorem program_page {D B P Y cb bb : Nat} {pb : Nat → Nat} {s : St} (die block page f : Int) (a : Option Addr) (n cap : Nat) (w : World) (hG : Geo D B P Y) (h : CH D B P Y w cb bb pb s) (ho : s.off = false) (hh : Here D B die block) (hp : ¬ (0 ≤ page ∧ page < P)) :
    Calls Tryd.prog 15 #[.pointer (some ⟨cb, 0, none⟩), .int .i64 die, .int .i64 block, .int .i64 page, .slice a n cap, .int .i64 f] w fun e w' => e = .returned (.iface 30 (.int .i64 1)) ∧ Below w.heap.size w w' := by
  obtain ⟨d, b, rfl, rfl, hd, hb, hk, hlt⟩ := hh.nat
  try rw [hk] at hbd
  try rw [hk] at hx
  try rw [hk] at hwr
  try rw [hk]
  have HF := find_some d b w hG h ho hd hb
  have HC : Hid (CH D B P Y w cb bb pb s) := h
  have HG : Hid (Geo D B P Y) := hG
  have HK : Hid (d * B + b < D * B) := hlt
  have y1 := hG.y1
  have p1 := hG.p1
  have e1 : wthB page 0 ((P : Int) - 1) = false := wth_no (by omega)
  clear hp
  clear h hG ho hh hk hlt hd hb
  generalize d * B + b = k at *
  go_enter Tryd.func15, Tryd.ntmps15
  go_wp2_with fail
  refine HF.mono ?_
  rintro e w1 ⟨rfl, hb1⟩
  have h1 := HC.out.below HG.out.n.1 hb1
  have c4 := h1.c4
  have r1 := h1.r1 k HK.out
  have r3 := h1.r3 k HK.out
  have H1 : Hid (CH D B P Y w1 cb bb pb s) := h1
  clear h1 HF
  go_wp2_with (first | (go_at_call 31; refine (isPage_any _ _ HG.out H1.out).mono ?_; rintro e w' ⟨rfl, rfl⟩) | (go_at_call 32; refine (isFault_any _ _).mono ?_; rintro e w' ⟨rfl, rfl⟩))
  go_ret
  exact ⟨rfl, hb1⟩

set_option maxHeartbeats 800000 in
theorem program_fault {D B P Y cb bb : Nat} {pb : Nat → Nat} {s : St} (die block page f : Int) (a : Option Addr) (n cap : Nat) (w : World) (hG : Geo D B P Y) (h : CH D B P Y w cb bb pb s) (ho : s.off = false) (hh : Here D B die block) (hp : 0 ≤ page ∧ page < P) (hf : ¬ (0 ≤ f ∧ f ≤ 2)) :
    Calls Tryd.prog 15 #[.pointer (some ⟨cb, 0, none⟩), .int .i64 die, .int .i64 block, .int .i64 page, .slice a n cap, .int .i64 f] w fun e w' => e = .returned (.iface 30 (.int .i64 1)) ∧ Below w.heap.size w w' := by
  obtain ⟨d, b, rfl, rfl, hd, hb, hk, hlt⟩ := hh.nat
  try rw [hk] at hbd
  try rw [hk] at hx
  try rw [hk] at hwr
  try rw [hk]
  have HF := find_some d b w hG h ho hd hb
  have HC : Hid (CH D B P Y w cb bb pb s) := h
  have HG : Hid (Geo D B P Y) := hG
  have HK : Hid (d * B + b < D * B) := hlt
  have y1 := hG.y1
  have p1 := hG.p1
  have e1 : wthB page 0 ((P : Int) - 1) = true := wth_yes (by omega)
  have e2 : fltB f = false := flt_no hf
  clear hp hf
  clear h hG ho hh hk hlt hd hb
  generalize d * B + b = k at *
  go_enter Tryd.func15, Tryd.ntmps15
  go_wp2_with fail
  refine HF.mono ?_
  rintro e w1 ⟨rfl, hb1⟩
  have h1 := HC.out.below HG.out.n.1 hb1
  have c4 := h1.c4
  have r1 := h1.r1 k HK.out
  have r3 := h1.r3 k HK.out
  have H1 : Hid (CH D B P Y w1 cb bb pb s) := h1
  clear h1 HF
  go_wp2_with (first | (go_at_call 31; refine (isPage_any _ _ HG.out H1.out).mono ?_; rintro e w' ⟨rfl, rfl⟩) | (go_at_call 32; refine (isFault_any _ _).mono ?_; rintro e w' ⟨rfl, rfl⟩))
  go_ret
  exact ⟨rfl, hb1⟩

set_option maxHeartbeats 800000 in
theorem program_shape {D B P Y cb bb : Nat} {pb : Nat → Nat} {s : St} (die block page f : Int) (a : Option Addr) (n cap : Nat) (w : World) (hG : Geo D B P Y) (h : CH D B P Y w cb bb pb s) (ho : s.off = false) (hh : Here D B die block) (hp : 0 ≤ page ∧ page < P) (hf : 0 ≤ f ∧ f ≤ 2) (hn : n ≠ Y) :
    Calls Tryd.prog 15 #[.pointer (some ⟨cb, 0, none⟩), .int .i64 die, .int .i64 block, .int .i64 page, .slice a n cap, .int .i64 f] w fun e w' => e = .returned (.iface 30 (.int .i64 2)) ∧ Below w.heap.size w w' := by
  obtain ⟨d, b, rfl, rfl, hd, hb, hk, hlt⟩ := hh.nat
  try rw [hk] at hbd
  try rw [hk] at hx
  try rw [hk] at hwr
  try rw [hk]
  have HF := find_some d b w hG h ho hd hb
  have HC : Hid (CH D B P Y w cb bb pb s) := h
  have HG : Hid (Geo D B P Y) := hG
  have HK : Hid (d * B + b < D * B) := hlt
  have y1 := hG.y1
  have p1 := hG.p1
  have e1 : wthB page 0 ((P : Int) - 1) = true := wth_yes (by omega)
  have e2 : fltB f = true := flt_yes hf
  have e3 : ((n : Int) != (Y : Int)) = true := by simp; omega
  clear hp hf hn
  clear h hG ho hh hk hlt hd hb
  generalize d * B + b = k at *
  go_enter Tryd.func15, Tryd.ntmps15
  go_wp2_with fail
  refine HF.mono ?_
  rintro e w1 ⟨rfl, hb1⟩
  have h1 := HC.out.below HG.out.n.1 hb1
  have c4 := h1.c4
  have r1 := h1.r1 k HK.out
  have r3 := h1.r3 k HK.out
  have H1 : Hid (CH D B P Y w1 cb bb pb s) := h1
  clear h1 HF
  go_wp2_with (first | (go_at_call 31; refine (isPage_any _ _ HG.out H1.out).mono ?_; rintro e w' ⟨rfl, rfl⟩) | (go_at_call 32; refine (isFault_any _ _).mono ?_; rintro e w' ⟨rfl, rfl⟩))
  go_ret
  exact ⟨rfl, hb1⟩

set_option maxHeartbeats 800000 in
theorem program_bad {D B P Y cb bb : Nat} {pb : Nat → Nat} {s : St} (die block page f : Int) (a : Option Addr) (n cap : Nat) (w : World) (hG : Geo D B P Y) (h : CH D B P Y w cb bb pb s) (ho : s.off = false) (hh : Here D B die block) (hp : 0 ≤ page ∧ page < P) (hf : 0 ≤ f ∧ f ≤ 2) (hn : n = Y) (hbd : s.bad (kOf B die block) = true) :
    Calls Tryd.prog 15 #[.pointer (some ⟨cb, 0, none⟩), .int .i64 die, .int .i64 block, .int .i64 page, .slice a n cap, .int .i64 f] w fun e w' => e = .returned (.iface 30 (.int .i64 6)) ∧ Below w.heap.size w w' := by
  obtain ⟨d, b, rfl, rfl, hd, hb, hk, hlt⟩ := hh.nat
  try rw [hk] at hbd
  try rw [hk] at hx
  try rw [hk] at hwr
  try rw [hk]
  have HF := find_some d b w hG h ho hd hb
  have HC : Hid (CH D B P Y w cb bb pb s) := h
  have HG : Hid (Geo D B P Y) := hG
  have HK : Hid (d * B + b < D * B) := hlt
  have y1 := hG.y1
  have p1 := hG.p1
  have e1 : wthB page 0 ((P : Int) - 1) = true := wth_yes (by omega)
  have e2 : fltB f = true := flt_yes hf
  have hn' := hn.symm
  subst hn'
  clear hp hf
  clear h hG ho hh hk hlt hd hb
  generalize d * B + b = k at *
  go_enter Tryd.func15, Tryd.ntmps15
  go_wp2_with fail
  refine HF.mono ?_
  rintro e w1 ⟨rfl, hb1⟩
  have h1 := HC.out.below HG.out.n.1 hb1
  have c4 := h1.c4
  have r1 := h1.r1 k HK.out
  have r3 := h1.r3 k HK.out
  rw [hbd] at r3
  have H1 : Hid (CH D B P Y w1 cb bb pb s) := h1
  clear h1 HF
  go_wp2_with (first | (go_at_call 31; refine (isPage_any _ _ HG.out H1.out).mono ?_; rintro e w' ⟨rfl, rfl⟩) | (go_at_call 32; refine (isFault_any _ _).mono ?_; rintro e w' ⟨rfl, rfl⟩))
  go_ret
  exact ⟨rfl, hb1⟩

set_option maxHeartbeats 800000 in
theorem program_order {D B P Y cb bb : Nat} {pb : Nat → Nat} {s : St} (die block page f : Int) (a : Option Addr) (n cap : Nat) (w : World) (hG : Geo D B P Y) (h : CH D B P Y w cb bb pb s) (ho : s.off = false) (hh : Here D B die block) (hp : 0 ≤ page ∧ page < P) (hf : 0 ≤ f ∧ f ≤ 2) (hn : n = Y) (hbd : s.bad (kOf B die block) = false) (hx : page ≠ (s.next (kOf B die block) : Int)) :
    Calls Tryd.prog 15 #[.pointer (some ⟨cb, 0, none⟩), .int .i64 die, .int .i64 block, .int .i64 page, .slice a n cap, .int .i64 f] w fun e w' => e = .returned (.iface 30 (.int .i64 5)) ∧ Below w.heap.size w w' := by
  obtain ⟨d, b, rfl, rfl, hd, hb, hk, hlt⟩ := hh.nat
  try rw [hk] at hbd
  try rw [hk] at hx
  try rw [hk] at hwr
  try rw [hk]
  have HF := find_some d b w hG h ho hd hb
  have HC : Hid (CH D B P Y w cb bb pb s) := h
  have HG : Hid (Geo D B P Y) := hG
  have HK : Hid (d * B + b < D * B) := hlt
  have y1 := hG.y1
  have p1 := hG.p1
  have e1 : wthB page 0 ((P : Int) - 1) = true := wth_yes (by omega)
  have e2 : fltB f = true := flt_yes hf
  have hn' := hn.symm
  subst hn'
  have e4 : (page != (s.next (d * B + b) : Int)) = true := by simp; exact hx
  clear hp hf hx
  clear h hG ho hh hk hlt hd hb
  generalize d * B + b = k at *
  go_enter Tryd.func15, Tryd.ntmps15
  go_wp2_with fail
  refine HF.mono ?_
  rintro e w1 ⟨rfl, hb1⟩
  have h1 := HC.out.below HG.out.n.1 hb1
  have c4 := h1.c4
  have r1 := h1.r1 k HK.out
  have r3 := h1.r3 k HK.out
  rw [hbd] at r3
  have H1 : Hid (CH D B P Y w1 cb bb pb s) := h1
  clear h1 HF
  go_wp2_with (first | (go_at_call 31; refine (isPage_any _ _ HG.out H1.out).mono ?_; rintro e w' ⟨rfl, rfl⟩) | (go_at_call 32; refine (isFault_any _ _).mono ?_; rintro e w' ⟨rfl, rfl⟩))
  go_ret
  exact ⟨rfl, hb1⟩

set_option maxHeartbeats 800000 in
theorem erase_off {D B P Y cb bb : Nat} {pb : Nat → Nat} {s : St} (die block f : Int) (w : World) (hG : Geo D B P Y) (h : CH D B P Y w cb bb pb s) (ho : s.off = true) :
    Calls Tryd.prog 16 #[.pointer (some ⟨cb, 0, none⟩), .int .i64 die, .int .i64 block, .int .i64 f] w fun e w' => e = .returned (.iface 30 (.int .i64 7)) ∧ w' = w := by
  have HF := find_off die block w h ho
  clear h hG
  go_enter Tryd.func16, Tryd.ntmps16
  go_wp2_with fail
  refine HF.mono ?_
  rintro e w1 ⟨rfl, rfl⟩
  go_wp2
  go_ret
  exact ⟨rfl, rfl⟩

set_option maxHeartbeats 800000 in
theorem erase_none {D B P Y cb bb : Nat} {pb : Nat → Nat} {s : St} (die block f : Int) (w : World) (hG : Geo D B P Y) (h : CH D B P Y w cb bb pb s) (ho : s.off = false) (hno : ¬ Here D B die block) :
    Calls Tryd.prog 16 #[.pointer (some ⟨cb, 0, none⟩), .int .i64 die, .int .i64 block, .int .i64 f] w fun e w' => e = .returned (.iface 30 (.int .i64 1)) ∧ w' = w := by
  have HF := find_none die block w hG h ho hno
  clear h hG hno
  go_enter Tryd.func16, Tryd.ntmps16
  go_wp2_with fail
  refine HF.mono ?_
  rintro e w1 ⟨rfl, rfl⟩
  go_wp2
  go_ret
  exact ⟨rfl, rfl⟩

set_option maxHeartbeats 800000 in
theorem erase_fault {D B P Y cb bb : Nat} {pb : Nat → Nat} {s : St} (die block f : Int) (w : World) (hG : Geo D B P Y) (h : CH D B P Y w cb bb pb s) (ho : s.off = false) (hh : Here D B die block) (hf : ¬ (0 ≤ f ∧ f ≤ 2)) :
    Calls Tryd.prog 16 #[.pointer (some ⟨cb, 0, none⟩), .int .i64 die, .int .i64 block, .int .i64 f] w fun e w' => e = .returned (.iface 30 (.int .i64 1)) ∧ Below w.heap.size w w' := by
  obtain ⟨d, b, rfl, rfl, hd, hb, hk, hlt⟩ := hh.nat
  try rw [hk] at hbd
  try rw [hk] at hx
  try rw [hk] at hwr
  try rw [hk]
  have HF := find_some d b w hG h ho hd hb
  have HC : Hid (CH D B P Y w cb bb pb s) := h
  have HG : Hid (Geo D B P Y) := hG
  have HK : Hid (d * B + b < D * B) := hlt
  have y1 := hG.y1
  have p1 := hG.p1
  have e2 : fltB f = false := flt_no hf
  clear hf
  clear h hG ho hh hk hlt hd hb
  generalize d * B + b = k at *
  go_enter Tryd.func16, Tryd.ntmps16
  go_wp2_with fail
  refine HF.mono ?_
  rintro e w1 ⟨rfl, hb1⟩
  have h1 := HC.out.below HG.out.n.1 hb1
  have c4 := h1.c4
  have r1 := h1.r1 k HK.out
  have r3 := h1.r3 k HK.out
  have H1 : Hid (CH D B P Y w1 cb bb pb s) := h1
  clear h1 HF
  go_wp2_with (first | (go_at_call 31; refine (isPage_any _ _ HG.out H1.out).mono ?_; rintro e w' ⟨rfl, rfl⟩) | (go_at_call 32; refine (isFault_any _ _).mono ?_; rintro e w' ⟨rfl, rfl⟩))
  go_ret
  exact ⟨rfl, hb1⟩

set_option maxHeartbeats 800000 in
theorem erase_bad {D B P Y cb bb : Nat} {pb : Nat → Nat} {s : St} (die block f : Int) (w : World) (hG : Geo D B P Y) (h : CH D B P Y w cb bb pb s) (ho : s.off = false) (hh : Here D B die block) (hf : 0 ≤ f ∧ f ≤ 2) (hbd : s.bad (kOf B die block) = true) :
    Calls Tryd.prog 16 #[.pointer (some ⟨cb, 0, none⟩), .int .i64 die, .int .i64 block, .int .i64 f] w fun e w' => e = .returned (.iface 30 (.int .i64 6)) ∧ Below w.heap.size w w' := by
  obtain ⟨d, b, rfl, rfl, hd, hb, hk, hlt⟩ := hh.nat
  try rw [hk] at hbd
  try rw [hk] at hx
  try rw [hk] at hwr
  try rw [hk]
  have HF := find_some d b w hG h ho hd hb
  have HC : Hid (CH D B P Y w cb bb pb s) := h
  have HG : Hid (Geo D B P Y) := hG
  have HK : Hid (d * B + b < D * B) := hlt
  have y1 := hG.y1
  have p1 := hG.p1
  have e2 : fltB f = true := flt_yes hf
  clear hf
  clear h hG ho hh hk hlt hd hb
  generalize d * B + b = k at *
  go_enter Tryd.func16, Tryd.ntmps16
  go_wp2_with fail
  refine HF.mono ?_
  rintro e w1 ⟨rfl, hb1⟩
  have h1 := HC.out.below HG.out.n.1 hb1
  have c4 := h1.c4
  have r1 := h1.r1 k HK.out
  have r3 := h1.r3 k HK.out
  rw [hbd] at r3
  have H1 : Hid (CH D B P Y w1 cb bb pb s) := h1
  clear h1 HF
  go_wp2_with (first | (go_at_call 31; refine (isPage_any _ _ HG.out H1.out).mono ?_; rintro e w' ⟨rfl, rfl⟩) | (go_at_call 32; refine (isFault_any _ _).mono ?_; rintro e w' ⟨rfl, rfl⟩))
  go_ret
  exact ⟨rfl, hb1⟩

set_option maxHeartbeats 800000 in
theorem erase_fine {D B P Y cb bb : Nat} {pb : Nat → Nat} {s : St} (die block : Int) (w : World) (hG : Geo D B P Y) (h : CH D B P Y w cb bb pb s) (ho : s.off = false) (hh : Here D B die block) (hbd : s.bad (kOf B die block) = false) (hwr : s.wear (kOf B die block) < 4611686018427387904) :
    Calls Tryd.prog 16 #[.pointer (some ⟨cb, 0, none⟩), .int .i64 die, .int .i64 block, .int .i64 0] w fun e w' => e = .returned .nilIface ∧ CH D B P Y w' cb bb pb { s with bytes := upd s.bytes (kOf B die block) (List.replicate (P * Y) 255), next := upd s.next (kOf B die block) 0, wear := upd s.wear (kOf B die block) (s.wear (kOf B die block) + 1) } ∧ Keep (Mine (D * B) cb bb pb) w w' := by
  obtain ⟨d, b, rfl, rfl, hd, hb, hk, hlt⟩ := hh.nat
  try rw [hk] at hbd
  try rw [hk] at hx
  try rw [hk] at hwr
  try rw [hk]
  have HF := find_some d b w hG h ho hd hb
  have HC : Hid (CH D B P Y w cb bb pb s) := h
  have HG : Hid (Geo D B P Y) := hG
  have HK : Hid (d * B + b < D * B) := hlt
  have y1 := hG.y1
  have p1 := hG.p1
  have e2 : fltB 0 = true := flt_yes (by omega)
  obtain ⟨V, HV⟩ : ∃ V, Hid (s.wear (d * B + b) = V) := ⟨_, rfl⟩
  rw [HV.out] at hwr
  clear h hG ho hh hk hlt hd hb
  generalize d * B + b = k at *
  go_enter Tryd.func16, Tryd.ntmps16
  go_wp2_with fail
  refine HF.mono ?_
  rintro e w1 ⟨rfl, hb1⟩
  have h1 := HC.out.below HG.out.n.1 hb1
  have c4 := h1.c4
  have r1 := h1.r1 k HK.out
  have r3 := h1.r3 k HK.out
  rw [hbd] at r3
  have c3 := h1.c3
  have f1 := h1.fb (k * 4 + 1)
  have f2 := h1.fb (k * 4 + 2)
  have f3 := h1.fb (k * 4 + 3)
  have H1 : Hid (CH D B P Y w1 cb bb pb s) := h1
  clear h1 HF
  go_wp2_with (go_at_call 32; refine (isFault_any _ _).mono ?_; rintro e w' ⟨rfl, rfl⟩)
  refine (fill_any k 255 _ HG.out H1.out HK.out (by omega)).mono ?_
  rintro e w3 ⟨rfl, h3, hk3⟩
  have H4 : Hid (CH D B P Y (w3.setCell ⟨bb, k * 4 + 1, none⟩ (.int .i64 0)) cb bb pb { s with bytes := upd s.bytes k (List.replicate (P * Y) 255), next := upd s.next k 0 }) := h3.setNext k 0 HK.out (by omega)
  have H5 : Hid (CH D B P Y ((w3.setCell ⟨bb, k * 4 + 1, none⟩ (.int .i64 0)).setCell ⟨bb, k * 4 + 2, none⟩ (.int .i64 ((V : Int) + 1))) cb bb pb { s with bytes := upd s.bytes k (List.replicate (P * Y) 255), next := upd s.next k 0, wear := upd s.wear k (s.wear k + 1) }) := by
    have := H4.out.setWear k (s.wear k + 1) HK.out
    have e : ((s.wear k + 1 : Nat) : Int) = (V : Int) + 1 := by rw [HV.out]; omega
    rw [e] at this
    exact this
  have K5 : Hid (Keep (Mine (D * B) cb bb pb) w ((w3.setCell ⟨bb, k * 4 + 1, none⟩ (.int .i64 0)).setCell ⟨bb, k * 4 + 2, none⟩ (.int .i64 ((V : Int) + 1)))) := (((Keep.of_below hb1).trans hk3).set (Or.inr (Or.inl rfl)) _).set (Or.inr (Or.inl rfl)) _
  have r1 := h3.r1 k HK.out
  have c3 := h3.c3
  have r2 := H4.out.r2 k HK.out
  have f1 := h3.fb (k * 4 + 1)
  have f2 := h3.fb (k * 4 + 2)
  have r2b := h3.r2 k HK.out
  dsimp only at r1 r2 r2b
  rw [HV.out] at r2 r2b
  clear h3 hk3 H4 hb1
  go_wp2_with fail
  refine (meet0 _ _).mono ?_
  rintro e w5 ⟨rfl, rfl⟩
  go_wp2
  go_ret
  exact ⟨rfl, H5.out, K5.out⟩

set_option maxHeartbeats 800000 in
theorem erase_torn {D B P Y cb bb : Nat} {pb : Nat → Nat} {s : St} (die block : Int) (w : World) (hG : Geo D B P Y) (h : CH D B P Y w cb bb pb s) (ho : s.off = false) (hh : Here D B die block) (hbd : s.bad (kOf B die block) = false) (hwr : s.wear (kOf B die block) < 4611686018427387904) :
    Calls Tryd.prog 16 #[.pointer (some ⟨cb, 0, none⟩), .int .i64 die, .int .i64 block, .int .i64 2] w fun e w' => e = .returned (.iface 30 (.int .i64 7)) ∧ CH D B P Y w' cb bb pb { s with off := true, bytes := upd s.bytes (kOf B die block) (List.replicate (P * Y) 0), next := upd s.next (kOf B die block) P, wear := upd s.wear (kOf B die block) (s.wear (kOf B die block) + 1) } ∧ Keep (Mine (D * B) cb bb pb) w w' := by
  obtain ⟨d, b, rfl, rfl, hd, hb, hk, hlt⟩ := hh.nat
  try rw [hk] at hbd
  try rw [hk] at hx
  try rw [hk] at hwr
  try rw [hk]
  have HF := find_some d b w hG h ho hd hb
  have HC : Hid (CH D B P Y w cb bb pb s) := h
  have HG : Hid (Geo D B P Y) := hG
  have HK : Hid (d * B + b < D * B) := hlt
  have y1 := hG.y1
  have p1 := hG.p1
  have e2 : fltB 2 = true := flt_yes (by omega)
  obtain ⟨V, HV⟩ : ∃ V, Hid (s.wear (d * B + b) = V) := ⟨_, rfl⟩
  rw [HV.out] at hwr
  clear h hG ho hh hk hlt hd hb
  generalize d * B + b = k at *
  go_enter Tryd.func16, Tryd.ntmps16
  go_wp2_with fail
  refine HF.mono ?_
  rintro e w1 ⟨rfl, hb1⟩
  have h1 := HC.out.below HG.out.n.1 hb1
  have c4 := h1.c4
  have r1 := h1.r1 k HK.out
  have r3 := h1.r3 k HK.out
  rw [hbd] at r3
  have c3 := h1.c3
  have f1 := h1.fb (k * 4 + 1)
  have f2 := h1.fb (k * 4 + 2)
  have f3 := h1.fb (k * 4 + 3)
  have H1 : Hid (CH D B P Y w1 cb bb pb s) := h1
  clear h1 HF
  go_wp2_with (go_at_call 32; refine (isFault_any _ _).mono ?_; rintro e w' ⟨rfl, rfl⟩)
  refine (fill_any k 0 _ HG.out H1.out HK.out (by omega)).mono ?_
  rintro e w3 ⟨rfl, h3, hk3⟩
  have H4 : Hid (CH D B P Y (w3.setCell ⟨bb, k * 4 + 1, none⟩ (.int .i64 (P : Int))) cb bb pb { s with bytes := upd s.bytes k (List.replicate (P * Y) 0), next := upd s.next k P }) := h3.setNext k P HK.out (by omega)
  have H5 : Hid (CH D B P Y ((w3.setCell ⟨bb, k * 4 + 1, none⟩ (.int .i64 (P : Int))).setCell ⟨bb, k * 4 + 2, none⟩ (.int .i64 ((V : Int) + 1))) cb bb pb { s with bytes := upd s.bytes k (List.replicate (P * Y) 0), next := upd s.next k P, wear := upd s.wear k (s.wear k + 1) }) := by
    have := H4.out.setWear k (s.wear k + 1) HK.out
    have e : ((s.wear k + 1 : Nat) : Int) = (V : Int) + 1 := by rw [HV.out]; omega
    rw [e] at this
    exact this
  have K5 : Hid (Keep (Mine (D * B) cb bb pb) w ((w3.setCell ⟨bb, k * 4 + 1, none⟩ (.int .i64 (P : Int))).setCell ⟨bb, k * 4 + 2, none⟩ (.int .i64 ((V : Int) + 1)))) := (((Keep.of_below hb1).trans hk3).set (Or.inr (Or.inl rfl)) _).set (Or.inr (Or.inl rfl)) _
  have r1 := h3.r1 k HK.out
  have c3 := h3.c3
  have r2 := H4.out.r2 k HK.out
  have f1 := h3.fb (k * 4 + 1)
  have f2 := h3.fb (k * 4 + 2)
  have r2b := h3.r2 k HK.out
  dsimp only at r1 r2 r2b
  rw [HV.out] at r2 r2b
  clear h3 hk3 H4 hb1
  go_wp2_with fail
  refine (meet2 _ H5.out).mono ?_
  rintro e w5 ⟨rfl, h5, hk5⟩
  have H6 : Hid (CH D B P Y w5 cb bb pb { s with off := true, bytes := upd s.bytes k (List.replicate (P * Y) 0), next := upd s.next k P, wear := upd s.wear k (s.wear k + 1) }) := h5
  have K6 : Hid (Keep (Mine (D * B) cb bb pb) w w5) := K5.out.trans hk5
  clear h5 hk5 H5 K5
  go_wp2
  go_ret
  exact ⟨rfl, H6.out, K6.out⟩

set_option maxHeartbeats 800000 in
theorem erase_fail {D B P Y cb bb : Nat} {pb : Nat → Nat} {s : St} (die block : Int) (w : World) (hG : Geo D B P Y) (h : CH D B P Y w cb bb pb s) (ho : s.off = false) (hh : Here D B die block) (hbd : s.bad (kOf B die block) = false) (hwr : s.wear (kOf B die block) < 4611686018427387904) :
    Calls Tryd.prog 16 #[.pointer (some ⟨cb, 0, none⟩), .int .i64 die, .int .i64 block, .int .i64 1] w fun e w' => e = .returned (.iface 30 (.int .i64 6)) ∧ CH D B P Y w' cb bb pb { s with bad := upd s.bad (kOf B die block) true } ∧ Keep (Mine (D * B) cb bb pb) w w' := by
  obtain ⟨d, b, rfl, rfl, hd, hb, hk, hlt⟩ := hh.nat
  try rw [hk] at hbd
  try rw [hk] at hx
  try rw [hk] at hwr
  try rw [hk]
  have HF := find_some d b w hG h ho hd hb
  have HC : Hid (CH D B P Y w cb bb pb s) := h
  have HG : Hid (Geo D B P Y) := hG
  have HK : Hid (d * B + b < D * B) := hlt
  have y1 := hG.y1
  have p1 := hG.p1
  have e2 : fltB 1 = true := flt_yes (by omega)
  obtain ⟨V, HV⟩ : ∃ V, Hid (s.wear (d * B + b) = V) := ⟨_, rfl⟩
  rw [HV.out] at hwr
  clear h hG ho hh hk hlt hd hb
  generalize d * B + b = k at *
  go_enter Tryd.func16, Tryd.ntmps16
  go_wp2_with fail
  refine HF.mono ?_
  rintro e w1 ⟨rfl, hb1⟩
  have h1 := HC.out.below HG.out.n.1 hb1
  have c4 := h1.c4
  have r1 := h1.r1 k HK.out
  have r3 := h1.r3 k HK.out
  rw [hbd] at r3
  have c3 := h1.c3
  have f1 := h1.fb (k * 4 + 1)
  have f2 := h1.fb (k * 4 + 2)
  have f3 := h1.fb (k * 4 + 3)
  have H1 : Hid (CH D B P Y w1 cb bb pb s) := h1
  clear h1 HF
  have H4 : Hid (CH D B P Y (w1.setCell ⟨bb, k * 4 + 3, none⟩ (.bool true)) cb bb pb { s with bad := upd s.bad k true }) := H1.out.setBad k true HK.out
  go_wp2_with (first | (go_at_call 32; refine (isFault_any _ _).mono ?_; rintro e w' ⟨rfl, rfl⟩) | (go_at_call 33; refine (meet1 _ _).mono ?_; rintro e w5 ⟨rfl, rfl⟩))
  go_ret
  exact ⟨rfl, H4.out, (Keep.of_below hb1).set (Or.inr (Or.inl rfl)) _⟩
end Go.Proofs.YtjeelaaimhckhabDoor

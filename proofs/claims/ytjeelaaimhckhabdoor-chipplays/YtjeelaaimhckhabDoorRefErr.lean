/-
  What the calls of the document's (*Chip).Fault, Read and, where something is wrong, Program and Erase give.
-/
import Derived.Test.YtjeelaaimhckhabDoorRefState
namespace Go.Proofs.YtjeelaaimhckhabDoor
open Go.RowKit
set_option linter.unusedVariables false

set_option maxHeartbeats 800000 in
theorem rfault_off {D B P Y rb ab nb wb db cap : Nat} {s : St} (die block : Int) (w : World) (h : RH D B P Y w rb ab nb wb db cap s) (ho : s.off = true) :
    Calls Tryd.prog 29 #[.pointer (some ⟨rb, 0, none⟩), .int .i64 die, .int .i64 block] w fun e w' => e = .returned (.tuple #[.int .i64 0, .int .i64 7]) ∧ w' = w := by
  have c8 := h.c8
  rw [ho] at c8
  clear h ho
  go_enter Tryd.func29, Tryd.ntmps29
  go_wp2
  go_ret2
  exact ⟨rfl, rfl⟩
set_option maxHeartbeats 1600000 in
theorem rfault_none {D B P Y rb ab nb wb db cap : Nat} {s : St} (die block : Int) (w : World) (h : RH D B P Y w rb ab nb wb db cap s) (ho : s.off = false) (hno : ¬ (0 ≤ die ∧ die < D ∧ 0 ≤ block ∧ block < B)) :
    Calls Tryd.prog 29 #[.pointer (some ⟨rb, 0, none⟩), .int .i64 die, .int .i64 block] w fun e w' => e = .returned (.tuple #[.int .i64 0, .int .i64 1]) ∧ w' = w := by
  have c8 := h.c8
  have c0 := h.c0
  have c1 := h.c1
  rw [ho] at c8
  clear h ho
  by_cases h1 : die < 0
  · clear hno
    go_enter Tryd.func29, Tryd.ntmps29
    go_wp2
    go_ret2
    exact ⟨rfl, rfl⟩
  by_cases h2 : (D : Int) ≤ die
  · clear hno
    go_enter Tryd.func29, Tryd.ntmps29
    go_wp2
    go_ret2
    exact ⟨rfl, rfl⟩
  by_cases h3 : block < 0
  · clear hno
    go_enter Tryd.func29, Tryd.ntmps29
    go_wp2
    go_ret2
    exact ⟨rfl, rfl⟩
  have h4 : (B : Int) ≤ block := by omega
  clear hno
  go_enter Tryd.func29, Tryd.ntmps29
  go_wp2
  go_ret2
  exact ⟨rfl, rfl⟩
set_option maxHeartbeats 1600000 in
theorem rfault_some {D B P Y rb ab nb wb db cap : Nat} {s : St} (d b : Nat) (w : World) (hG : Geo D B P Y) (h : RH D B P Y w rb ab nb wb db cap s) (ho : s.off = false) (hd : d < D) (hb : b < B) :
    Calls Tryd.prog 29 #[.pointer (some ⟨rb, 0, none⟩), .int .i64 d, .int .i64 b] w fun e w' => e = .returned (.tuple #[.int .i64 ((d * B + b : Nat) : Int), .int .i64 0]) ∧ Below w.heap.size w w' := by
  have c8 := h.c8
  have c0 := h.c0
  have c1 := h.c1
  rw [ho] at c8
  have hn := hG.n
  have hlt : d * B + b < D * B := by
    have : (d + 1) * B ≤ D * B := Nat.mul_le_mul_right B hd
    rw [Nat.add_mul, Nat.one_mul] at this
    omega
  obtain ⟨X, HX⟩ : ∃ X, Hid (d * B = X) := ⟨_, rfl⟩
  have hmul : (d : Int) * (B : Int) = (X : Int) := by
    have : (d : Int) * (B : Int) = ((d * B : Nat) : Int) := by simp
    rw [this, HX.out]
  rw [HX.out] at hlt ⊢
  have hX : X ≤ 64 := by omega
  have hB : b ≤ 64 := by have := hG.b1; omega
  have hwr : IntKind.i64.wrap (X : Int) = (X : Int) := by rw [IntKind.wrap_i64]; omega
  have hd' : (d : Int) < (D : Int) := by omega
  have hb' : (b : Int) < (B : Int) := by omega
  have hcast : ((X + b : Nat) : Int) = (X : Int) + (b : Int) := by omega
  rw [hcast]
  clear h ho hG hn hlt hcast hd hb
  go_enter Tryd.func29, Tryd.ntmps29
  go_wp2
  first
    | (go_ret2; exact ⟨rfl, Below.refl _ _⟩)
    | (go_quiet (fail); go_wp2; go_ret2; exact ⟨rfl, below_drewN (Below.refl _ _) _⟩)
set_option maxRecDepth 100000 in
set_option maxHeartbeats 1600000 in
theorem rprogram_off {D B P Y rb ab nb wb db cap : Nat} {s : St} (die block page f : Int) (a : Option Addr) (n cap2 : Nat) (w : World) (hG : Geo D B P Y) (h : RH D B P Y w rb ab nb wb db cap s) (ho : s.off = true) :
    Calls Tryd.prog 26 #[.pointer (some ⟨rb, 0, none⟩), .int .i64 die, .int .i64 block, .int .i64 page, .slice a n cap2, .int .i64 f] w fun e w' => e = .returned (.int .i64 7) ∧ w' = w := by
  have HF := rfault_off die block w h ho 
  clear h hG 
  go_enter Tryd.func26, Tryd.ntmps26
  go_wp2_with fail
  refine HF.mono ?_
  rintro e w1 ⟨rfl, rfl⟩
  go_wp2
  go_ret
  exact ⟨rfl, rfl⟩
set_option maxRecDepth 100000 in
set_option maxHeartbeats 1600000 in
theorem rprogram_none {D B P Y rb ab nb wb db cap : Nat} {s : St} (die block page f : Int) (a : Option Addr) (n cap2 : Nat) (w : World) (hG : Geo D B P Y) (h : RH D B P Y w rb ab nb wb db cap s) (ho : s.off = false) (hno : ¬ (0 ≤ die ∧ die < D ∧ 0 ≤ block ∧ block < B)) :
    Calls Tryd.prog 26 #[.pointer (some ⟨rb, 0, none⟩), .int .i64 die, .int .i64 block, .int .i64 page, .slice a n cap2, .int .i64 f] w fun e w' => e = .returned (.int .i64 1) ∧ w' = w := by
  have HF := rfault_none die block w h ho hno
  clear h hG hno
  go_enter Tryd.func26, Tryd.ntmps26
  go_wp2_with fail
  refine HF.mono ?_
  rintro e w1 ⟨rfl, rfl⟩
  go_wp2
  go_ret
  exact ⟨rfl, rfl⟩
set_option maxRecDepth 100000 in
set_option maxHeartbeats 1600000 in
theorem rprogram_page1 {D B P Y rb ab nb wb db cap : Nat} {s : St} (die block page f : Int) (a : Option Addr) (n cap2 : Nat) (w : World) (hG : Geo D B P Y) (h : RH D B P Y w rb ab nb wb db cap s) (ho : s.off = false) (hh : 0 ≤ die ∧ die < D ∧ 0 ≤ block ∧ block < B) (hp : page < 0) :
    Calls Tryd.prog 26 #[.pointer (some ⟨rb, 0, none⟩), .int .i64 die, .int .i64 block, .int .i64 page, .slice a n cap2, .int .i64 f] w fun e w' => e = .returned (.int .i64 1) ∧ Below w.heap.size w w' := by
  obtain ⟨d, b, rfl, rfl, hd, hb, hk, hlt⟩ := Here.nat (D := D) (B := B) hh
  try rw [hk] at hbd
  try rw [hk] at hx
  have HF := rfault_some d b w hG h ho hd hb
  have HC : Hid (RH D B P Y w rb ab nb wb db cap s) := h
  have HG : Hid (Geo D B P Y) := hG
  have HK : Hid (d * B + b < D * B) := hlt
  have hn64 := hG.n.2
  have y1 := hG.y1
  have p1 := hG.p1
  have hk64 : d * B + b < 64 := by omega
  clear h hG ho hh hk hd hb
  generalize d * B + b = k at *
  generalize hDB : D * B = n64 at hlt hn64
  have HDB : Hid (D * B = n64) := hDB
  clear hDB
  go_enter Tryd.func26, Tryd.ntmps26
  go_wp2_with fail
  refine HF.mono ?_
  rintro e w1 ⟨rfl, hb1⟩
  have h1 := HC.out.below HG.out hb1
  have c2 := h1.c2
  have c3 := h1.c3
  have c5 := h1.c5
  have c7 := h1.c7
  rw [HDB.out] at c5 c7
  have r1 := h1.r1 k HK.out
  have r3 := h1.r3 k HK.out
  clear h1 HF
  go_wp2
  go_ret
  exact ⟨rfl, hb1⟩
set_option maxRecDepth 100000 in
set_option maxHeartbeats 1600000 in
theorem rprogram_page2 {D B P Y rb ab nb wb db cap : Nat} {s : St} (die block page f : Int) (a : Option Addr) (n cap2 : Nat) (w : World) (hG : Geo D B P Y) (h : RH D B P Y w rb ab nb wb db cap s) (ho : s.off = false) (hh : 0 ≤ die ∧ die < D ∧ 0 ≤ block ∧ block < B) (hp0 : 0 ≤ page) (hp : (P : Int) ≤ page) :
    Calls Tryd.prog 26 #[.pointer (some ⟨rb, 0, none⟩), .int .i64 die, .int .i64 block, .int .i64 page, .slice a n cap2, .int .i64 f] w fun e w' => e = .returned (.int .i64 1) ∧ Below w.heap.size w w' := by
  obtain ⟨d, b, rfl, rfl, hd, hb, hk, hlt⟩ := Here.nat (D := D) (B := B) hh
  try rw [hk] at hbd
  try rw [hk] at hx
  have HF := rfault_some d b w hG h ho hd hb
  have HC : Hid (RH D B P Y w rb ab nb wb db cap s) := h
  have HG : Hid (Geo D B P Y) := hG
  have HK : Hid (d * B + b < D * B) := hlt
  have hn64 := hG.n.2
  have y1 := hG.y1
  have p1 := hG.p1
  have hk64 : d * B + b < 64 := by omega
  clear h hG ho hh hk hd hb
  generalize d * B + b = k at *
  generalize hDB : D * B = n64 at hlt hn64
  have HDB : Hid (D * B = n64) := hDB
  clear hDB
  go_enter Tryd.func26, Tryd.ntmps26
  go_wp2_with fail
  refine HF.mono ?_
  rintro e w1 ⟨rfl, hb1⟩
  have h1 := HC.out.below HG.out hb1
  have c2 := h1.c2
  have c3 := h1.c3
  have c5 := h1.c5
  have c7 := h1.c7
  rw [HDB.out] at c5 c7
  have r1 := h1.r1 k HK.out
  have r3 := h1.r3 k HK.out
  clear h1 HF
  go_wp2
  go_ret
  exact ⟨rfl, hb1⟩
set_option maxRecDepth 100000 in
set_option maxHeartbeats 1600000 in
theorem rprogram_fault1 {D B P Y rb ab nb wb db cap : Nat} {s : St} (die block page f : Int) (a : Option Addr) (n cap2 : Nat) (w : World) (hG : Geo D B P Y) (h : RH D B P Y w rb ab nb wb db cap s) (ho : s.off = false) (hh : 0 ≤ die ∧ die < D ∧ 0 ≤ block ∧ block < B) (hp0 : 0 ≤ page) (hp : page < (P : Int)) (hf : f < 0) :
    Calls Tryd.prog 26 #[.pointer (some ⟨rb, 0, none⟩), .int .i64 die, .int .i64 block, .int .i64 page, .slice a n cap2, .int .i64 f] w fun e w' => e = .returned (.int .i64 1) ∧ Below w.heap.size w w' := by
  obtain ⟨d, b, rfl, rfl, hd, hb, hk, hlt⟩ := Here.nat (D := D) (B := B) hh
  try rw [hk] at hbd
  try rw [hk] at hx
  have HF := rfault_some d b w hG h ho hd hb
  have HC : Hid (RH D B P Y w rb ab nb wb db cap s) := h
  have HG : Hid (Geo D B P Y) := hG
  have HK : Hid (d * B + b < D * B) := hlt
  have hn64 := hG.n.2
  have y1 := hG.y1
  have p1 := hG.p1
  have hk64 : d * B + b < 64 := by omega
  clear h hG ho hh hk hd hb
  generalize d * B + b = k at *
  generalize hDB : D * B = n64 at hlt hn64
  have HDB : Hid (D * B = n64) := hDB
  clear hDB
  go_enter Tryd.func26, Tryd.ntmps26
  go_wp2_with fail
  refine HF.mono ?_
  rintro e w1 ⟨rfl, hb1⟩
  have h1 := HC.out.below HG.out hb1
  have c2 := h1.c2
  have c3 := h1.c3
  have c5 := h1.c5
  have c7 := h1.c7
  rw [HDB.out] at c5 c7
  have r1 := h1.r1 k HK.out
  have r3 := h1.r3 k HK.out
  clear h1 HF
  go_wp2
  go_ret
  exact ⟨rfl, hb1⟩
set_option maxRecDepth 100000 in
set_option maxHeartbeats 1600000 in
theorem rprogram_fault2 {D B P Y rb ab nb wb db cap : Nat} {s : St} (die block page f : Int) (a : Option Addr) (n cap2 : Nat) (w : World) (hG : Geo D B P Y) (h : RH D B P Y w rb ab nb wb db cap s) (ho : s.off = false) (hh : 0 ≤ die ∧ die < D ∧ 0 ≤ block ∧ block < B) (hp0 : 0 ≤ page) (hp : page < (P : Int)) (hf0 : 0 ≤ f) (hf : 2 < f) :
    Calls Tryd.prog 26 #[.pointer (some ⟨rb, 0, none⟩), .int .i64 die, .int .i64 block, .int .i64 page, .slice a n cap2, .int .i64 f] w fun e w' => e = .returned (.int .i64 1) ∧ Below w.heap.size w w' := by
  obtain ⟨d, b, rfl, rfl, hd, hb, hk, hlt⟩ := Here.nat (D := D) (B := B) hh
  try rw [hk] at hbd
  try rw [hk] at hx
  have HF := rfault_some d b w hG h ho hd hb
  have HC : Hid (RH D B P Y w rb ab nb wb db cap s) := h
  have HG : Hid (Geo D B P Y) := hG
  have HK : Hid (d * B + b < D * B) := hlt
  have hn64 := hG.n.2
  have y1 := hG.y1
  have p1 := hG.p1
  have hk64 : d * B + b < 64 := by omega
  clear h hG ho hh hk hd hb
  generalize d * B + b = k at *
  generalize hDB : D * B = n64 at hlt hn64
  have HDB : Hid (D * B = n64) := hDB
  clear hDB
  go_enter Tryd.func26, Tryd.ntmps26
  go_wp2_with fail
  refine HF.mono ?_
  rintro e w1 ⟨rfl, hb1⟩
  have h1 := HC.out.below HG.out hb1
  have c2 := h1.c2
  have c3 := h1.c3
  have c5 := h1.c5
  have c7 := h1.c7
  rw [HDB.out] at c5 c7
  have r1 := h1.r1 k HK.out
  have r3 := h1.r3 k HK.out
  clear h1 HF
  go_wp2
  go_ret
  exact ⟨rfl, hb1⟩
set_option maxRecDepth 100000 in
set_option maxHeartbeats 1600000 in
theorem rprogram_shape {D B P Y rb ab nb wb db cap : Nat} {s : St} (die block page f : Int) (a : Option Addr) (n cap2 : Nat) (w : World) (hG : Geo D B P Y) (h : RH D B P Y w rb ab nb wb db cap s) (ho : s.off = false) (hh : 0 ≤ die ∧ die < D ∧ 0 ≤ block ∧ block < B) (hp0 : 0 ≤ page) (hp : page < (P : Int)) (hf0 : 0 ≤ f) (hf : f ≤ 2) (hn : n ≠ Y) :
    Calls Tryd.prog 26 #[.pointer (some ⟨rb, 0, none⟩), .int .i64 die, .int .i64 block, .int .i64 page, .slice a n cap2, .int .i64 f] w fun e w' => e = .returned (.int .i64 2) ∧ Below w.heap.size w w' := by
  obtain ⟨d, b, rfl, rfl, hd, hb, hk, hlt⟩ := Here.nat (D := D) (B := B) hh
  try rw [hk] at hbd
  try rw [hk] at hx
  have HF := rfault_some d b w hG h ho hd hb
  have HC : Hid (RH D B P Y w rb ab nb wb db cap s) := h
  have HG : Hid (Geo D B P Y) := hG
  have HK : Hid (d * B + b < D * B) := hlt
  have hn64 := hG.n.2
  have y1 := hG.y1
  have p1 := hG.p1
  have hk64 : d * B + b < 64 := by omega
  have e3 : ((n : Int) != (Y : Int)) = true := by rw [bne_iff_ne]; omega
  clear hn
  clear h hG ho hh hk hd hb
  generalize d * B + b = k at *
  generalize hDB : D * B = n64 at hlt hn64
  have HDB : Hid (D * B = n64) := hDB
  clear hDB
  go_enter Tryd.func26, Tryd.ntmps26
  go_wp2_with fail
  refine HF.mono ?_
  rintro e w1 ⟨rfl, hb1⟩
  have h1 := HC.out.below HG.out hb1
  have c2 := h1.c2
  have c3 := h1.c3
  have c5 := h1.c5
  have c7 := h1.c7
  rw [HDB.out] at c5 c7
  have r1 := h1.r1 k HK.out
  have r3 := h1.r3 k HK.out
  clear h1 HF
  go_wp2
  go_ret
  exact ⟨rfl, hb1⟩
set_option maxRecDepth 100000 in
set_option maxHeartbeats 1600000 in
theorem rprogram_bad {D B P Y rb ab nb wb db cap : Nat} {s : St} (die block page f : Int) (a : Option Addr) (n cap2 : Nat) (w : World) (hG : Geo D B P Y) (h : RH D B P Y w rb ab nb wb db cap s) (ho : s.off = false) (hh : 0 ≤ die ∧ die < D ∧ 0 ≤ block ∧ block < B) (hp0 : 0 ≤ page) (hp : page < (P : Int)) (hf0 : 0 ≤ f) (hf : f ≤ 2) (hn : n = Y) (hbd : s.bad (kOf B die block) = true) :
    Calls Tryd.prog 26 #[.pointer (some ⟨rb, 0, none⟩), .int .i64 die, .int .i64 block, .int .i64 page, .slice a n cap2, .int .i64 f] w fun e w' => e = .returned (.int .i64 6) ∧ Below w.heap.size w w' := by
  obtain ⟨d, b, rfl, rfl, hd, hb, hk, hlt⟩ := Here.nat (D := D) (B := B) hh
  try rw [hk] at hbd
  try rw [hk] at hx
  have HF := rfault_some d b w hG h ho hd hb
  have HC : Hid (RH D B P Y w rb ab nb wb db cap s) := h
  have HG : Hid (Geo D B P Y) := hG
  have HK : Hid (d * B + b < D * B) := hlt
  have hn64 := hG.n.2
  have y1 := hG.y1
  have p1 := hG.p1
  have hk64 : d * B + b < 64 := by omega
  have hn' := hn.symm
  subst hn'
  clear h hG ho hh hk hd hb
  generalize d * B + b = k at *
  generalize hDB : D * B = n64 at hlt hn64
  have HDB : Hid (D * B = n64) := hDB
  clear hDB
  go_enter Tryd.func26, Tryd.ntmps26
  go_wp2_with fail
  refine HF.mono ?_
  rintro e w1 ⟨rfl, hb1⟩
  have h1 := HC.out.below HG.out hb1
  have c2 := h1.c2
  have c3 := h1.c3
  have c5 := h1.c5
  have c7 := h1.c7
  rw [HDB.out] at c5 c7
  have r1 := h1.r1 k HK.out
  have r3 := h1.r3 k HK.out
  rw [hbd] at r3
  clear h1 HF
  go_wp2
  go_ret
  exact ⟨rfl, hb1⟩
set_option maxRecDepth 100000 in
set_option maxHeartbeats 1600000 in
theorem rprogram_order {D B P Y rb ab nb wb db cap : Nat} {s : St} (die block page f : Int) (a : Option Addr) (n cap2 : Nat) (w : World) (hG : Geo D B P Y) (h : RH D B P Y w rb ab nb wb db cap s) (ho : s.off = false) (hh : 0 ≤ die ∧ die < D ∧ 0 ≤ block ∧ block < B) (hp0 : 0 ≤ page) (hp : page < (P : Int)) (hf0 : 0 ≤ f) (hf : f ≤ 2) (hn : n = Y) (hbd : s.bad (kOf B die block) = false) (hx : page ≠ (s.next (kOf B die block) : Int)) :
    Calls Tryd.prog 26 #[.pointer (some ⟨rb, 0, none⟩), .int .i64 die, .int .i64 block, .int .i64 page, .slice a n cap2, .int .i64 f] w fun e w' => e = .returned (.int .i64 5) ∧ Below w.heap.size w w' := by
  obtain ⟨d, b, rfl, rfl, hd, hb, hk, hlt⟩ := Here.nat (D := D) (B := B) hh
  try rw [hk] at hbd
  try rw [hk] at hx
  have HF := rfault_some d b w hG h ho hd hb
  have HC : Hid (RH D B P Y w rb ab nb wb db cap s) := h
  have HG : Hid (Geo D B P Y) := hG
  have HK : Hid (d * B + b < D * B) := hlt
  have hn64 := hG.n.2
  have y1 := hG.y1
  have p1 := hG.p1
  have hk64 : d * B + b < 64 := by omega
  have hn' := hn.symm
  subst hn'
  have e4 : ((s.next (d * B + b) : Int) != page) = true := by rw [bne_iff_ne]; exact fun e => hx e.symm
  clear hx
  clear h hG ho hh hk hd hb
  generalize d * B + b = k at *
  generalize hDB : D * B = n64 at hlt hn64
  have HDB : Hid (D * B = n64) := hDB
  clear hDB
  go_enter Tryd.func26, Tryd.ntmps26
  go_wp2_with fail
  refine HF.mono ?_
  rintro e w1 ⟨rfl, hb1⟩
  have h1 := HC.out.below HG.out hb1
  have c2 := h1.c2
  have c3 := h1.c3
  have c5 := h1.c5
  have c7 := h1.c7
  rw [HDB.out] at c5 c7
  have r1 := h1.r1 k HK.out
  have r3 := h1.r3 k HK.out
  rw [hbd] at r3
  clear h1 HF
  go_wp2
  go_ret
  exact ⟨rfl, hb1⟩
set_option maxRecDepth 100000 in
set_option maxHeartbeats 1600000 in
theorem rerase_off {D B P Y rb ab nb wb db cap : Nat} {s : St} (die block f : Int) (w : World) (hG : Geo D B P Y) (h : RH D B P Y w rb ab nb wb db cap s) (ho : s.off = true) :
    Calls Tryd.prog 28 #[.pointer (some ⟨rb, 0, none⟩), .int .i64 die, .int .i64 block, .int .i64 f] w fun e w' => e = .returned (.int .i64 7) ∧ w' = w := by
  have HF := rfault_off die block w h ho 
  clear h hG 
  go_enter Tryd.func28, Tryd.ntmps28
  go_wp2_with fail
  refine HF.mono ?_
  rintro e w1 ⟨rfl, rfl⟩
  go_wp2
  go_ret
  exact ⟨rfl, rfl⟩
set_option maxRecDepth 100000 in
set_option maxHeartbeats 1600000 in
theorem rerase_none {D B P Y rb ab nb wb db cap : Nat} {s : St} (die block f : Int) (w : World) (hG : Geo D B P Y) (h : RH D B P Y w rb ab nb wb db cap s) (ho : s.off = false) (hno : ¬ (0 ≤ die ∧ die < D ∧ 0 ≤ block ∧ block < B)) :
    Calls Tryd.prog 28 #[.pointer (some ⟨rb, 0, none⟩), .int .i64 die, .int .i64 block, .int .i64 f] w fun e w' => e = .returned (.int .i64 1) ∧ w' = w := by
  have HF := rfault_none die block w h ho hno
  clear h hG hno
  go_enter Tryd.func28, Tryd.ntmps28
  go_wp2_with fail
  refine HF.mono ?_
  rintro e w1 ⟨rfl, rfl⟩
  go_wp2
  go_ret
  exact ⟨rfl, rfl⟩
set_option maxRecDepth 100000 in
set_option maxHeartbeats 1600000 in
theorem rerase_fault1 {D B P Y rb ab nb wb db cap : Nat} {s : St} (die block f : Int) (w : World) (hG : Geo D B P Y) (h : RH D B P Y w rb ab nb wb db cap s) (ho : s.off = false) (hh : 0 ≤ die ∧ die < D ∧ 0 ≤ block ∧ block < B) (hf : f < 0) :
    Calls Tryd.prog 28 #[.pointer (some ⟨rb, 0, none⟩), .int .i64 die, .int .i64 block, .int .i64 f] w fun e w' => e = .returned (.int .i64 1) ∧ Below w.heap.size w w' := by
  obtain ⟨d, b, rfl, rfl, hd, hb, hk, hlt⟩ := Here.nat (D := D) (B := B) hh
  try rw [hk] at hbd
  try rw [hk] at hx
  have HF := rfault_some d b w hG h ho hd hb
  have HC : Hid (RH D B P Y w rb ab nb wb db cap s) := h
  have HG : Hid (Geo D B P Y) := hG
  have HK : Hid (d * B + b < D * B) := hlt
  have hn64 := hG.n.2
  have y1 := hG.y1
  have p1 := hG.p1
  have hk64 : d * B + b < 64 := by omega
  clear h hG ho hh hk hd hb
  generalize d * B + b = k at *
  generalize hDB : D * B = n64 at hlt hn64
  have HDB : Hid (D * B = n64) := hDB
  clear hDB
  go_enter Tryd.func28, Tryd.ntmps28
  go_wp2_with fail
  refine HF.mono ?_
  rintro e w1 ⟨rfl, hb1⟩
  have h1 := HC.out.below HG.out hb1
  have c2 := h1.c2
  have c3 := h1.c3
  have c5 := h1.c5
  have c7 := h1.c7
  rw [HDB.out] at c5 c7
  have r1 := h1.r1 k HK.out
  have r3 := h1.r3 k HK.out
  clear h1 HF
  go_wp2
  go_ret
  exact ⟨rfl, hb1⟩
set_option maxRecDepth 100000 in
set_option maxHeartbeats 1600000 in
theorem rerase_fault2 {D B P Y rb ab nb wb db cap : Nat} {s : St} (die block f : Int) (w : World) (hG : Geo D B P Y) (h : RH D B P Y w rb ab nb wb db cap s) (ho : s.off = false) (hh : 0 ≤ die ∧ die < D ∧ 0 ≤ block ∧ block < B) (hf0 : 0 ≤ f) (hf : 2 < f) :
    Calls Tryd.prog 28 #[.pointer (some ⟨rb, 0, none⟩), .int .i64 die, .int .i64 block, .int .i64 f] w fun e w' => e = .returned (.int .i64 1) ∧ Below w.heap.size w w' := by
  obtain ⟨d, b, rfl, rfl, hd, hb, hk, hlt⟩ := Here.nat (D := D) (B := B) hh
  try rw [hk] at hbd
  try rw [hk] at hx
  have HF := rfault_some d b w hG h ho hd hb
  have HC : Hid (RH D B P Y w rb ab nb wb db cap s) := h
  have HG : Hid (Geo D B P Y) := hG
  have HK : Hid (d * B + b < D * B) := hlt
  have hn64 := hG.n.2
  have y1 := hG.y1
  have p1 := hG.p1
  have hk64 : d * B + b < 64 := by omega
  clear h hG ho hh hk hd hb
  generalize d * B + b = k at *
  generalize hDB : D * B = n64 at hlt hn64
  have HDB : Hid (D * B = n64) := hDB
  clear hDB
  go_enter Tryd.func28, Tryd.ntmps28
  go_wp2_with fail
  refine HF.mono ?_
  rintro e w1 ⟨rfl, hb1⟩
  have h1 := HC.out.below HG.out hb1
  have c2 := h1.c2
  have c3 := h1.c3
  have c5 := h1.c5
  have c7 := h1.c7
  rw [HDB.out] at c5 c7
  have r1 := h1.r1 k HK.out
  have r3 := h1.r3 k HK.out
  clear h1 HF
  go_wp2
  go_ret
  exact ⟨rfl, hb1⟩
set_option maxRecDepth 100000 in
set_option maxHeartbeats 1600000 in
theorem rerase_bad {D B P Y rb ab nb wb db cap : Nat} {s : St} (die block f : Int) (w : World) (hG : Geo D B P Y) (h : RH D B P Y w rb ab nb wb db cap s) (ho : s.off = false) (hh : 0 ≤ die ∧ die < D ∧ 0 ≤ block ∧ block < B) (hf0 : 0 ≤ f) (hf : f ≤ 2) (hbd : s.bad (kOf B die block) = true) :
    Calls Tryd.prog 28 #[.pointer (some ⟨rb, 0, none⟩), .int .i64 die, .int .i64 block, .int .i64 f] w fun e w' => e = .returned (.int .i64 6) ∧ Below w.heap.size w w' := by
  obtain ⟨d, b, rfl, rfl, hd, hb, hk, hlt⟩ := Here.nat (D := D) (B := B) hh
  try rw [hk] at hbd
  try rw [hk] at hx
  have HF := rfault_some d b w hG h ho hd hb
  have HC : Hid (RH D B P Y w rb ab nb wb db cap s) := h
  have HG : Hid (Geo D B P Y) := hG
  have HK : Hid (d * B + b < D * B) := hlt
  have hn64 := hG.n.2
  have y1 := hG.y1
  have p1 := hG.p1
  have hk64 : d * B + b < 64 := by omega
  clear h hG ho hh hk hd hb
  generalize d * B + b = k at *
  generalize hDB : D * B = n64 at hlt hn64
  have HDB : Hid (D * B = n64) := hDB
  clear hDB
  go_enter Tryd.func28, Tryd.ntmps28
  go_wp2_with fail
  refine HF.mono ?_
  rintro e w1 ⟨rfl, hb1⟩
  have h1 := HC.out.below HG.out hb1
  have c2 := h1.c2
  have c3 := h1.c3
  have c5 := h1.c5
  have c7 := h1.c7
  rw [HDB.out] at c5 c7
  have r1 := h1.r1 k HK.out
  have r3 := h1.r3 k HK.out
  rw [hbd] at r3
  clear h1 HF
  go_wp2
  go_ret
  exact ⟨rfl, hb1⟩
set_option maxRecDepth 100000 in
set_option maxHeartbeats 1600000 in
theorem rread_off {D B P Y rb ab nb wb db cap : Nat} {s : St} (die block page : Int) (w : World) (hG : Geo D B P Y) (h : RH D B P Y w rb ab nb wb db cap s) (ho : s.off = true) :
    Calls Tryd.prog 27 #[.pointer (some ⟨rb, 0, none⟩), .int .i64 die, .int .i64 block, .int .i64 page] w fun e w' => e = .returned (.tuple #[.slice none 0 0, .int .i64 7]) ∧ w' = w := by
  have HF := rfault_off die block w h ho 
  clear h hG 
  go_enter Tryd.func27, Tryd.ntmps27
  go_wp2_with fail
  refine HF.mono ?_
  rintro e w1 ⟨rfl, rfl⟩
  go_wp2
  go_ret2
  exact ⟨rfl, rfl⟩
set_option maxRecDepth 100000 in
set_option maxHeartbeats 1600000 in
theorem rread_none {D B P Y rb ab nb wb db cap : Nat} {s : St} (die block page : Int) (w : World) (hG : Geo D B P Y) (h : RH D B P Y w rb ab nb wb db cap s) (ho : s.off = false) (hno : ¬ (0 ≤ die ∧ die < D ∧ 0 ≤ block ∧ block < B)) :
    Calls Tryd.prog 27 #[.pointer (some ⟨rb, 0, none⟩), .int .i64 die, .int .i64 block, .int .i64 page] w fun e w' => e = .returned (.tuple #[.slice none 0 0, .int .i64 1]) ∧ w' = w := by
  have HF := rfault_none die block w h ho hno
  clear h hG hno
  go_enter Tryd.func27, Tryd.ntmps27
  go_wp2_with fail
  refine HF.mono ?_
  rintro e w1 ⟨rfl, rfl⟩
  go_wp2
  go_ret2
  exact ⟨rfl, rfl⟩
set_option maxRecDepth 100000 in
set_option maxHeartbeats 1600000 in
theorem rread_page1 {D B P Y rb ab nb wb db cap : Nat} {s : St} (die block page : Int) (w : World) (hG : Geo D B P Y) (h : RH D B P Y w rb ab nb wb db cap s) (ho : s.off = false) (hh : 0 ≤ die ∧ die < D ∧ 0 ≤ block ∧ block < B) (hp : page < 0) :
    Calls Tryd.prog 27 #[.pointer (some ⟨rb, 0, none⟩), .int .i64 die, .int .i64 block, .int .i64 page] w fun e w' => e = .returned (.tuple #[.slice none 0 0, .int .i64 1]) ∧ Below w.heap.size w w' := by
  obtain ⟨d, b, rfl, rfl, hd, hb, hk, hlt⟩ := Here.nat (D := D) (B := B) hh
  try rw [hk] at hbd
  try rw [hk] at hx
  have HF := rfault_some d b w hG h ho hd hb
  have HC : Hid (RH D B P Y w rb ab nb wb db cap s) := h
  have HG : Hid (Geo D B P Y) := hG
  have HK : Hid (d * B + b < D * B) := hlt
  have hn64 := hG.n.2
  have y1 := hG.y1
  have p1 := hG.p1
  have hk64 : d * B + b < 64 := by omega
  clear h hG ho hh hk hd hb
  generalize d * B + b = k at *
  generalize hDB : D * B = n64 at hlt hn64
  have HDB : Hid (D * B = n64) := hDB
  clear hDB
  go_enter Tryd.func27, Tryd.ntmps27
  go_wp2_with fail
  refine HF.mono ?_
  rintro e w1 ⟨rfl, hb1⟩
  have h1 := HC.out.below HG.out hb1
  have c2 := h1.c2
  have c3 := h1.c3
  have c5 := h1.c5
  have c7 := h1.c7
  rw [HDB.out] at c5 c7
  have r1 := h1.r1 k HK.out
  have r3 := h1.r3 k HK.out
  clear h1 HF
  go_wp2
  go_ret2
  exact ⟨rfl, hb1⟩
set_option maxRecDepth 100000 in
set_option maxHeartbeats 1600000 in
theorem rread_page2 {D B P Y rb ab nb wb db cap : Nat} {s : St} (die block page : Int) (w : World) (hG : Geo D B P Y) (h : RH D B P Y w rb ab nb wb db cap s) (ho : s.off = false) (hh : 0 ≤ die ∧ die < D ∧ 0 ≤ block ∧ block < B) (hp0 : 0 ≤ page) (hp : (P : Int) ≤ page) :
    Calls Tryd.prog 27 #[.pointer (some ⟨rb, 0, none⟩), .int .i64 die, .int .i64 block, .int .i64 page] w fun e w' => e = .returned (.tuple #[.slice none 0 0, .int .i64 1]) ∧ Below w.heap.size w w' := by
  obtain ⟨d, b, rfl, rfl, hd, hb, hk, hlt⟩ := Here.nat (D := D) (B := B) hh
  try rw [hk] at hbd
  try rw [hk] at hx
  have HF := rfault_some d b w hG h ho hd hb
  have HC : Hid (RH D B P Y w rb ab nb wb db cap s) := h
  have HG : Hid (Geo D B P Y) := hG
  have HK : Hid (d * B + b < D * B) := hlt
  have hn64 := hG.n.2
  have y1 := hG.y1
  have p1 := hG.p1
  have hk64 : d * B + b < 64 := by omega
  clear h hG ho hh hk hd hb
  generalize d * B + b = k at *
  generalize hDB : D * B = n64 at hlt hn64
  have HDB : Hid (D * B = n64) := hDB
  clear hDB
  go_enter Tryd.func27, Tryd.ntmps27
  go_wp2_with fail
  refine HF.mono ?_
  rintro e w1 ⟨rfl, hb1⟩
  have h1 := HC.out.below HG.out hb1
  have c2 := h1.c2
  have c3 := h1.c3
  have c5 := h1.c5
  have c7 := h1.c7
  rw [HDB.out] at c5 c7
  have r1 := h1.r1 k HK.out
  have r3 := h1.r3 k HK.out
  clear h1 HF
  go_wp2
  go_ret2
  exact ⟨rfl, hb1⟩
end Go.Proofs.YtjeelaaimhckhabDoor

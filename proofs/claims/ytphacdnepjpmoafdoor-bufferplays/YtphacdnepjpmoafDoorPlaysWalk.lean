/-
  What the call of BufferPlays gives: true.
-/
import Derived.Test.YtphacdnepjpmoafDoorStepD
namespace Go.Proofs.YtphacdnepjpmoafDoor
open Go.RowKit
set_option linter.unusedVariables false

theorem step_any {B bb mb most rb : Nat} {w0 wr : World} {L : List It} (h : PS B bb mb most rb w0 wr L) (hE : EType w0) (hB : w0.heap.size = B) (o : OpD) (hL : Lies w0 o.a o.data) (hb : o.data.length ≤ 140737488355328) (h9 : o.lba ≤ 9223372036854775807) :
    Calls Tryd.prog 13 #[.pointer (some ⟨bb, 0, none⟩), .pointer (some ⟨rb, 0, none⟩), .agg #[.int .i64 o.kind, .int .i64 o.lba, .slice o.a o.data.length o.cap]] wr fun e w' => e = .returned (.bool true) ∧ ∃ L', PS B bb mb most rb w0 w' L' := by
  by_cases k1 : o.kind = 1
  · rw [k1]; exact step_put h hE hB o.lba o.data o.a o.cap h9 hL hb
  by_cases k2 : o.kind = 2
  · rw [k2]; exact step_drop h hE hB o.lba o.a o.data.length o.cap h9
  by_cases k3 : o.kind = 3
  · rw [k3]
    by_cases hl : o.lba < 0
    · exact step_miss h hE hB o.lba o.a o.data.length o.cap h9 (Or.inl hl)
    · cases hf : fnd L o.lba with
      | none => exact step_miss h hE hB o.lba o.a o.data.length o.cap h9 (Or.inr hf)
      | some x => exact step_hit h hB o.lba o.a o.data.length o.cap (by omega) h9 x hf
  · exact step_drain h hB o.kind o.lba o.a o.data.length o.cap k1 k2 k3
theorem PS.nums {B bb mb most rb : Nat} {w0 wr : World} {L : List It} (h : PS B bb mb most rb w0 wr L) : (∃ ia icap, wr.cell? ⟨rb, 1, none⟩ = some (.slice ia L.length icap)) ∧ Calls Tryd.prog 14 #[.pointer (some ⟨bb, 0, none⟩)] wr fun e w' => e = .returned (.int .i64 (L.length : Nat)) ∧ w' = wr := by
  refine ⟨?_, h.ls.len⟩
  obtain ⟨ia, icap, M, h1, h2, h3, h4, h5⟩ := h
  refine ⟨ia, icap, ?_⟩
  rw [← h3, List.length_map]
  exact h2.c1
set_option maxRecDepth 20000 in
set_option maxHeartbeats 1600000 in
theorem plays_bad (m : Int) (a1 : Option Addr) (n1 c1 : Nat) (w : World) (hE : EType w) (h : m < 1 ∨ 16 < m) :
    Calls Tryd.prog 4 #[.int .i64 m, .slice a1 n1 c1] w fun e w' => e = .returned (.bool true) ∧ Below w.heap.size w w' := by
  have HN := new_bad m w h
  have HE := error_same 1 w hE
  rcases h with h | h
  · go_enter Tryd.func4, Tryd.ntmps4
    go_wp2_with fail
    refine HN.mono ?_
    rintro e w1 ⟨rfl, rfl⟩
    clear HN
    go_wp2_with fail
    refine HE.mono ?_
    rintro e w2 ⟨rfl, h2⟩
    clear HE
    go_wp2
    go_ret
    exact ⟨rfl, h2⟩
  · have h0 : ¬ m < 1 := by omega
    go_enter Tryd.func4, Tryd.ntmps4
    go_wp2_with fail
    refine HN.mono ?_
    rintro e w1 ⟨rfl, rfl⟩
    clear HN
    go_wp2_with fail
    refine HE.mono ?_
    rintro e w2 ⟨rfl, h2⟩
    clear HE
    go_wp2
    go_ret
    exact ⟨rfl, h2⟩
set_option maxRecDepth 20000 in
set_option maxHeartbeats 1600000 in
theorem plays_good (m : Nat) (a1 : Option Addr) (n1 c1 : Nat) (w : World) (hE : EType w) (h1 : 1 ≤ m) (h2 : m ≤ 16) (hS : Script w a1 n1) (hn1 : n1 ≤ 9223372036854775807) :
    Calls Tryd.prog 4 #[.int .i64 m, .slice a1 n1 c1] w fun e w' => e = .returned (.bool true) ∧ Below w.heap.size w w' := by
  have HN : Hid (Calls Tryd.prog 12 #[.int .i64 m] w fun e w' => ∃ bb mb, e = .returned (.tuple #[.pointer (some ⟨bb, 0, none⟩), .nilIface]) ∧ LS w.heap.size bb mb m w w' []) := (new_yes m w h1 h2).mono fun e w' ⟨e1, e2, e3⟩ => ⟨_, _, e1, e2, e3⟩
  have HS : Hid (Script w a1 n1) := hS
  have HE : Hid (EType w) := hE
  obtain ⟨B, hB⟩ : ∃ B, Hid (w.heap.size = B) := ⟨_, rfl⟩
  rw [hB.out] at HN ⊢
  clear hS hE
  have g1 : (1 : Int) ≤ (m : Int) := by omega
  have g2 : (m : Int) ≤ 16 := by omega
  go_enter Tryd.func4, Tryd.ntmps4
  go_wp2_with fail
  refine HN.out.mono ?_
  rintro e w1 ⟨bb, mb, rfl, hs1⟩
  have H1 : Hid (PS B bb mb m w1.heap.size w (w1.alloc (.cells #[.int .i64 (m : Nat), .slice none 0 0] 42)) []) := by
    have hb := alloc_below' w1 (.cells #[.int .i64 (m : Nat), .slice none 0 0] 42)
    exact ⟨none, 0, [], hs1.below hb, ⟨heap_alloc_new w1 _, Or.inl rfl, Nat.zero_le _, by omega⟩, rfl, fun x hx => by simp at hx, hs1.bs.lt⟩
  clear HN hs1
  generalize hrb : w1.heap.size = rb at H1
  go_wp2
  have hrb' : Hid (w1.heap.size = rb) := hrb
  clear hrb
  go_loopw [8] (fun j wr => ∃ (k : Nat) (L : List It), k ≤ n1 ∧ j = .int .i64 k ∧ Hid (PS B bb mb m rb w wr L)) (fun j _ => n1 - (intOf j).toNat)
  case atStart => exact ⟨0, [], Nat.zero_le _, rfl, H1⟩
  case round =>
    obtain ⟨k, L, hk, rfl, hR⟩ := hrel
    clear H1
    by_cases hlt : k < n1
    · obtain ⟨so, oo, ha2, o, hO⟩ := HS.out.slice hlt
      have hOr := hO.below hR.out.ls.bel (Nat.le_of_eq hB.out)
      have k0 := hOr.k0
      have k1 := hOr.k1
      have k2 := hOr.k2
      have HST : Hid (Calls Tryd.prog 13 #[.pointer (some ⟨bb, 0, none⟩), .pointer (some ⟨rb, 0, none⟩), .agg #[.int .i64 o.kind, .int .i64 o.lba, .slice o.a o.data.length o.cap]] wr fun e w' => e = .returned (.bool true) ∧ ∃ L', Hid (PS B bb mb m rb w w' L')) := step_any hR.out HE.out hB.out o hO.li hO.dl hO.l9
      clear hO hOr hR
      subst ha2
      go_wp2_with fail
      refine HST.out.mono ?_
      rintro e w3 ⟨rfl, L', h3⟩
      clear HST k0 k1 k2
      obtain ⟨⟨ia, icap, c1⟩, hLn⟩ := h3.out.nums
      go_wp2_with fail
      refine hLn.mono ?_
      rintro e w4 ⟨rfl, rfl⟩
      clear hLn
      go_wp2
      exact ⟨⟨k + 1, L', by omega, by go_num, h3⟩, by simp [intOf]; omega⟩
    · obtain rfl : k = n1 := by omega
      have HF : Hid (Below B w wr) := hR.out.ls.bel
      clear hR
      go_wp2
      go_ret
      exact ⟨rfl, HF.out⟩
theorem plays_any (m : Int) (a1 : Option Addr) (n1 c1 : Nat) (w : World) (hE : EType w) (hS : Script w a1 n1) (hn1 : n1 * 40 ≤ 140737488351232) :
    Calls Tryd.prog 4 #[.int .i64 m, .slice a1 n1 c1] w fun e w' => e = .returned (.bool true) ∧ Below w.heap.size w w' := by
  by_cases h : m < 1 ∨ 16 < m
  · exact plays_bad m a1 n1 c1 w hE h
  · obtain ⟨k, rfl⟩ := Int.eq_ofNat_of_zero_le (show 0 ≤ m by omega)
    exact plays_good k a1 n1 c1 w hE (by omega) (by omega) hS (by omega)
end Go.Proofs.YtphacdnepjpmoafDoor

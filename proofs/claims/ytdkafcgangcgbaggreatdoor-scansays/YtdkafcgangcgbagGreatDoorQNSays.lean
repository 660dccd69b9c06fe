/-
  What the call of ScanSays gives in the ghost's program: true.
-/
import Derived.Test.YtdkafcgangcgbagGreatDoorQA
import Derived.Test.YtdkafcgangcgbagGreatDoorQ9
namespace Go.Proofs.YtdkafcgangcgbagGreatDoorQ
open Go.Proofs.YtdkafcgangcgbagGreatDoorM
open Go.RowKit
set_option linter.unusedVariables false

theorem refNewest_any (pa : Option Addr) (pc : Nat) (L : List Pg) (w : World) (hl : L.length ≤ 4096) (hp : Pgs w pa L) :
    Calls (Al.progOf Tryz.prog) 8 #[.slice pa L.length pc] w fun e w' => NewOwn w w' e L := by
  by_cases h : L = []
  · subst h
    exact refNewest_nil pa pc w
  · obtain ⟨b, off, rfl, hq⟩ := hp.resolve_left h
    exact refNewest_some b off pc L w hl hq
set_option maxHeartbeats 800000 in
theorem fault_low (pa : Option Addr) (l pc : Nat) (n : Int) (w : World) (h : n < 1) : Calls (Al.progOf Tryz.prog) 6 #[.slice pa l pc, .int .i64 n] w fun e w' => e = .returned (.int .i64 1) ∧ w' = w := by
  go_enter Al.func6, Tryz.ntmps6
  go_wp2
  go_ret
  exact ⟨rfl, rfl⟩
set_option maxHeartbeats 800000 in
theorem fault_high (pa : Option Addr) (l pc : Nat) (n : Int) (w : World) (h0 : ¬ n < 1) (h : n > 8) : Calls (Al.progOf Tryz.prog) 6 #[.slice pa l pc, .int .i64 n] w fun e w' => e = .returned (.int .i64 1) ∧ w' = w := by
  have h2 : (8 : Int) < n := h
  go_enter Al.func6, Tryz.ntmps6
  go_wp2
  go_ret
  exact ⟨rfl, rfl⟩
set_option maxHeartbeats 800000 in
theorem fault_more (pa : Option Addr) (l pc : Nat) (n : Int) (w : World) (h0 : ¬ n < 1) (h8 : ¬ (8 : Int) < n) (h : (4096 : Int) < (l : Int)) : Calls (Al.progOf Tryz.prog) 6 #[.slice pa l pc, .int .i64 n] w fun e w' => e = .returned (.int .i64 3) ∧ w' = w := by
  go_enter Al.func6, Tryz.ntmps6
  go_wp2
  go_ret
  exact ⟨rfl, rfl⟩
set_option maxHeartbeats 800000 in
theorem fault_none (pa : Option Addr) (l pc : Nat) (n : Int) (w : World) (h0 : ¬ n < 1) (h8 : ¬ (8 : Int) < n) (h : ¬ (4096 : Int) < (l : Int)) : Calls (Al.progOf Tryz.prog) 6 #[.slice pa l pc, .int .i64 n] w fun e w' => e = .returned (.int .i64 0) ∧ w' = w := by
  go_enter Al.func6, Tryz.ntmps6
  go_wp2
  go_ret
  exact ⟨rfl, rfl⟩
set_option maxHeartbeats 800000 in
theorem error_nil (w : World) : Calls (Al.progOf Tryz.prog) 7 #[.nilIface, .int .i64 0] w fun e w' => e = .returned (.bool true) ∧ w' = w := by
  have HT : Hid (Calls (Al.progOf Tryz.prog) 18 #[.nilIface] w fun e w' => e = .returned (.int .i64 0) ∧ w' = w) := toldq_nil w
  go_enter Al.func7, Tryz.ntmps7
  go_wp2_with fail
  refine HT.out.mono ?_
  rintro e w1 ⟨rfl, rfl⟩
  clear HT
  go_wp2
  go_ret
  exact ⟨rfl, rfl⟩
set_option maxHeartbeats 800000 in
theorem error_same (k : Int) (w : World) : Calls (Al.progOf Tryz.prog) 7 #[.iface 31 (.int .i64 k), .int .i64 k] w fun e w' => e = .returned (.bool true) ∧ w' = w := by
  have HT : Hid (Calls (Al.progOf Tryz.prog) 18 #[.iface 31 (.int .i64 k)] w fun e w' => e = .returned (.int .i64 k) ∧ w' = w) := toldq_errno k w
  go_enter Al.func7, Tryz.ntmps7
  go_wp2_with fail
  refine HT.out.mono ?_
  rintro e w1 ⟨rfl, rfl⟩
  clear HT
  go_wp2
  go_ret
  exact ⟨rfl, rfl⟩
set_option maxRecDepth 20000 in
set_option maxHeartbeats 4000000 in
theorem says_bad (pa : Option Addr) (l pc : Nat) (n z : Int) (w : World) (hz : (z == 0) = false) (hlk : ∀ W : World, Calls (Al.progOf Tryz.prog) 11 #[.slice pa l pc, .int .i64 n] W fun e w' => e = .returned (.tuple #[.slice none 0 0, .iface 31 (.int .i64 z)]) ∧ w' = W) (hf : ∀ W : World, Calls (Al.progOf Tryz.prog) 6 #[.slice pa l pc, .int .i64 n] W fun e w' => e = .returned (.int .i64 z) ∧ w' = W) :
    Calls (Al.progOf Tryz.prog) 3 #[.slice pa l pc, .int .i64 n] w fun e w' => e = .returned (.bool true) ∧ Below w.heap.size w w' := by
  have H1 : Hid (Calls (Al.progOf Tryz.prog) 4 #[.slice pa l pc, .int .i64 n] w fun e w' => e = .returned (.tuple #[.slice none 0 0, .iface 31 (.int .i64 z)]) ∧ w' = w) := newest_bad pa l pc n z w (hlk w)
  have H2 : Hid (Calls (Al.progOf Tryz.prog) 5 #[.slice pa l pc, .int .i64 n] w fun e w' => e = .returned (.tuple #[.slice none 0 0, .iface 31 (.int .i64 z)]) ∧ w' = w) := states_bad pa l pc n z w (hlk w)
  have H3 : Hid (Calls (Al.progOf Tryz.prog) 6 #[.slice pa l pc, .int .i64 n] w fun e w' => e = .returned (.int .i64 z) ∧ w' = w) := hf w
  have H4 : Hid (Calls (Al.progOf Tryz.prog) 7 #[.iface 31 (.int .i64 z), .int .i64 z] w fun e w' => e = .returned (.bool true) ∧ w' = w) := error_same z w
  clear hlk hf
  go_enter Al.func3, Tryz.ntmps3
  go_wp2_with fail
  refine H1.out.mono ?_
  rintro e _ ⟨rfl, rfl⟩
  go_wp2_with fail
  refine H2.out.mono ?_
  rintro e _ ⟨rfl, rfl⟩
  go_wp2_with fail
  refine H3.out.mono ?_
  rintro e _ ⟨rfl, rfl⟩
  go_wp2_with fail
  refine H4.out.mono ?_
  rintro e _ ⟨rfl, rfl⟩
  go_wp2_with fail
  refine H4.out.mono ?_
  rintro e _ ⟨rfl, rfl⟩
  clear H1 H2 H3 H4
  go_wp2
  go_ret
  exact ⟨rfl, Below.refl _ _⟩
/-- Between two rounds of the law's: the states lie there. -/
structure SL (w : World) (gs : Nat) (L : List Pg) (W : World) : Prop where
  row : ∀ i, i < L.length → W.cell? ⟨gs, i, none⟩ = some (.int .i64 (stP (gP L i).p : Nat))
  bel : Below w.heap.size w W
theorem SL.below {w W W' : World} {gs : Nat} {L : List Pg} (h : SL w gs L W) (hb : Below W.heap.size W W') : SL w gs L W' := ⟨fun i hi => lies_cell hb (h.row i hi), h.bel.trans (hb.mono h.bel.size)⟩
set_option maxRecDepth 20000 in
set_option maxHeartbeats 4000000 in
theorem says_good (pa : Option Addr) (pc : Nat) (L : List Pg) (n : Int) (w : World) (h0 : ¬ n < 1) (h8 : ¬ n > 8) (hl : L.length ≤ 4096) (hp : Pgs w pa L) :
    Calls (Al.progOf Tryz.prog) 3 #[.slice pa L.length pc, .int .i64 n] w fun e w' => e = .returned (.bool true) ∧ Below w.heap.size w w' := by
  have H1 : Hid (Calls (Al.progOf Tryz.prog) 4 #[.slice pa L.length pc, .int .i64 n] w fun e w' => ∃ x cap, e = .returned (.tuple #[.slice x (newF L).length cap, .nilIface]) ∧ Hid (FRow w' x (newF L) ∧ Below w.heap.size w w')) := (newest_any pa pc L n w h0 h8 hl hp).mono fun e w' ⟨x, cap, g1, g2, g3⟩ => ⟨x, cap, g1, g2.at, g3⟩
  have H2 : Hid (∀ W, Below w.heap.size w W → Calls (Al.progOf Tryz.prog) 5 #[.slice pa L.length pc, .int .i64 n] W fun e w' => ∃ g, e = .returned (.tuple #[.slice (some ⟨g, 0, none⟩) L.length L.length, .nilIface]) ∧ Hid (SL w g L w' ∧ Below W.heap.size W w')) := fun W hb => (states_any pa pc L n W h0 h8 hl (hp.below hb)).mono fun e w' ⟨g, cs, g1, g2, _, g3, g4⟩ => ⟨g, g1, ⟨fun i hi => by rw [← g3 i hi]; simp [World.cell?, g2], hb.trans (g4.mono hb.size)⟩, g4⟩
  have H3 : Hid (∀ W, Calls (Al.progOf Tryz.prog) 6 #[.slice pa L.length pc, .int .i64 n] W fun e w' => e = .returned (.int .i64 0) ∧ w' = W) := fun W => fault_none pa L.length pc n W h0 h8 (by omega)
  have H4 : Hid (∀ W, Calls (Al.progOf Tryz.prog) 7 #[.nilIface, .int .i64 0] W fun e w' => e = .returned (.bool true) ∧ w' = W) := fun W => error_nil W
  have H5 : Hid (∀ W, Below w.heap.size w W → Calls (Al.progOf Tryz.prog) 8 #[.slice pa L.length pc] W fun e w' => ∃ y cap, e = .returned (.slice y (newF L).length cap) ∧ Hid (FRow w' y (newF L) ∧ Below W.heap.size W w')) := fun W hb => (refNewest_any pa pc L W hl (hp.below hb)).mono fun e w' ⟨y, cap, g1, g2, g3⟩ => ⟨y, cap, g1, g2.at, g3⟩
  have H6 : Hid (∀ W x y cx cy, FRow W x (newF L) → FRow W y (newF L) → Calls (Al.progOf Tryz.prog) 9 #[.slice x (newF L).length cx, .slice y (newF L).length cy] W fun e w' => e = .returned (.bool true) ∧ Hid (Below W.heap.size W w')) := fun W x y cx cy h1 h2 => founds_same (Nat.le_trans (newF_len L) hl) h1 h2
  have H7 : Hid (∀ W k, k < L.length → Below w.heap.size w W → ∃ b off, pa = some ⟨b, off, none⟩ ∧ W.cell? ⟨b, off + k, none⟩ = some (.slice (gP L k).a (gP L k).p.length (gP L k).c) ∧ Hid (Calls (Al.progOf Tryz.prog) 10 #[.slice (gP L k).a (gP L k).p.length (gP L k).c] W fun e w' => ∃ a d c, e = .returned (.tuple #[FV (kdP (gP L k).p : Nat) (lbP (gP L k).p : Nat) (sqP (gP L k).p : Nat) a d c, .int .i64 (stP (gP L k).p : Nat)]) ∧ Hid (Below W.heap.size W w'))) := fun W k hk hb => by
    obtain ⟨b, off, e, hat⟩ := (hp.below hb).resolve_left (fun e => by rw [e] at hk; simp at hk)
    have h := (hat k hk).2
    exact ⟨b, off, e, (hat k hk).1, ref_sight _ _ _ W h.all h.lies h.cap h.most⟩
  clear hp h0 h8
  go_enter Al.func3, Tryz.ntmps3
  go_wp2_with fail
  refine H1.out.mono ?_
  rintro e w1 ⟨x, cx, rfl, h1⟩
  clear H1
  go_wp2_with fail
  refine (H2.out w1 h1.out.2).mono ?_
  rintro e w2 ⟨gs, rfl, h2⟩
  have HA : Hid (FRow w2 x (newF L) ∧ SL w gs L w2) := ⟨h1.out.1.below h2.out.2, h2.out.1⟩
  clear H2 h1 h2
  go_wp2_with fail
  refine (H3.out w2).mono ?_
  rintro e w3 ⟨rfl, hw3⟩
  subst hw3
  clear H3
  go_wp2_with fail
  refine (H4.out w3).mono ?_
  rintro e w4 ⟨rfl, hw4⟩
  subst hw4
  go_wp2_with fail
  refine (H4.out w4).mono ?_
  rintro e w5 ⟨rfl, hw5⟩
  subst hw5
  clear H4
  go_wp2_with fail
  refine (H5.out w5 HA.out.2.bel).mono ?_
  rintro e w6 ⟨y, cy, rfl, h6⟩
  have HB : Hid (FRow w6 x (newF L) ∧ FRow w6 y (newF L) ∧ SL w gs L w6) := ⟨HA.out.1.below h6.out.2, h6.out.1, HA.out.2.below h6.out.2⟩
  clear H5 HA h6
  go_wp2_with fail
  refine (H6.out w6 x y cx cy HB.out.1 HB.out.2.1).mono ?_
  rintro e w7 ⟨rfl, h7⟩
  have HC : Hid (SL w gs L w7) := HB.out.2.2.below h7.out
  clear H6 HB h7
  go_wp2
  go_loopw [14] (fun j wr => ∃ k : Nat, k ≤ L.length ∧ j = .int .i64 (k : Nat) ∧ Hid (SL w gs L wr)) (fun j _ => L.length - (intOf j).toNat)
  case atStart => exact ⟨0, Nat.zero_le _, rfl, HC⟩
  case round =>
    clear HC
    obtain ⟨k, hk, rfl, hS⟩ := hrel
    by_cases hlt : k < L.length
    · obtain ⟨b, off, hpa, hc, hO⟩ := H7.out wr k hlt hS.out.bel
      subst hpa
      have k0 : (0 : Int) ≤ (k : Int) := by omega
      have k1 : (k : Int) < (L.length : Int) := by omega
      have hO2 : Hid (∀ W, Below wr.heap.size wr W → W.cell? ⟨gs, k, none⟩ = some (.int .i64 (stP (gP L k).p : Nat)) ∧ SL w gs L W) := fun W hb => ⟨(hS.out.below hb).row k hlt, hS.out.below hb⟩
      clear hS
      generalize (gP L k).p.length = pl at *
      generalize (gP L k).a = pA at *
      generalize (gP L k).c = pC at *
      generalize kdP (gP L k).p = kd at *
      generalize lbP (gP L k).p = lb at *
      generalize sqP (gP L k).p = sq at *
      generalize stP (gP L k).p = st at *
      go_wp2_with fail
      refine hO.out.mono ?_
      rintro e w8 ⟨fa, fd, fc, rfl, h8⟩
      clear hO hc
      have hb9 : Below wr.heap.size wr (w8.alloc (.cells #[.int .i64 (kd : Nat), .int .i64 (lb : Nat), .int .i64 (sq : Nat), .slice fa fd fc] 38)) := h8.out.trans ((alloc_below' _ _).mono h8.out.size)
      obtain ⟨hc9, hs9⟩ := hO2.out _ hb9
      have HS9 : Hid _ := hs9
      clear hO2 h8 hb9 hs9
      go_wp2
      exact ⟨⟨k + 1, by omega, by go_num, HS9⟩, by simp [intOf]; omega⟩
    · obtain rfl : k = L.length := by omega
      clear hlt H7
      go_wp2
      go_ret
      exact ⟨rfl, hS.out.bel⟩
end Go.Proofs.YtdkafcgangcgbagGreatDoorQ

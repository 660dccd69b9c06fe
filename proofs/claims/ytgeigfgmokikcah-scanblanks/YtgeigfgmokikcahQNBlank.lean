/-
  What the call of ScanBlanks gives in the ghost's program: true.
-/
import Derived.Test.YtgeigfgmokikcahQ7
namespace Go.Proofs.YtgeigfgmokikcahQ
open Go.Proofs.YtgeigfgmokikcahM
open Go.RowKit
set_option linter.unusedVariables false

theorem newF_pg {L : List Pg} {i : Nat} (h : i < (newF L).length) : (gF (newF L) i).pg < L.length := by
  have hm : gF (newF L) i ∈ newF L := by unfold gF; rw [List.getElem?_eq_getElem h]; exact List.getElem_mem h
  obtain ⟨j, hj, e, _⟩ := (new_is (fdP L) (flt L L.length)).best _ hm
  rw [e]
  unfold flt at hj
  exact List.mem_range.1 (List.mem_filter.1 hj).1
theorem nil_no {M : List Fd} {q : Nat} (h : q < M.length) : ¬ M = [] := fun e => by rw [e] at h; simp at h
theorem bl_no (n : Nat) (hn : 0 < n) : (stP (List.replicate n 255) == 2 && (kdP (List.replicate n 255) == 1 || kdP (List.replicate n 255) == 2)) = false := by
  have h : ErasedP (List.replicate n 255) := ⟨by rw [List.length_replicate]; exact hn, fun i hi => by
    rw [List.length_replicate] at hi
    simp [hi]⟩
  rw [(tell_erased h).1]
  rfl
theorem bl_all (n : Nat) : AllB (List.replicate n 255) := fun x hx => by rw [(List.mem_replicate.1 hx).2]; decide
theorem rep_more (n : Nat) : List.replicate n 255 ++ [255] = List.replicate (n + 1) 255 := by rw [List.replicate_succ']
theorem pgs_ins {W : World} {pa ma : Option Addr} {L : List Pg} {k : Nat} {b : Pg} (hk : k ≤ L.length) (hp : Pgs W pa L) (hb : PgAt W b) (h : LieP W ma (insP L k b)) : Pgs W ma (insP L k b) := by
  have hold : ∀ j, j < L.length → PgAt W (gP L j) := fun j hj => by
    rcases hp with rfl | ⟨_, _, _, hat⟩
    · simp at hj
    · exact (hat j hj).2
  rcases h with h | ⟨b', off, e, h⟩
  · exact .inl h
  · refine .inr ⟨b', off, e, fun i hi => ⟨h i hi, ?_⟩⟩
    rw [insP_len] at hi
    by_cases h1 : i < k
    · have e1 := insP_old L k b hk i
      unfold sgB at e1
      rw [if_pos h1] at e1
      rw [e1]
      exact hold i (by omega)
    · by_cases h2 : i = k
      · subst h2
        rw [insP_new L i b hk]
        exact hb
      · have e1 := insP_old L k b hk (i - 1)
        unfold sgB at e1
        rw [if_neg (by omega), show i - 1 + 1 = i by omega] at e1
        rw [e1]
        exact hold (i - 1) (by omega)
set_option maxRecDepth 20000 in
set_option maxHeartbeats 1600000 in
theorem blanks_big (pa : Option Addr) (pc l : Nat) (a b c : Int) (w : World) (hc : -9223372036854775808 ≤ c ∧ c ≤ 9223372036854775807) (hl : 4096 < l) :
    Calls (Al.progOf Try.prog) 3 #[.slice pa l pc, .int .i64 a, .int .i64 b, .int .i64 c] w fun e w' => e = .returned (.bool true) ∧ Below w.heap.size w w' := by
  have HPc : Hid (Calls (Al.progOf Try.prog) 4 #[.int .i64 c, .int .i64 8] w fun e w' => (∃ k : Nat, k < 8 ∧ e = .returned (.int .i64 (k : Nat))) ∧ w' = w) := pick_any c 8 w (by omega) (by omega) hc
  have HN : Hid (∀ k : Nat, k < 8 → Calls (Al.progOf Try.prog) 5 #[.slice pa l pc, .int .i64 (1 + (k : Int))] w fun e w' => e = .returned (.tuple #[.slice none 0 0, .iface 49 (.int .i64 3)]) ∧ w' = w) := fun k hk => newest_bad pa l pc _ 3 w (lookq_full pa l pc _ w (by omega) (by omega) (by omega))
  have hl2 : (4096 : Int) ≤ (l : Int) := by omega
  clear hc hl
  go_enter Al.func3, Try.ntmps3
  go_wp2_with fail
  refine HPc.out.mono ?_
  rintro e _ ⟨⟨k, hk, rfl⟩, rfl⟩
  clear HPc
  go_wp2_with fail
  refine (HN.out k hk).mono ?_
  rintro e _ ⟨rfl, rfl⟩
  clear HN
  go_wp2
  go_ret
  exact ⟨rfl, Below.refl _ _⟩
set_option maxRecDepth 20000 in
set_option maxHeartbeats 1600000 in
theorem blanks_full (pa : Option Addr) (pc : Nat) (L : List Pg) (a b c : Int) (w : World) (hc : -9223372036854775808 ≤ c ∧ c ≤ 9223372036854775807) (hl : L.length = 4096) (hp : Pgs w pa L) :
    Calls (Al.progOf Try.prog) 3 #[.slice pa L.length pc, .int .i64 a, .int .i64 b, .int .i64 c] w fun e w' => e = .returned (.bool true) ∧ Below w.heap.size w w' := by
  have HPc : Hid (Calls (Al.progOf Try.prog) 4 #[.int .i64 c, .int .i64 8] w fun e w' => (∃ k : Nat, k < 8 ∧ e = .returned (.int .i64 (k : Nat))) ∧ w' = w) := pick_any c 8 w (by omega) (by omega) hc
  have HN : Hid (∀ k : Nat, k < 8 → Calls (Al.progOf Try.prog) 5 #[.slice pa 4096 pc, .int .i64 (1 + (k : Int))] w fun e w' => (∃ x n cx, e = .returned (.tuple #[.slice x n cx, .nilIface])) ∧ Hid (Below w.heap.size w w')) := fun k hk => by
    have := newest_any pa pc L (1 + (k : Int)) w (by omega) (by omega) (by omega) hp
    rw [hl] at this
    exact this.mono fun e w' ⟨x, cx, h1, _, h3⟩ => ⟨⟨x, _, cx, h1⟩, h3⟩
  rw [hl]
  clear hc hl hp
  go_enter Al.func3, Try.ntmps3
  go_wp2_with fail
  refine HPc.out.mono ?_
  rintro e _ ⟨⟨k, hk, rfl⟩, rfl⟩
  clear HPc
  go_wp2_with fail
  refine (HN.out k hk).mono ?_
  rintro e w1 ⟨⟨x, n, cx, rfl⟩, h1⟩
  clear HN
  go_wp2
  go_ret
  exact ⟨rfl, h1.out⟩
/-- What lies there while the blank page is made. -/
structure BlS (w : World) (pa : Option Addr) (L : List Pg) (x : Option Addr) (W : World) : Prop where
  pg : Pgs W pa L
  fr : FRow W x (newF L)
  bel : Below w.heap.size w W
theorem BlS.below {w W W' : World} {pa x : Option Addr} {L : List Pg} (h : BlS w pa L x W) (hb : Below W.heap.size W W') : BlS w pa L x W' := ⟨h.pg.below hb, h.fr.below hb, h.bel.trans (hb.mono h.bel.size)⟩
set_option maxRecDepth 100000 in
set_option maxHeartbeats 6400000 in
theorem blanks_any (pa : Option Addr) (pc : Nat) (L : List Pg) (a b c : Int) (w : World) (ha : -9223372036854775808 ≤ a ∧ a ≤ 9223372036854775807) (hb : -9223372036854775808 ≤ b ∧ b ≤ 9223372036854775807) (hc : -9223372036854775808 ≤ c ∧ c ≤ 9223372036854775807) (hl : L.length < 4096) (hp : Pgs w pa L) (hpc : L.length ≤ pc) (hnil : pa = none → pc = 0) :
    Calls (Al.progOf Try.prog) 3 #[.slice pa L.length pc, .int .i64 a, .int .i64 b, .int .i64 c] w fun e w' => e = .returned (.bool true) ∧ Below w.heap.size w w' := by
  have HPc : Hid (Calls (Al.progOf Try.prog) 4 #[.int .i64 c, .int .i64 8] w fun e w' => (∃ k : Nat, k < 8 ∧ e = .returned (.int .i64 (k : Nat))) ∧ w = w') := (pick_any c 8 w (by omega) (by omega) hc).mono fun e w' h => ⟨h.1, h.2.symm⟩
  have HN : Hid (∀ k : Nat, k < 8 → Calls (Al.progOf Try.prog) 5 #[.slice pa L.length pc, .int .i64 (1 + (k : Int))] w fun e w' => ∃ x cx, e = .returned (.tuple #[.slice x (newF L).length cx, .nilIface]) ∧ Hid (BlS w pa L x w')) := fun k hk =>
    (newest_any pa pc L (1 + (k : Int)) w (by omega) (by omega) (by omega) hp).mono fun e w' ⟨x, cx, h1, h2, h3⟩ => ⟨x, cx, h1, hp.below h3, h2.at, h3⟩
  have HP : Hid (∀ x W, BlS w pa L x W → Calls (Al.progOf Try.prog) 6 #[.int .i64 24, FV 1 3 1 none 0 0] W fun e w' => ∃ g, e = .returned (.tuple #[.slice (some ⟨g, 0, none⟩) 24 24, .nilIface]) ∧ Hid (Row w' g (packL 24 1 3 1 []) ∧ BlS w pa L x w')) := fun x W hW => (pack_good 24 1 3 1 none 0 [] W one_ok (fun _ h => absurd h (by simp)) (.inl rfl)).mono fun e w' ⟨g, h1, _, h3, h4⟩ => ⟨g, h1, h3, hW.below h4⟩
  have HN1 : Hid (∀ x w1 g, (Row w1 g (packL 24 1 3 1 []) ∧ BlS w pa L x w1) → Calls (Al.progOf Try.prog) 5 #[.slice (some ⟨w1.heap.size, 0, none⟩) 1 1, .int .i64 1] (w1.alloc (.cells #[.slice (some ⟨g, 0, none⟩) 24 24] 29)) fun e w' => ∃ g2 cap, e = .returned (.tuple #[.slice g2 1 cap, .nilIface]) ∧ Hid (BlS w pa L x w')) := fun x w1 g ⟨h1, h2⟩ => by
    refine (newest_any (some ⟨w1.heap.size, 0, none⟩) 1 [onePg g] 1 _ (by omega) (by omega) (by show 1 ≤ 4096; omega) (one_pages h1)).mono ?_
    rintro e w' ⟨a, cap, h3, h4, h5⟩
    rw [one_new g] at h3
    exact ⟨a, cap, h3, (h2.below (alloc_below' w1 _)).below h5⟩
  have HPa : Hid (∀ W, Calls (Al.progOf Try.prog) 4 #[.int .i64 a, .int .i64 ((L.length : Int) + 1)] W fun e w' => (∃ k : Nat, k ≤ L.length ∧ e = .returned (.int .i64 (k : Nat))) ∧ W = w') := fun W => by
    have := pick_any a (L.length + 1) W (by omega) (by omega) ha
    rw [show ((L.length + 1 : Nat) : Int) = (L.length : Int) + 1 by omega] at this
    exact this.mono fun e w' ⟨⟨k, h1, h2⟩, h3⟩ => ⟨⟨k, by omega, h2⟩, h3.symm⟩
  have HPb : Hid (∀ W, Calls (Al.progOf Try.prog) 4 #[.int .i64 b, .int .i64 60] W fun e w' => (∃ k : Nat, k < 60 ∧ e = .returned (.int .i64 (k : Nat))) ∧ W = w') := fun W => (pick_any b 60 W (by omega) (by omega) hb).mono fun e w' h => ⟨h.1, h.2.symm⟩
  have HM : Hid (∀ (k n : Nat) (ba ma x : Option Addr) (bc mc wk : Nat) (W : World), k ≤ L.length → 0 < n → n ≤ 60 → wk < 8 → BlS w pa L x W → Lies W ba (List.replicate n 255) → n ≤ bc → LieP W ma (insP L k ⟨ba, List.replicate n 255, bc⟩) → Calls (Al.progOf Try.prog) 5 #[.slice ma (insP L k ⟨ba, List.replicate n 255, bc⟩).length mc, .int .i64 (1 + (wk : Int))] W fun e w' => ∃ m cm, e = .returned (.tuple #[.slice m (newF L).length cm, .nilIface]) ∧ Hid (FRow w' m ((newF L).map (mvF (sgB k))) ∧ BlS w pa L x w')) := fun k n ba ma x bc mc wk W hk hn hn6 hwk hW hLb hbc hLie => by
    have hb : PgAt W ⟨ba, List.replicate n 255, bc⟩ := ⟨bl_all n, hLb, by show (List.replicate n 255).length ≤ bc; rw [List.length_replicate]; exact hbc, by show (List.replicate n 255).length ≤ _; rw [List.length_replicate]; omega⟩
    have hpg := pgs_ins hk hW.pg hb hLie
    refine (newest_any ma mc _ (1 + (wk : Int)) W (by omega) (by omega) (by rw [insP_len]; omega) hpg).mono ?_
    rintro e w' ⟨m, cm, h1, h2, h3⟩
    have hbl := newF_blank L k ⟨ba, List.replicate n 255, bc⟩ hk (bl_no n hn)
    rw [hbl] at h1 h2
    rw [List.length_map] at h1
    exact ⟨m, cm, h1, h2.at, hW.below h3⟩
  have HC : Hid (∀ k i, i < (newF L).length → ∃ x0 x1 x2 x3, gF (newF L) i = ⟨x0, x1, x2, x3⟩ ∧ gF ((newF L).map (mvF (sgB k))) i = ⟨x0, sgB k x1, x2, x3⟩ ∧ x1 < 4096) := fun k i hi => by
    have hpg := newF_pg hi
    have hm := gF_map (mvF (sgB k)) (newF L) i hi
    exact ⟨(gF (newF L) i).lb, (gF (newF L) i).pg, (gF (newF L) i).sq, (gF (newF L) i).kd, rfl, hm, by omega⟩
  have HLen : Hid ((newF L).length ≤ 4096 ∧ ((newF L).map (mvF (sgB 0))).length = (newF L).length) := ⟨Nat.le_trans (newF_len L) (by omega), by rw [List.length_map]⟩
  have HLm : Hid (∀ k, ((newF L).map (mvF (sgB k))).length = (newF L).length) := fun k => List.length_map _
  have hsl1 : ∀ k : Nat, k ≤ L.length → ∀ wz, (Instr.slice 22 (.slice pa L.length pc) none (some (.int .i64 (k : Int))) none).run (Al.progOf Try.prog) wz = .ok (.slice pa k pc) wz := fun k hk wz => slice_to pa L.length pc k (by omega) wz
  have hsl2 : ∀ k : Nat, k ≤ L.length → ∀ wz, (Instr.slice 22 (.slice pa L.length pc) (some (.int .i64 (k : Int))) none none).run (Al.progOf Try.prog) wz = .ok (.slice (dropP pa pc k) (L.length - k) (pc - k)) wz := fun k hk wz => slice_from pa L.length pc k hk hpc wz
  have HS1 : Hid (∀ k : Nat, k ≤ L.length → ∀ wz, (Instr.slice 22 (.slice pa L.length pc) none (some (.int .i64 (k : Int))) none).run (Al.progOf Try.prog) wz = .ok (.slice pa k pc) wz) := hsl1
  have HS2 : Hid (∀ k : Nat, k ≤ L.length → ∀ wz, (Instr.slice 22 (.slice pa L.length pc) (some (.int .i64 (k : Int))) none none).run (Al.progOf Try.prog) wz = .ok (.slice (dropP pa pc k) (L.length - k) (pc - k)) wz) := hsl2
  have HNil : Hid ((pa = none → pc = 0) ∧ (∀ k, dropP pa pc k = none → pc - k = 0) ∧ L.length ≤ pc) := ⟨hnil, (fun k e => by
    unfold dropP at e
    split at e
    · omega
    · cases pa with
      | none => have := hnil rfl; omega
      | some x => cases e), hpc⟩
  have hl4 : (L.length : Int) < 4096 := by omega
  have hl4n : L.length < 4096 := hl
  clear ha hb hc hp hnil hsl1 hsl2 hl hpc
  go_enter Al.func3, Try.ntmps3
  go_wp2_with fail
  refine HPc.out.mono ?_
  rintro e _ ⟨⟨wk, hwk, rfl⟩, rfl⟩
  clear HPc
  go_wp2_with fail
  refine (HN.out wk hwk).mono ?_
  rintro e w1 ⟨x, cx, rfl, h1⟩
  clear HN
  go_wp2_with fail
  refine (HP.out x w1 h1.out).mono ?_
  rintro e w2 ⟨g, rfl, h2⟩
  clear HP h1
  go_wp2_with fail
  refine (HN1.out x w2 g h2.out).mono ?_
  rintro e w3 ⟨g2, c2, rfl, h3⟩
  clear HN1 h2
  go_wp2_with fail
  refine (HPa.out w3).mono ?_
  rintro e _ ⟨⟨k, hk, rfl⟩, rfl⟩
  clear HPa
  have sl1 := HS1.out k hk
  have sl2 := HS2.out k hk
  clear HS1 HS2
  go_wp2
  go_loopw [16, 17] (fun t j wr => ∃ (i bc : Nat) (ba : Option Addr), i ≤ 60 ∧ j = .int .i64 i ∧ t = .slice ba i bc ∧ Hid (OwnA wr w3.heap.size ba bc (List.replicate i 255) ∧ Below w3.heap.size w3 wr)) (fun _ j _ => 61 - (intOf j).toNat)
  case atStart => exact ⟨0, 0, none, by omega, rfl, rfl, own_nil _ _, Below.refl _ _⟩
  case round =>
    obtain ⟨i, bc, ba, hi, rfl, rfl, hr⟩ := hrel
    go_wp2_with fail
    refine (HPb.out wr).mono ?_
    rintro e _ ⟨⟨kb, hkb, rfl⟩, rfl⟩
    by_cases hlt : i < 1 + kb
    · have hlt2 : (i : Int) < 1 + (kb : Int) := by omega
      have hi60 : i < 60 := by omega
      have HA : Hid (OwnA (wr.alloc (.cells #[.int .u8 255] 5)) w3.heap.size ba bc (List.replicate i 255) ∧ Lies (wr.alloc (.cells #[.int .u8 255] 5)) (some ⟨wr.heap.size, 0, none⟩) [255] ∧ Below w3.heap.size w3 (wr.alloc (.cells #[.int .u8 255] 5)) ∧ w3.heap.size ≤ (wr.alloc (.cells #[.int .u8 255] 5)).heap.size) := by
        have hb := alloc_below' wr (.cells #[.int .u8 255] 5)
        have hs := hr.out.2.size
        exact ⟨hr.out.1.below hb, (own_new wr wr.heap.size [255] (Nat.le_refl _) (by simp) _ rfl).lies, hr.out.2.trans (hb.mono hs), Nat.le_trans hs hb.size⟩
      have HO1 : Hid (OwnA wr w3.heap.size ba bc (List.replicate i 255)) := hr.out.1
      have HI : Hid ((List.replicate i 255).length = i ∧ (List.replicate (i + 1) 255).length = i + 1) := ⟨List.length_replicate, List.length_replicate⟩
      have HAP : Hid (∀ (ops : Array Oper) (rest : List Oper) (o : Oper) (ac : Act) (Q : Exit → Act → World → Prop), o.guard = none → o.op = .call { callee := .builtin .append, args := #[.tmp 75, .tmp 76], argTypes := #[29, 29] } → ac.eval (.tmp 75) = .slice ba i bc → ac.eval (.tmp 76) = .slice (some ⟨wr.heap.size, 0, none⟩) 1 1 → (∀ a1 cap1 w', OwnA w' w3.heap.size a1 cap1 (List.replicate (i + 1) 255) → Below w3.heap.size w3 w' → wpList (Al.progOf Try.prog) ops Q rest (ac.put o.dst (.slice a1 (i + 1) cap1)) w') → wpList (Al.progOf Try.prog) ops Q (o :: rest) ac (wr.alloc (.cells #[.int .u8 255] 5))) := fun ops rest o ac Q h1 h2 h3 h4 h5 => by
        refine app_step h1 (.tmp 75) (.tmp 76) h2 w3.heap.size ba bc (List.replicate i 255) (by rw [List.length_replicate]; exact h3) HA.out.1 (some ⟨wr.heap.size, 0, none⟩) 1 [255] h4 (fun e => by cases e) HA.out.2.1 (List.replicate (i + 1) 255) (rep_more i).symm (by rw [List.length_replicate]; omega) HA.out.2.2.2 ?_
        intro a1 c1 w' ho hk
        rw [List.length_replicate]
        exact h5 a1 c1 w' ho (HA.out.2.2.1.trans (hk.below HA.out.2.2.2 (fun b hb => (HO1.out.ge hb).1)))
      clear hr HA HO1 HI
      go_wp2_with (at_builtin; refine HAP.out _ _ _ _ _ rfl rfl rfl rfl ?_)
      intro a1 c1 w' ho hbw
      have HR : Hid (OwnA w' w3.heap.size a1 c1 (List.replicate (i + 1) 255) ∧ Below w3.heap.size w3 w') := ⟨ho, hbw⟩
      clear ho hbw HAP
      go_wp2
      go_roundw
      case rel => exact ⟨i + 1, c1, a1, by omega, by go_num, rfl, HR.out⟩
      case measure => simp [intOf]; omega
    · have hge : ¬ (i : Int) < 1 + (kb : Int) := by omega
      have hi0 : 0 < i := by omega
      -- the row of pages
      obtain ⟨T1, HT1⟩ : ∃ T, Hid (T = L.take k) := ⟨_, rfl⟩
      obtain ⟨T2, HT2⟩ : ∃ T, Hid (T = T1 ++ [(⟨ba, List.replicate i 255, bc⟩ : Pg)]) := ⟨_, rfl⟩
      obtain ⟨T3, HT3⟩ : ∃ T, Hid (T = T2 ++ L.drop k) := ⟨_, rfl⟩
      have HI : Hid (T3 = insP L k ⟨ba, List.replicate i 255, bc⟩) := by
        show T3 = _
        rw [HT3.out, HT2.out, HT1.out]
        unfold insP
        simp
      have HLn : Hid (T1.length = k ∧ T2.length = k + 1 ∧ T3.length = L.length + 1) := by
        have e1 : T1.length = k := by rw [HT1.out, List.length_take]; omega
        have e2 : T2.length = k + 1 := by rw [HT2.out, List.length_append, e1]; rfl
        exact ⟨e1, e2, by rw [HI.out, insP_len]⟩
      have HB : Hid (BlS w pa L x wr ∧ OwnA wr w3.heap.size ba bc (List.replicate i 255) ∧ i ≤ bc) := ⟨h3.out.below hr.out.2, hr.out.1, by
        rcases hr.out.1.parts with ⟨_, _, e⟩ | ⟨_, _, _, _, _, e, _⟩
        · have := congrArg List.length e
          rw [List.length_replicate] at this
          simp at this
          omega
        · rw [List.length_replicate] at e
          exact e⟩
      have HA1 : Hid (OwnP (wr.alloc (.cells #[] 29)) wr.heap.size (some ⟨wr.heap.size, 0, none⟩) 0 [] ∧ LieP (wr.alloc (.cells #[] 29)) pa T1 ∧ wr.heap.size ≤ (wr.alloc (.cells #[] 29)).heap.size ∧ Below wr.heap.size wr (wr.alloc (.cells #[] 29))) := by
        have hb := alloc_below' wr (.cells #[] 29)
        exact ⟨ownP_none wr, by rw [HT1.out]; exact (HB.out.1.pg.lieP.take k).below hb, hb.size, hb⟩
      clear hr h3 HPb
      go_wp2_with (at_builtin; refine app_stepP rfl (.tmp 78) (.tmp 81) rfl wr.heap.size (some ⟨wr.heap.size, 0, none⟩) 0 [] 0 rfl rfl HA1.out.1 pa pc T1 k HLn.out.1.symm rfl HNil.out.1 HA1.out.2.1 T1 rfl (by rw [HLn.out.1]; omega) HA1.out.2.2.1 ?_)
      intro a5 c5 w5 o5 k5
      have B5 : Hid (OwnP w5 wr.heap.size a5 c5 T1 ∧ Below wr.heap.size wr w5) := ⟨o5, HA1.out.2.2.2.trans (k5.below HA1.out.2.2.1 (fun b hb => (HA1.out.1.ge hb).1))⟩
      clear o5 k5 HA1
      have HA2 : Hid (OwnP (w5.alloc (.cells #[.slice ba i bc] 29)) wr.heap.size a5 c5 T1 ∧ LieP (w5.alloc (.cells #[.slice ba i bc] 29)) (some ⟨w5.heap.size, 0, none⟩) [⟨ba, List.replicate i 255, bc⟩] ∧ wr.heap.size ≤ (w5.alloc (.cells #[.slice ba i bc] 29)).heap.size ∧ Below wr.heap.size wr (w5.alloc (.cells #[.slice ba i bc] 29))) := by
        have hb := alloc_below' w5 (.cells #[.slice ba i bc] 29)
        refine ⟨B5.out.1.below hb, .inr ⟨w5.heap.size, 0, rfl, fun q hq => ?_⟩, Nat.le_trans B5.out.2.size hb.size, B5.out.2.trans (hb.mono B5.out.2.size)⟩
        obtain rfl : q = 0 := by simp at hq; omega
        have e := heap_alloc_new w5 (.cells #[.slice ba i bc] 29)
        show _ = some (Value.slice ba (List.replicate i 255).length bc)
        rw [List.length_replicate]
        unfold World.cell?
        simp only [e]
        rfl
      go_wp2_with (at_builtin; refine app_stepP rfl (.tmp 83) (.tmp 85) rfl wr.heap.size a5 c5 T1 T1.length rfl rfl HA2.out.1 (some ⟨w5.heap.size, 0, none⟩) 1 [⟨ba, List.replicate i 255, bc⟩] 1 rfl rfl (fun e => by cases e) HA2.out.2.1 T2 HT2.out (by rw [HLn.out.2.1]; omega) HA2.out.2.2.1 ?_)
      intro a6 c6 w6 o6 k6
      have B6 : Hid (OwnP w6 wr.heap.size a6 c6 T2 ∧ Below wr.heap.size wr w6) := ⟨o6, HA2.out.2.2.2.trans (k6.below HA2.out.2.2.1 (fun b hb => (HA2.out.1.ge hb).1))⟩
      clear o6 k6 HA2 B5
      have HL3 : Hid (LieP w6 (dropP pa pc k) (L.drop k) ∧ wr.heap.size ≤ w6.heap.size ∧ L.length - k = (L.drop k).length) := ⟨(HB.out.1.pg.lieP.drop k HNil.out.2.2).below B6.out.2, B6.out.2.size, by rw [List.length_drop]⟩
      go_wp2_with (at_builtin; refine app_stepP rfl (.tmp 87) (.tmp 90) rfl wr.heap.size a6 c6 T2 T2.length rfl rfl B6.out.1 (dropP pa pc k) (pc - k) (L.drop k) (L.length - k) HL3.out.2.2 rfl (HNil.out.2.1 k) HL3.out.1 T3 HT3.out (by rw [HLn.out.2.2]; omega) HL3.out.2.1 ?_)
      intro a7 c7 w7 o7 k7
      have B7 : Hid (Below wr.heap.size wr w7) := B6.out.2.trans (k7.below HL3.out.2.1 (fun b hb => (B6.out.1.ge hb).1))
      have HNw : Hid (Calls (Al.progOf Try.prog) 5 #[.slice a7 T3.length c7, .int .i64 (1 + (wk : Int))] w7 fun e w' => ∃ m cm, e = .returned (.tuple #[.slice m (newF L).length cm, .nilIface]) ∧ Hid (FRow w' m ((newF L).map (mvF (sgB k))) ∧ BlS w pa L x w')) := by
        have hl := o7.lie
        rw [HI.out] at hl
        have := HM.out k i ba a7 x bc c7 wk w7 hk hi0 hi hwk (HB.out.1.below B7.out) (HB.out.2.1.below B7.out).lies HB.out.2.2 hl
        rw [← HI.out] at this
        exact this
      clear o7 k7 HL3 B6 B7 HB HT1 HT2 HT3 HI HLn HM HNil sl1 sl2
      go_wp2_with fail
      refine HNw.out.mono ?_
      rintro e w8 ⟨m, cm, rfl, h8⟩
      clear HNw
      have hNl : (newF L).length ≤ 4096 := HLen.out.1
      have H8 : Hid ((FRow w8 m ((newF L).map (mvF (sgB k))) ∧ FRow w8 x (newF L)) ∧ Below w.heap.size w w8) := ⟨⟨h8.out.1, h8.out.2.fr⟩, h8.out.2.bel⟩
      have HL8 : Hid (((newF L).map (mvF (sgB k))).length = (newF L).length) := HLm.out k
      have HC8 : Hid (∀ i, i < (newF L).length → ∃ x0 x1 x2 x3, gF (newF L) i = ⟨x0, x1, x2, x3⟩ ∧ gF ((newF L).map (mvF (sgB k))) i = ⟨x0, sgB k x1, x2, x3⟩ ∧ x1 < 4096) := HC.out k
      clear h8 HLm HC HLen
      generalize newF L = M at *
      generalize M.map (mvF (sgB k)) = M2 at *
      obtain ⟨ws, hws⟩ : ∃ ws, Hid (ws = wr) := ⟨_, rfl⟩
      go_wp2
      go_loopw [20] (fun j wq => ∃ q : Nat, q ≤ M.length ∧ j = .int .i64 q ∧ Hid ((FRow wq m M2 ∧ FRow wq x M) ∧ Below w.heap.size w wq)) (fun j _ => M.length - (intOf j).toNat)
      case atStart => exact ⟨0, Nat.zero_le _, rfl, H8.out⟩
      case round =>
        obtain ⟨q, hq, rfl, hR⟩ := hrel
        clear H8
        by_cases hqt : q < M.length
        · obtain ⟨x0, x1, x2, x3, e1, e2, hx1⟩ := HC8.out q hqt
          obtain ⟨gm, om, rfl, hm⟩ := hR.out.1.1.resolve_left (nil_no (q := q) (by rw [HL8.out]; exact hqt))
          obtain ⟨gx, ox, rfl, hx⟩ := hR.out.1.2.resolve_left (nil_no hqt)
          obtain ⟨c0, c1, c2, c3⟩ := hx q hqt
          have hmq := hm q (by rw [HL8.out]; exact hqt)
          rw [e1] at c0 c1 c2 c3
          rw [e2] at hmq
          obtain ⟨d0, d1, d2, d3⟩ := hmq
          simp only at c0 c1 c2 c3 d0 d1 d2 d3
          have hlm : gm < wr.heap.size := World.block_lt_of_cell? wr ⟨gm, om + q * 4, none⟩ d0
          have HN : Hid (∀ W, Below wr.heap.size wr W → (FRow W (some ⟨gm, om, none⟩) M2 ∧ FRow W (some ⟨gx, ox, none⟩) M) ∧ Below w.heap.size w W) := fun W hb => ⟨⟨hR.out.1.1.below hb, hR.out.1.2.below hb⟩, hR.out.2.trans (hb.mono hR.out.2.size)⟩
          have HB0 : Hid (Below wr.heap.size wr wr) := Below.refl _ _
          clear hm hx hR e1 e2 HC8
          have k0 : (0 : Int) ≤ (q : Int) := by omega
          have k1 : (q : Int) < (M.length : Int) := by omega
          have hmgen : ¬ gm = wr.heap.size := by omega
          by_cases hge2 : k ≤ x1
          · have hs : sgB k x1 = x1 + 1 := by unfold sgB; rw [if_neg (by omega)]
            rw [hs] at d1
            have hgi : (k : Int) ≤ (x1 : Int) := by omega
            have hne : ∀ w : World, (binOp .neq 35 (.agg #[.int .i64 (x0 : Nat), .int .i64 ((x1 : Int) + 1), .int .i64 (x2 : Nat), .int .i64 (x3 : Nat)]) (.agg #[.int .i64 (x0 : Nat), .int .i64 ((x1 : Int) + 1), .int .i64 (x2 : Nat), .int .i64 (x3 : Nat)])).run (Al.progOf Try.prog) w = .ok (.bool false) w := fun w => found_self _ _ _ _ w
            have d1' : wr.cell? ⟨gm, om + q * 4 + 1, none⟩ = some (.int .i64 ((x1 : Int) + 1)) := d1
            clear d1 hs
            go_wp2
            go_quiet (fail)
            go_wp2
            exact ⟨⟨q + 1, by omega, by go_num, HN.out _ (below_drewN (HB0.out.alloc (Nat.le_refl _) _) _)⟩, by simp [intOf]; omega⟩
          · have hs : sgB k x1 = x1 := by unfold sgB; rw [if_pos (by omega)]
            rw [hs] at d1
            have hgi : ¬ (k : Int) ≤ (x1 : Int) := by omega
            have hne : ∀ w : World, (binOp .neq 35 (.agg #[.int .i64 (x0 : Nat), .int .i64 (x1 : Nat), .int .i64 (x2 : Nat), .int .i64 (x3 : Nat)]) (.agg #[.int .i64 (x0 : Nat), .int .i64 (x1 : Nat), .int .i64 (x2 : Nat), .int .i64 (x3 : Nat)])).run (Al.progOf Try.prog) w = .ok (.bool false) w := fun w => found_self _ _ _ _ w
            go_wp2
            go_quiet (fail)
            go_wp2
            exact ⟨⟨q + 1, by omega, by go_num, HN.out _ (below_drewN (HB0.out.alloc (Nat.le_refl _) _) _)⟩, by simp [intOf]; omega⟩
        · obtain rfl : q = M.length := by omega
          go_wp2
          go_ret
          exact ⟨rfl, hR.out.2⟩
end Go.Proofs.YtgeigfgmokikcahQ

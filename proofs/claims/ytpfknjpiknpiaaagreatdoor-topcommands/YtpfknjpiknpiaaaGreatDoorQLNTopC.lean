/- Part of the proof. -/
import Derived.Test.YtpfknjpiknpiaaaGreatDoorQL5
import Derived.Test.YtpfknjpiknpiaaaGreatDoorQNOneT
namespace Go.Proofs.YtpfknjpiknpiaaaGreatDoorQL
open Go.Proofs.YtpfknjpiknpiaaaGreatDoorQ
open Go.RowKit
set_option linter.unusedVariables false
structure TS (w wx : World) (mb hb : Nat) (l : List Nat) (op id lba cnt f s : Int) : Prop where
  bel : Below w.heap.size w wx
  mw : MW wx mb hb l
  ge1 : w.heap.size < mb
  ge2 : w.heap.size < hb
  st : Stc wx w.heap.size 24 [.int .i64 op, .int .i64 id, .int .i64 lba, .int .i64 cnt, .int .i64 f, .int .i64 s]
theorem TS.below {w wx wy : World} {mb hb : Nat} {l : List Nat} {op id lba cnt f s : Int} (h : TS w wx mb hb l op id lba cnt f s) (hz : Below wx.heap.size wx wy) : TS w wy mb hb l op id lba cnt f s :=
  ⟨h.bel.trans (hz.mono h.bel.size), h.mw.below hz, h.ge1, h.ge2, h.st.keep (Keep.of_below (S := fun _ => False) hz) (fun e => e)⟩
set_option maxRecDepth 100000 in
set_option maxHeartbeats 6400000 in
theorem topc_any (n x offset long op id lba cnt f0 s0 : Int) (pa : Option Addr) (pc : Nat) (pages : List Int) (w : World) (hPl : YtpfknjpiknpiaaaGreatDoorQC.Plc w) (hI : IIn w pa pc pages) (hx : x ≤ 9223372036854775807) :
    Calls (Al.progOf Tryz.prog) 3 #[.int .i64 n, .int .i64 x, .slice pa pages.length pc, .int .i64 offset, .int .i64 long, cmdV op id lba cnt f0 s0] w fun e w' => e = .returned (.bool true) ∧ Below w.heap.size w w' := by
  have hb0 := alloc_below' w (.cells #[.int .i64 op, .int .i64 id, .int .i64 lba, .int .i64 cnt, .int .i64 f0, .int .i64 s0] 24)
  have hs0 : Stc (w.alloc (.cells #[.int .i64 op, .int .i64 id, .int .i64 lba, .int .i64 cnt, .int .i64 f0, .int .i64 s0] 24)) w.heap.size 24 [.int .i64 op, .int .i64 id, .int .i64 lba, .int .i64 cnt, .int .i64 f0, .int .i64 s0] := heap_alloc_new w _
  have HO : Hid (Calls (Al.progOf Tryz.prog) 4 #[] (w.alloc (.cells #[.int .i64 op, .int .i64 id, .int .i64 lba, .int .i64 cnt, .int .i64 f0, .int .i64 s0] 24)) fun e w' => e = .returned (.bool true) ∧ Below w.heap.size w w' ∧ w.heap.size < w'.heap.size ∧ Stc w' w.heap.size 24 [.int .i64 op, .int .i64 id, .int .i64 lba, .int .i64 cnt, .int .i64 f0, .int .i64 s0]) := by
    refine (YtpfknjpiknpiaaaGreatDoorQ.one_any _ (YtpfknjpiknpiaaaGreatDoorQ.Plc_below hPl hb0 (YtpfknjpiknpiaaaGreatDoorQ.Plc_pos hPl))).mono ?_
    rintro e w' ⟨rfl, hb⟩
    have hst := hs0.keep (Keep.of_below (S := fun _ => False) hb) (fun e => e)
    exact ⟨rfl, hb0.trans (hb.mono hb0.size), heap_lt hst, hst⟩
  have HIn : Hid (∀ wz, Below w.heap.size w wz → IL wz pa pages) := fun wz hz => hI.il.below hz
  have HIb : Hid (∀ (b o : Nat), pa = some ⟨b, o, none⟩ → 0 < pages.length → b < w.heap.size) := fun b o e h0 => by
    obtain ⟨g, off, e2, hat⟩ := hI.il.some_of h0
    rw [e] at e2
    cases e2
    exact World.block_lt_of_cell? w _ (hat 0 h0)
  have HBd : Hid (∀ w1 mb hb l, MW w1 mb hb l → Below w.heap.size w w1 → Calls (Al.progOf Tryz.prog) 6 #[.pointer (some ⟨mb, 0, none⟩), .int .i64 x, .slice pa pages.length pc, .int .i64 offset, .int .i64 long] w1 fun e w' => BuildPost w1 w' e mb hb l pages offset long) := fun w1 mb hb l hm hb1 => build_any mb hb l x pa pc pages offset long w1 hm (HIn.out w1 hb1) hI.cap hI.ok hx
  clear hPl hI hb0 hs0 hx
  go_enter Al.func3, Tryz.ntmps3
  go_wp2_with fail
  refine HO.out.mono ?_
  rintro e w1 ⟨rfl, hb1, hlt1, hs1⟩
  have H1 : Hid (Below w.heap.size w w1 ∧ w.heap.size < w1.heap.size ∧ Stc w1 w.heap.size 24 [.int .i64 op, .int .i64 id, .int .i64 lba, .int .i64 cnt, .int .i64 f0, .int .i64 s0]) := ⟨hb1, hlt1, hs1⟩
  clear HO hb1 hlt1 hs1
  by_cases hn : n < 0 ∨ 16384 < n
  · have HN := new_bad n w1 hn
    have HE : Hid (Below w.heap.size w w1) := H1.out.1
    clear H1 HBd HIn HIb hn
    go_wp2_with fail
    refine HN.mono ?_
    rintro e w2 ⟨rfl, rfl⟩
    clear HN
    go_wp2
    go_ret
    exact ⟨rfl, HE.out⟩
  obtain ⟨N, rfl⟩ := Int.eq_ofNat_of_zero_le (show 0 ≤ n by omega)
  have HN : Hid (Calls (Al.progOf Tryz.prog) 5 #[.int .i64 (N : Nat)] w1 fun e w' => ∃ mb hb l, l.length ≤ 16384 ∧ e = .returned (.tuple #[.pointer (some ⟨mb, 0, none⟩), .nilIface]) ∧ TS w w' mb hb l op id lba cnt f0 s0) := by
    refine (new_yes N w1 (by omega)).mono ?_
    rintro e w' ⟨mb, hb, rfl, hm, hb2, hg1, hg2⟩
    have h1 := H1.out
    exact ⟨mb, hb, _, by rw [List.length_replicate]; omega, rfl, h1.1.trans (hb2.mono h1.1.size), hm, by omega, by omega, h1.2.2.keep (Keep.of_below (S := fun _ => False) hb2) (fun e => e)⟩
  clear hn H1
  go_wp2_with fail
  refine HN.out.mono ?_
  rintro e w2 ⟨mb, hb, l, hl, rfl, hT⟩
  have HT : Hid (TS w w2 mb hb l op id lba cnt f0 s0) := hT
  have HB2 := HBd.out w2 mb hb l hT.mw hT.bel
  clear HN hT HBd
  go_wp2_with fail
  refine HB2.mono ?_
  rintro e w3 (⟨n0, rfl, hb3⟩ | ⟨first, second, l', rfl, hB, hm, hk⟩)
  · have HE : Hid (Below w.heap.size w w3) := HT.out.bel.trans (hb3.mono HT.out.bel.size)
    clear HB2 hb3 HT HIn HIb
    go_wp2
    go_ret
    exact ⟨rfl, HE.out⟩
  have hs3 : Stc w3 w.heap.size 24 [.int .i64 op, .int .i64 id, .int .i64 lba, .int .i64 cnt, .int .i64 f0, .int .i64 s0] := HT.out.st.keep hk (by have := HT.out.ge2; omega)
  have hB3 : Below w.heap.size w w3 := HT.out.bel.trans (hk.below HT.out.bel.size (fun q e => by have := HT.out.ge2; omega))
  have HT4 : Hid (TS w ((w3.setCell ⟨w.heap.size, 4, none⟩ (.int .i64 first)).setCell ⟨w.heap.size, 5, none⟩ (.int .i64 second)) mb hb l' op id lba cnt first second) := by
    have hk4 : Keep (fun b => b = w.heap.size) w3 ((w3.setCell ⟨w.heap.size, 4, none⟩ (.int .i64 first)).setCell ⟨w.heap.size, 5, none⟩ (.int .i64 second)) := ((Keep.refl _ _).set1 _ _).set1 _ _
    exact ⟨hB3.trans (hk4.below hB3.size (fun q e => by omega)), hm.keep hk4 (by have := HT.out.ge1; omega) (by have := HT.out.ge2; omega), HT.out.ge1, HT.out.ge2, (hs3.set 4 _).set 5 _⟩
  have q0 : w3.cell? ⟨w.heap.size, 0, none⟩ = some (.int .i64 op) := hs3.cell 0
  have q1 : w3.cell? ⟨w.heap.size, 1, none⟩ = some (.int .i64 id) := hs3.cell 1
  have q2 : w3.cell? ⟨w.heap.size, 2, none⟩ = some (.int .i64 lba) := hs3.cell 2
  have q3 : w3.cell? ⟨w.heap.size, 3, none⟩ = some (.int .i64 cnt) := hs3.cell 3
  have q4 : w3.cell? ⟨w.heap.size, 4, none⟩ = some (.int .i64 f0) := hs3.cell 4
  have q5 : w3.cell? ⟨w.heap.size, 5, none⟩ = some (.int .i64 s0) := hs3.cell 5
  have r4 := hs3.free 4
  have r5 := hs3.free 5
  obtain ⟨Q, o, m, S, rfl, rfl, hF, hw, hf1, hf2, hs2⟩ := backF_of hB hl
  have HF : Hid (BackF l'.length pages o m Q S) := hF
  have HWk : Hid (walkF l' first second (m : Int) = (0, S) ∧ first ≤ 9223372036854775807 ∧ -9223372036854775808 ≤ first ∧ second ≤ 9223372036854775807) := ⟨hw, hf1, hf2, hs2⟩
  have HEn := encode_any op id lba cnt first second ((w3.setCell ⟨w.heap.size, 4, none⟩ (.int .i64 first)).setCell ⟨w.heap.size, 5, none⟩ (.int .i64 second))
  clear HB2 hk hB hm hF hw hf1 hf2 hs2 hl HT hs3 hB3
  go_wp2_with fail
  refine HEn.mono ?_
  rintro e w5 ⟨hb5, ⟨hh5, g5, hg5, rfl, hr5⟩ | ⟨hh5, rfl⟩⟩
  · have HT5 : Hid (TS w w5 mb hb l' op id lba cnt first second) := HT4.out.below hb5
    have HD : Hid (Calls (Al.progOf Tryz.prog) 8 #[.slice (some ⟨g5, 0, none⟩) 64 64] w5 fun e w' => e = .returned (.tuple #[cmdV op id lba cnt first second, .nilIface]) ∧ TS w w' mb hb l' op id lba cnt first second) := by
      have hlw : (wrt CF [op, id, lba, cnt, first, second] 64 6).length = 64 := wrt_len okCF 6 (by decide)
      refine (decode_yes g5 0 64 _ w5 hlw (wrt_all 6) (fun i hi => by rw [Nat.zero_add]; exact row_cell hr5 i (by rw [hlw]; exact hi))).mono ?_
      rintro e w' ⟨hb, h⟩
      have hf := fitC hh5 (fun _ _ => rfl)
      obtain ⟨b0, b1, b2, b3, b4, b5⟩ := backC hh5
      refine ⟨?_, HT5.out.below hb⟩
      rcases h with ⟨h, _⟩ | ⟨_, h, _⟩ | ⟨_, _, h⟩
      · exact absurd hlw h
      · exact absurd hf h
      · rw [h, b0, b1, b2, b3, b4, b5]
    clear HEn hb5 hh5 hg5 hr5 HT4 HT5 q0 q1 q2 q3 q4 q5 r4 r5
    go_wp2_with fail
    refine HD.out.mono ?_
    rintro e w6 ⟨rfl, hT6⟩
    have HT6 : Hid (TS w (w6.alloc (.cells #[.int .i64 op, .int .i64 id, .int .i64 lba, .int .i64 cnt, .int .i64 first, .int .i64 second] 24)) mb hb l' op id lba cnt first second ∧ Stc (w6.alloc (.cells #[.int .i64 op, .int .i64 id, .int .i64 lba, .int .i64 cnt, .int .i64 first, .int .i64 second] 24)) w6.heap.size 24 [.int .i64 op, .int .i64 id, .int .i64 lba, .int .i64 cnt, .int .i64 first, .int .i64 second]) := ⟨hT6.below (alloc_below' w6 _), heap_alloc_new w6 _⟩
    have p0 : ∀ o, (w6.alloc o).cell? ⟨w.heap.size, 0, none⟩ = some (.int .i64 op) := fun o => (hT6.below (alloc_below' w6 o)).st.cell 0
    have p1 : ∀ o, (w6.alloc o).cell? ⟨w.heap.size, 1, none⟩ = some (.int .i64 id) := fun o => (hT6.below (alloc_below' w6 o)).st.cell 1
    have p2 : ∀ o, (w6.alloc o).cell? ⟨w.heap.size, 2, none⟩ = some (.int .i64 lba) := fun o => (hT6.below (alloc_below' w6 o)).st.cell 2
    have p3 : ∀ o, (w6.alloc o).cell? ⟨w.heap.size, 3, none⟩ = some (.int .i64 cnt) := fun o => (hT6.below (alloc_below' w6 o)).st.cell 3
    have p4 : ∀ o, (w6.alloc o).cell? ⟨w.heap.size, 4, none⟩ = some (.int .i64 first) := fun o => (hT6.below (alloc_below' w6 o)).st.cell 4
    have p5 : ∀ o, (w6.alloc o).cell? ⟨w.heap.size, 5, none⟩ = some (.int .i64 second) := fun o => (hT6.below (alloc_below' w6 o)).st.cell 5
    have hge := fun x y => guard_cmd .neq x y
    have heq := neq_cmd op id lba cnt first second
    have HW : Hid (Calls (Al.progOf Tryz.prog) 9 #[.pointer (some ⟨mb, 0, none⟩), .int .i64 first, .int .i64 second, .int .i64 (m : Nat)] (w6.alloc (.cells #[.int .i64 op, .int .i64 id, .int .i64 lba, .int .i64 cnt, .int .i64 first, .int .i64 second] 24)) fun e w' => Below w.heap.size w w' ∧ ∃ (a3 : Option Addr) (c3 : Nat), e = .returned (.tuple #[.slice a3 S.length c3, .nilIface]) ∧ SL w' a3 S) := by
      have := walk_any mb hb l' first second (m : Nat) (w6.alloc (.cells #[.int .i64 op, .int .i64 id, .int .i64 lba, .int .i64 cnt, .int .i64 first, .int .i64 second] 24)) HT6.out.1.mw HWk.out.2.1 HWk.out.2.2.1 HWk.out.2.2.2
      rw [HWk.out.1] at this
      refine this.mono ?_
      rintro e w' ⟨q1, ⟨q2, _⟩ | ⟨_, a3, c3, q3, q4⟩⟩
      · exact absurd rfl q2
      · exact ⟨HT6.out.1.bel.trans (q1.mono HT6.out.1.bel.size), a3, c3, q3, q4.sl⟩
    clear HD hT6 HT6 HWk
    go_wp2_with fail
    refine HW.out.mono ?_
    rintro e w7 ⟨hb7, a3, c3, rfl, hO⟩
    have hpl : pages.length = S.length := by rw [HF.out.lp, HF.out.ls]
    have hlt0 : 0 < S.length := by rw [HF.out.ls]; exact HF.out.ne
    have hfew : S.length ≤ 33 := by rw [HF.out.ls]; exact HF.out.few
    obtain ⟨g3, o3, ha3, hat3⟩ := hO.some_of hlt0
    obtain ⟨gp, op', hpa, hatp⟩ := (HIn.out w7 hb7).some_of (show 0 < pages.length by omega)
    have HS : Hid (∀ i, i < S.length → SgAt w7 g3 o3 i (gS S i) ∧ w7.cell? ⟨gp, op' + i, none⟩ = some (.int .i64 ((Q[i]?.getD 0 : Nat) : Int)) ∧ (gS S i).p = ((Q[i]?.getD 0 + (if i = 0 then o else 0) : Nat) : Int) ∧ Q[i]?.getD 0 ≤ 16384) := fun i hi => by
      refine ⟨hat3 i hi, ?_, HF.out.at_ i hi, HF.out.hb i⟩
      have := hatp i (by omega)
      rw [HF.out.pg i (by rw [← HF.out.ls]; exact hi)] at this
      exact this
    have H7 : Hid (Below w.heap.size w w7) := hb7
    have ho1 := HF.out.ho
    subst ha3 hpa
    have hneq : (((S.length : Nat) : Int) != ((pages.length : Nat) : Int)) = false := by rw [bne_eq_false_iff_eq]; omega
    have HPl : Hid (pages.length = S.length) := hpl
    generalize pages.length = PL at *
    clear HW hb7 hO hat3 hatp HIn HIb HF hpl p0 p1 p2 p3 p4 p5 hge heq
    go_wp2
    go_loop [21] (fun j => ∃ k : Nat, k ≤ S.length ∧ j = .int .i64 (k : Nat)) (fun j => S.length - (intOf j).toNat)
    case atStart => exact ⟨0, Nat.zero_le _, rfl⟩
    case round =>
      obtain ⟨k, hk, rfl⟩ := hrel
      by_cases hlt : k < S.length
      · obtain ⟨⟨c0, c1⟩, cq, ea, hqb⟩ := HS.out k hlt
        obtain ⟨U, HU⟩ : ∃ U : Nat, Hid (Q[k]?.getD 0 = U) := ⟨Q[k]?.getD 0, (rfl : Q[k]?.getD 0 = Q[k]?.getD 0)⟩
        rw [HU.out] at cq ea hqb
        have k0 : (0 : Int) ≤ (k : Int) := by omega
        have k1 : (k : Int) < (S.length : Int) := by omega
        have k2 : (k : Int) < (PL : Int) := by have := HPl.out; omega
        by_cases hk0 : k = 0
        · rw [if_pos hk0] at ea
          obtain ⟨P, hP⟩ : ∃ P : Int, Hid ((gS S k).p = P) := ⟨_, rfl⟩
          rw [hP.out] at c0 ea
          have hqP : ((U : Nat) : Int) + (o : Int) = P := by omega
          have kz : (((k : Nat) : Int) == 0) = true := by rw [beq_iff_eq]; omega
          clear ea hk0 HS
          go_wp2
          go_round
          case rel => exact ⟨k + 1, by omega, by go_num⟩
          case measure => simp [intOf]; omega
        · rw [if_neg hk0] at ea
          obtain ⟨P, hP⟩ : ∃ P : Int, Hid ((gS S k).p = P) := ⟨_, rfl⟩
          rw [hP.out] at c0 ea
          have hqP : ((U : Nat) : Int) = P := by omega
          have kz : (((k : Nat) : Int) == 0) = false := by rw [beq_eq_false_iff_ne]; omega
          clear ea hk0 HS
          subst hqP
          go_wp2
          go_round
          case rel => exact ⟨k + 1, by omega, by go_num⟩
          case measure => simp [intOf]; omega
      · obtain rfl : k = S.length := by omega
        clear HS
        go_wp2
        go_ret
        exact ⟨rfl, H7.out⟩
  · have HE : Hid (Below w.heap.size w w5) := (HT4.out.below hb5).bel
    clear HEn hb5 hh5 HT4 HF HWk HIn HIb q0 q1 q2 q3 q4 q5 r4 r5
    go_wp2
    go_ret
    exact ⟨rfl, HE.out⟩
end Go.Proofs.YtpfknjpiknpiaaaGreatDoorQL

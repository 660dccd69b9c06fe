/-
  What the law ListBack gives: true, whatever the bytes, the numbers and the pages.
-/
import Derived.Test.YtdkafcgangcgbajBuild3
import Derived.Test.YtdkafcgangcgbajMathBack2
import Derived.Test.YtdkafcgangcgbajWalk
import Derived.Test.YtdkafcgangcgbajScatter
import Derived.Test.YtdkafcgangcgbajFilled
namespace Go.Proofs.Ytdkafcgangcgbaj
open Go.RowKit
set_option linter.unusedVariables false

/-- What the law knows of what was built and walked. -/
structure BackF (N : Nat) (pages : List Int) (o n : Nat) (Q : List Nat) (S : List Sg) : Prop where
  pg : ∀ k : Nat, k < Q.length → gI pages k = ((Q[k]?.getD 0 : Nat) : Int)
  lp : pages.length = Q.length
  ls : S.length = Q.length
  ne : 0 < Q.length
  few : Q.length ≤ 33
  hn : 1 ≤ n ∧ n ≤ 2048
  ho : o ≤ 60
  hp : ∀ p ∈ Q, p % 64 = 0
  hb : ∀ k : Nat, Q[k]?.getD 0 ≤ 16384
  at_ : ∀ i : Nat, i < S.length → (gS S i).p = ((Q[i]?.getD 0 + (if i = 0 then o else 0) : Nat) : Int)
  cov : Cov N ((Q[0]?.getD 0 + o : Nat) : Int) (n : Int) S
  s0 : (gS S 0).n + o ≤ 64
theorem backF_of {l l' : List Nat} {pages : List Int} {offset long first second : Int} (h : BOk l pages offset long first second l') (hl : l.length ≤ 16384) :
    ∃ (Q : List Nat) (o n : Nat) (S : List Sg), offset = (o : Int) ∧ long = (n : Int) ∧ BackF l'.length pages o n Q S ∧ walkF l' first second long = (0, S) ∧ first ≤ 9223372036854775807 ∧ -9223372036854775808 ≤ first ∧ second ≤ 9223372036854775807 := by
  obtain ⟨Q, o, n, rfl, rfl, rfl, ⟨h1, h2, h3, h4⟩, h5, h6, rfl, h7⟩ := h
  obtain ⟨w1, w2⟩ := walk_built (l := l) (l' := l') Q o n second ⟨h1, h2⟩ h3 h4 h5 h6 h7 hl
  have hcov := walk_cov l' _ _ _ (show (walkF l' ((Q[0]?.getD 0 + o : Nat) : Int) second (n : Int)).1 = 0 by rw [w2])
  rw [w2] at hcov
  have hq : ∀ k : Nat, Q[k]?.getD 0 ≤ 16384 := fun k => by
    by_cases hk : k < Q.length
    · rw [List.getElem?_eq_getElem hk]
      have := (h6 _ (List.getElem_mem hk)).2
      show Q[k] ≤ _
      omega
    · rw [List.getElem?_eq_none (by omega)]; exact Nat.zero_le _
  have hs2 : second ≤ 9223372036854775807 := by
    rcases h7 with ⟨_, e, _⟩ | ⟨_, e, _⟩ | ⟨_, A, e, _, _, hf⟩
    · omega
    · have := hq 1; omega
    · omega
  refine ⟨Q, o, n, _, rfl, rfl, ⟨fun k hk => gI_map Q hk, List.length_map .., ?_, by omega, by omega, ⟨h1, h2⟩, h3, fun p hp => (h6 p hp).1, hq, fun i hi => ?_, hcov, ?_⟩, w2, by have := hq 0; omega, by have := hq 0; omega, hs2⟩
  · rw [List.length_cons, segF_len, List.length_drop]; omega
  · cases i with
    | zero => rfl
    | succ i =>
      have hi' : i < (Q.drop 1).length := by rw [List.length_cons, segF_len] at hi; omega
      show (gS (segF (n - min (64 - o) n) (Q.drop 1)) i).p = _
      rw [segF_at (Q.drop 1) _ i hi', List.getElem?_drop, if_neg (Nat.succ_ne_zero i), Nat.add_comm 1 i, Nat.add_zero]
      rfl
  · show ((min (64 - o) n : Nat) : Int) + o ≤ 64
    omega
/-- Numbers that came in. -/
structure IIn (w : World) (a : Option Addr) (cap : Nat) (l : List Int) : Prop where
  il : IL w a l
  cap : l.length ≤ cap
  ok : ∀ i, i < l.length → gI l i ≤ 9223372036854775807
set_option maxRecDepth 100000 in
set_option maxHeartbeats 1600000 in
theorem back_no (a pa : Option Addr) (n cap pn pc : Nat) (x offset long : Int) (w : World) (h : 16384 < n) (hn : n ≤ 140737488355328) :
    Calls Try.prog 3 #[.slice a n cap, .int .i64 x, .slice pa pn pc, .int .i64 offset, .int .i64 long] w fun e w' => e = .returned (.bool true) ∧ Below w.heap.size w w' := by
  have HN := filled_no a n cap w h hn
  have h2 : (16384 : Int) < (n : Int) := by omega
  go_enter Try.func3, Try.ntmps3
  go_wp2_with fail
  refine HN.mono ?_
  rintro e w' ⟨rfl, rfl⟩
  clear HN
  go_wp2
  go_ret
  exact ⟨rfl, Below.refl _ _⟩
/-- The data that the law scatters. -/
def dat (k : Nat) : List Nat := (List.range k).map (fun i => (7 * i + 1) % 256)
theorem dat_len (k : Nat) : (dat k).length = k := by unfold dat; simp
theorem dat_more (k : Nat) : dat (k + 1) = dat k ++ [(7 * k + 1) % 256] := by unfold dat; rw [List.range_succ, List.map_append]; rfl
theorem dat_all (k : Nat) : AllB (dat k) := fun x hx => by
  unfold dat at hx
  obtain ⟨i, _, rfl⟩ := List.mem_map.1 hx
  omega
/-- No two of the first k pages are one. -/
def Dis (Q : List Nat) (k : Nat) : Prop := ∀ i j : Nat, j < i → i < k → Q[j]?.getD 0 ≠ Q[i]?.getD 0
set_option maxRecDepth 100000 in
set_option maxHeartbeats 16000000 in
theorem back_yes (a pa : Option Addr) (b : List Nat) (pages : List Int) (cap pc : Nat) (x offset long : Int) (w : World) (h : b.length ≤ 16384) (hI : BIn w a cap b) (hP : IL w pa pages) (hpc : pages.length ≤ pc) (hok : ∀ i, i < pages.length → gI pages i ≤ 9223372036854775807) (hx : x ≤ 9223372036854775807) :
    Calls Try.prog 3 #[.slice a b.length cap, .int .i64 x, .slice pa pages.length pc, .int .i64 offset, .int .i64 long] w fun e w' => e = .returned (.bool true) ∧ Below w.heap.size w w' := by
  have HN : Hid (Calls Try.prog 5 #[.slice a b.length cap] w fun e w' => FillPost w w' e b) := filled_yes a b cap w h hI
  have HB : Hid (∀ w1 mb hb, MW w1 mb hb b → Below w.heap.size w w1 → Calls Try.prog 6 #[.pointer (some ⟨mb, 0, none⟩), .int .i64 x, .slice pa pages.length pc, .int .i64 offset, .int .i64 long] w1 fun e w' => BuildPost w1 w' e mb hb b pages offset long) := fun w1 mb hb hm hb1 => build_any mb hb b x pa pc pages offset long w1 hm (hP.below hb1) hpc hok hx
  have HI : Hid (∀ wz, Below w.heap.size w wz → IL wz pa pages) := fun wz hz => hP.below hz
  clear hI hpc hok hP
  go_enter Try.func3, Try.ntmps3
  go_wp2_with fail
  refine HN.out.mono ?_
  rintro e w1 ⟨mb, hb, rfl, hm, hb1, hg1, hg2⟩
  have HB1 := HB.out w1 mb hb hm hb1
  have H1 : Hid (Below w.heap.size w w1 ∧ w.heap.size ≤ mb ∧ w.heap.size ≤ hb) := ⟨hb1, hg1, hg2⟩
  clear HN HB hm hb1 hg1 hg2
  go_wp2_with fail
  refine HB1.mono ?_
  rintro e w2 (⟨n0, rfl, hb2⟩ | ⟨first, second, l', rfl, hB, hm, hk⟩)
  · have HE : Hid (Below w.heap.size w w2) := H1.out.1.trans (hb2.mono H1.out.1.size)
    clear HB1 hb2 H1 HI
    go_wp2
    go_ret
    exact ⟨rfl, HE.out⟩
  · obtain ⟨Q, o, n, S, rfl, rfl, hF, hw, hf1, hf2, hs2⟩ := backF_of hB h
    have HF : Hid (BackF l'.length pages o n Q S) := hF
    have H2 : Hid (MW w2 mb hb l' ∧ Below w.heap.size w w2 ∧ mb < w2.heap.size ∧ hb < w2.heap.size) := ⟨hm, H1.out.1.trans (hk.below H1.out.1.size (fun q e => by have e' : q = hb := e; have := H1.out.2.2; omega)), hm.lt.1, hm.lt.2⟩
    have HW : Hid (Calls Try.prog 7 #[.pointer (some ⟨mb, 0, none⟩), .int .i64 first, .int .i64 second, .int .i64 (n : Nat)] w2 fun e w' => Below w2.heap.size w2 w' ∧ ∃ (a3 : Option Addr) (c3 : Nat), e = .returned (.tuple #[.slice a3 S.length c3, .nilIface]) ∧ OwnS w' w2.heap.size a3 c3 S) := by
      have := walk_any mb hb l' first second (n : Nat) w2 hm hf1 hf2 hs2
      rw [hw] at this
      refine this.mono ?_
      rintro e w' ⟨q1, ⟨q2, _⟩ | ⟨_, a3, c3, q3, q4⟩⟩
      · exact absurd rfl q2
      · exact ⟨q1, a3, c3, q3, q4⟩
    have hMb : Hid (hb < w2.heap.size) := H2.out.2.2.2
    have HmB : Hid (w.heap.size ≤ hb) := H1.out.2.2
    clear HB1 hB hm hk hw hf1 hf2 hs2 hF H1
    go_wp2_with fail
    refine HW.out.mono ?_
    rintro e w3 ⟨hb3, a3, c3, rfl, hO⟩
    have hpl : pages.length = S.length := by rw [HF.out.lp, HF.out.ls]
    have hlt0 : 0 < S.length := by rw [HF.out.ls]; exact HF.out.ne
    have hfew : S.length ≤ 33 := by rw [HF.out.ls]; exact HF.out.few
    obtain ⟨g3, o3, ha3, hat3⟩ := hO.sl.some_of hlt0
    have H3 : Hid (Below w.heap.size w w3 ∧ Below w2.heap.size w2 w3 ∧ MW w3 mb hb l' ∧ w2.heap.size ≤ g3) := ⟨H2.out.2.1.trans (hb3.mono H2.out.2.1.size), hb3, H2.out.1.below hb3, (hO.blk ⟨_, ha3, rfl⟩).1⟩
    have HS : Hid (∀ wz, Below w3.heap.size w3 wz → ∀ i, i < S.length → SgAt wz g3 o3 i (gS S i)) := fun wz hz i hi => (hat3 i hi).keep (S := fun _ => False) (Keep.of_below hz) (fun e => e)
    subst ha3
    obtain ⟨gp, op, hpa, _⟩ := (HI.out w3 H3.out.1).some_of (show 0 < pages.length by omega)
    have HPg : Hid (∀ wz, Below w3.heap.size w3 wz → ∀ i, i < S.length → wz.cell? ⟨gp, op + i, none⟩ = some (.int .i64 ((Q[i]?.getD 0 : Nat) : Int))) := fun wz hz i hi => by
      obtain ⟨g', o', e', hat'⟩ := (HI.out wz (H3.out.1.trans (hz.mono H3.out.1.size))).some_of (show 0 < pages.length by omega)
      rw [hpa] at e'
      cases e'
      have := hat' i (by omega)
      rw [HF.out.pg i (by rw [← HF.out.ls]; exact hi)] at this
      exact this
    subst hpa
    have hn1 := HF.out.hn.1
    have hn2 := HF.out.hn.2
    have ho1 := HF.out.ho
    have hneq : (((S.length : Nat) : Int) != ((pages.length : Nat) : Int)) = false := by rw [bne_eq_false_iff_eq]; omega
    clear HW hO hat3 hb3 HI H2
    have HD0 : Hid (Below w3.heap.size w3 w3 ∧ ((0 : Nat) : Int) = sumS (S.take 0) ∧ Dis Q 0) := ⟨Below.refl _ _, rfl, fun i j _ hi => by omega⟩
    have HPl : Hid (pages.length = S.length) := hpl
    generalize pages.length = PL at *
    clear hpl
    go_wp2
    go_loopw [17, 18] (fun v j wr => ∃ k V : Nat, k ≤ S.length ∧ V ≤ 2048 ∧ v = .int .i64 (V : Nat) ∧ j = .int .i64 (k : Nat) ∧ Hid (Below w3.heap.size w3 wr ∧ (V : Int) = sumS (S.take k) ∧ Dis Q k)) (fun _ j _ => S.length - (intOf j).toNat)
    case atStart => exact ⟨0, 0, Nat.zero_le _, Nat.zero_le _, rfl, rfl, HD0.out⟩
    case round =>
      obtain ⟨k, V, hk, hV, rfl, rfl, hR⟩ := hrel
      clear HD0
      obtain ⟨wo, hwo⟩ : ∃ wo, wo = wr := ⟨_, rfl⟩
      subst hwo
      by_cases hlt : k < S.length
      · obtain ⟨c0, c1⟩ := HS.out wo hR.out.1 k hlt
        obtain ⟨U, HU⟩ : ∃ U, Hid (Q[k]?.getD 0 = U) := ⟨_, rfl⟩
        have cq := HPg.out wo hR.out.1 k hlt
        rw [HU.out] at cq
        have k0 : (0 : Int) ≤ (k : Int) := by omega
        have k1 : (k : Int) < (S.length : Int) := by omega
        have k2 : (k : Int) < (PL : Int) := by have := HPl.out; omega
        obtain ⟨P, N, e1, e2, q1, q2, q3, q4⟩ := HF.out.cov.ins k hlt
        have ea := HF.out.at_ k hlt
        have HV : Hid ((((V + N : Nat) : Nat) : Int) = sumS (S.take (k + 1)) ∧ V + N ≤ 2048) := by
          have h1 : (((V + N : Nat) : Nat) : Int) = sumS (S.take (k + 1)) := by
            rw [take_snocS hlt, sumS_app, ← hR.out.2.1]
            show _ = (V : Int) + ((gS S k).n + 0)
            rw [e2]; omega
          have h2 := (sumS_take S (k + 1) HF.out.cov.one).2
          rw [HF.out.cov.sum, ← h1] at h2
          exact ⟨h1, by omega⟩
        have HDs : Hid (Dis Q k) := hR.out.2.2
        have HRb : Hid (Below w3.heap.size w3 wo) := hR.out.1
        have HDn : Hid (∀ (z : Nat), z = k → (∀ j : Nat, j < z → Q[j]?.getD 0 ≠ Q[k]?.getD 0) → Dis Q (k + 1)) := fun z hz hj i j hji hi => by
          by_cases hik : i = k
          · subst hik; exact hj j (by omega)
          · exact HDs.out i j hji (by omega)
        have hqb := HF.out.hb k
        rw [HU.out] at ea hqb
        rw [e1] at c0 ea
        rw [e2] at c1
        have hN1 : ¬ (N : Int) < 1 := by omega
        have hN2 : ¬ 64 < (N : Int) := by omega
        clear e1 e2 q1 q2 q3 q4 hR
        by_cases hk0 : k = 0
        · rw [if_pos hk0] at ea
          have hqP : ((U : Nat) : Int) + (o : Int) = (P : Int) := by omega
          have kz : (((k : Nat) : Int) == 0) = true := by rw [beq_iff_eq]; omega
          clear ea hk0
          go_wp2
          go_loopw [20] (fun j wr => ∃ z : Nat, z ≤ k ∧ j = .int .i64 (z : Nat) ∧ Hid (Below w3.heap.size w3 wr ∧ ∀ j : Nat, j < z → Q[j]?.getD 0 ≠ Q[k]?.getD 0)) (fun j _ => k - (intOf j).toNat)
          case atStart => exact ⟨0, Nat.zero_le _, rfl, HRb.out, fun j hj => by omega⟩
          case round =>
            obtain ⟨z, hz, rfl, hR6⟩ := hrel
            by_cases hzk : z < k
            · have d1 := HPg.out wr hR6.out.1 z (by omega)
              have d2 := HPg.out wr hR6.out.1 k hlt
              rw [HU.out] at d2
              obtain ⟨U1, HU1⟩ : ∃ U1, Hid (Q[z]?.getD 0 = U1) := ⟨_, rfl⟩
              rw [HU1.out] at d1
              have z1 : (z : Int) < (k : Int) := by omega
              have z0 : (0 : Int) ≤ (z : Int) := by omega
              have z2 : (z : Int) < (PL : Int) := by have := HPl.out; omega
              have HB6 : Hid (∀ m, Below w3.heap.size w3 (wr.drewN m)) := fun m => below_drewN hR6.out.1 m
              by_cases hqq : U1 = U
              · have he : (((U1 : Nat) : Int) == ((U : Nat) : Int)) = true := by rw [beq_iff_eq, hqq]
                have HX6 : Hid (∀ m, Below w.heap.size w (wr.drewN m)) := fun m => H3.out.1.trans ((HB6.out m).mono H3.out.1.size)
                clear hqq hR6 HPg HS HF HDs HDn HRb HV HB6
                go_wp2
                go_quiet (fail)
                go_wp2
                go_ret
                exact ⟨rfl, HX6.out _⟩
              · have he : (((U1 : Nat) : Int) == ((U : Nat) : Int)) = false := by rw [beq_eq_false_iff_ne]; omega
                have HX6 : Hid (∀ j : Nat, j < z + 1 → Q[j]?.getD 0 ≠ Q[k]?.getD 0) := fun j hj => by
                  by_cases hjz : j = z
                  · subst hjz; rw [HU1.out, HU.out]; exact hqq
                  · exact hR6.out.2 j (by omega)
                clear hqq hR6 HPg HS HF HDs HDn HRb HV
                go_wp2
                go_quiet (fail)
                go_wp2
                go_roundw
                case rel => exact ⟨z + 1, by omega, by go_num, HB6.out _, HX6.out⟩
                case measure => simp [intOf]; omega
            · obtain rfl : z = k := by omega
              have HX6 : Hid (Below w3.heap.size w3 wr ∧ (((V + N : Nat) : Nat) : Int) = sumS (S.take (z + 1)) ∧ Dis Q (z + 1)) := ⟨hR6.out.1, HV.out.1, HDn.out z rfl hR6.out.2⟩
              have hVN := HV.out.2
              clear hzk hR6 HPg HS HF HDs HDn HRb HV
              go_wp2
              go_roundw
              case rel => exact ⟨z + 1, V + N, by omega, hVN, by go_num, by go_num, HX6.out⟩
              case measure => simp [intOf]; omega
        · rw [if_neg hk0, Nat.add_zero] at ea
          have kz : (((k : Nat) : Int) == 0) = false := by rw [beq_eq_false_iff_ne]; omega
          obtain rfl : U = P := by omega
          clear ea hk0
          go_wp2
          go_loopw [20] (fun j wr => ∃ z : Nat, z ≤ k ∧ j = .int .i64 (z : Nat) ∧ Hid (Below w3.heap.size w3 wr ∧ ∀ j : Nat, j < z → Q[j]?.getD 0 ≠ Q[k]?.getD 0)) (fun j _ => k - (intOf j).toNat)
          case atStart => exact ⟨0, Nat.zero_le _, rfl, HRb.out, fun j hj => by omega⟩
          case round =>
            obtain ⟨z, hz, rfl, hR6⟩ := hrel
            by_cases hzk : z < k
            · have d1 := HPg.out wr hR6.out.1 z (by omega)
              have d2 := HPg.out wr hR6.out.1 k hlt
              rw [HU.out] at d2
              obtain ⟨U1, HU1⟩ : ∃ U1, Hid (Q[z]?.getD 0 = U1) := ⟨_, rfl⟩
              rw [HU1.out] at d1
              have z1 : (z : Int) < (k : Int) := by omega
              have z0 : (0 : Int) ≤ (z : Int) := by omega
              have z2 : (z : Int) < (PL : Int) := by have := HPl.out; omega
              have HB6 : Hid (∀ m, Below w3.heap.size w3 (wr.drewN m)) := fun m => below_drewN hR6.out.1 m
              by_cases hqq : U1 = U
              · have he : (((U1 : Nat) : Int) == ((U : Nat) : Int)) = true := by rw [beq_iff_eq, hqq]
                have HX6 : Hid (∀ m, Below w.heap.size w (wr.drewN m)) := fun m => H3.out.1.trans ((HB6.out m).mono H3.out.1.size)
                clear hqq hR6 HPg HS HF HDs HDn HRb HV HB6
                go_wp2
                go_quiet (fail)
                go_wp2
                go_ret
                exact ⟨rfl, HX6.out _⟩
              · have he : (((U1 : Nat) : Int) == ((U : Nat) : Int)) = false := by rw [beq_eq_false_iff_ne]; omega
                have HX6 : Hid (∀ j : Nat, j < z + 1 → Q[j]?.getD 0 ≠ Q[k]?.getD 0) := fun j hj => by
                  by_cases hjz : j = z
                  · subst hjz; rw [HU1.out, HU.out]; exact hqq
                  · exact hR6.out.2 j (by omega)
                clear hqq hR6 HPg HS HF HDs HDn HRb HV
                go_wp2
                go_quiet (fail)
                go_wp2
                go_roundw
                case rel => exact ⟨z + 1, by omega, by go_num, HB6.out _, HX6.out⟩
                case measure => simp [intOf]; omega
            · obtain rfl : z = k := by omega
              have HX6 : Hid (Below w3.heap.size w3 wr ∧ (((V + N : Nat) : Nat) : Int) = sumS (S.take (z + 1)) ∧ Dis Q (z + 1)) := ⟨hR6.out.1, HV.out.1, HDn.out z rfl hR6.out.2⟩
              have hVN := HV.out.2
              clear hzk hR6 HPg HS HF HDs HDn HRb HV
              go_wp2
              go_roundw
              case rel => exact ⟨z + 1, V + N, by omega, hVN, by go_num, by go_num, HX6.out⟩
              case measure => simp [intOf]; omega
      · obtain rfl : k = S.length := by omega
        have hVn : (V : Int) = (n : Int) := by rw [hR.out.2.1, List.take_length, HF.out.cov.sum]
        obtain rfl : V = n := by omega
        have HRb : Hid (Below w3.heap.size w3 wo) := hR.out.1
        have HDs : Hid (Dis Q S.length) := hR.out.2.2
        clear hlt hR hVn
        have HD1 : Hid (Below w3.heap.size w3 wo ∧ OwnA wo w3.heap.size none 0 (dat 0)) := ⟨HRb.out, own_nil _ _⟩
        go_wp2
        go_loopw [21, 22] (fun s j wr => ∃ (k : Nat) (a5 : Option Addr) (c5 : Nat) (ys : List Nat), k ≤ V ∧ s = .slice a5 ys.length c5 ∧ j = .int .i64 (k : Nat) ∧ Hid (Below w3.heap.size w3 wr ∧ OwnA wr w3.heap.size a5 c5 ys ∧ ys = dat k)) (fun _ j _ => V - (intOf j).toNat)
        case atStart => exact ⟨0, none, 0, [], Nat.zero_le _, rfl, rfl, HRb.out, own_nil _ _, rfl⟩
        case round =>
          obtain ⟨k, a5, c5, ys, hk2, rfl, rfl, hR5⟩ := hrel
          clear HD1
          by_cases hlt5 : k < V
          · have k1 : (k : Int) < (V : Int) := by omega
            obtain ⟨Z, hZ⟩ : ∃ Z : Nat, (7 * (k : Int) + 1) % 256 = (Z : Int) := ⟨(7 * k + 1) % 256, by omega⟩
            have hZ2 : Z = (7 * k + 1) % 256 := by omega
            obtain ⟨ys2, HY⟩ : ∃ ys2, Hid (ys2 = ys ++ [Z] ∧ ys2 = dat (k + 1) ∧ ys2.length ≤ 140737488355328) := by
              have e1 : ys ++ [Z] = dat (k + 1) := by rw [dat_more, hR5.out.2.2, hZ2]
              exact ⟨ys ++ [Z], rfl, e1, by rw [e1, dat_len]; omega⟩
            have HO5 : Hid (OwnA (wr.alloc (.cells #[.int .i8 0] 5)) w3.heap.size a5 c5 ys → True) := fun _ => trivial
            have HL5 : Hid (∀ c, c = .int .u8 (Z : Nat) → OwnA (wr.alloc (.cells #[c] 5)) w3.heap.size a5 c5 ys ∧ Lies (wr.alloc (.cells #[c] 5)) (some ⟨wr.heap.size, 0, none⟩) [Z] ∧ w3.heap.size ≤ (wr.alloc (.cells #[c] 5)).heap.size) := fun c hc => by
              subst hc
              refine ⟨hR5.out.2.1.below (alloc_below' wr _), Or.inr ⟨wr.heap.size, 0, rfl, fun i hi => ?_⟩, by have := hR5.out.1.size; simp; omega⟩
              simp at hi
              subst hi
              simp
            have HB5 : Hid (Below w3.heap.size w3 wr ∧ (∀ b, blk a5 b → w3.heap.size ≤ b)) := ⟨hR5.out.1, fun b hb5 => (hR5.out.2.1.ge hb5).1⟩
            clear hR5 HO5 hZ2
            go_wp2_with (at_builtin; refine app_step rfl (.tmp 132) (.tmp 137) rfl w3.heap.size a5 c5 ys (by rfl) (HL5.out _ rfl).1 (some ⟨wr.heap.size, 0, none⟩) 1 [Z] (by rfl) (fun e => by cases e) (HL5.out _ rfl).2.1 ys2 HY.out.1 HY.out.2.2 (HL5.out _ rfl).2.2 ?_)
            intro a6 c6 w6 hO6 hK6
            have hbz : Below w3.heap.size w3 (wr.alloc (.cells #[.int .u8 (Z : Nat)] 5)) := HB5.out.1.trans ((alloc_below' wr _).mono HB5.out.1.size)
            have H6 : Hid (Below w3.heap.size w3 w6 ∧ OwnA w6 w3.heap.size a6 c6 ys2 ∧ ys2 = dat (k + 1)) := ⟨hbz.trans (hK6.below hbz.size HB5.out.2), hO6, HY.out.2.1⟩
            clear hO6 hK6 hbz HB5 HL5 HY
            go_wp2
            go_roundw
            case rel => exact ⟨k + 1, a6, c6, ys2, by omega, rfl, by go_num, H6.out⟩
            case measure => simp [intOf]; omega
          · obtain rfl : k = V := by omega
            have hys : ys.length = k := by rw [hR5.out.2.2, dat_len]
            have hb5 := hR5.out.1
            have hMr : MW wr mb hb l' := H3.out.2.2.1.below hb5
            have hhb : hb < w3.heap.size := H3.out.2.2.1.lt.2
            have hSl : SL wr (some ⟨g3, o3, none⟩) S := .inr ⟨g3, o3, rfl, HS.out wr hb5⟩
            have hokS : OkS S := fun i hi => by
              obtain ⟨P, N, e1, e2, q1, q2, q3, q4⟩ := HF.out.cov.ins i hi
              have := H3.out.2.2.1.long
              omega
            have hg3 : g3 ≠ hb := by
              have := H3.out.2.2.2
              have := hMb.out
              omega
            have hcap5 : ys.length ≤ c5 := by
              rcases hR5.out.2.1.parts with ⟨_, _, e⟩ | ⟨_, _, _, _, _, q, _⟩
              · rw [e]; exact Nat.zero_le _
              · exact q
            have hdin : DIn wr hb a5 c5 ys := ⟨hR5.out.2.1.lies, by rw [hR5.out.2.2]; exact dat_all k, hcap5, fun q off _ q2 => by
              have := (hR5.out.2.1.ge (b := q) ⟨_, q2, rfl⟩).1
              omega⟩
            have hsum : sumS S = (ys.length : Int) := by rw [HF.out.cov.sum, hys]
            have hfl : fillF S (ys.length : Int) = true := fillF_sum S _ (fun s hs => by have := HF.out.cov.one s hs; omega) hsum
            have hall : allF l'.length S = true := HF.out.cov.all
            have hfits : ∀ s ∈ S, fits l'.length s.p s.n := fun s hs => by
              obtain ⟨i, hi, e⟩ := List.getElem_of_mem hs
              have := allF_at hall i hi
              unfold gS at this
              rw [List.getElem?_eq_getElem hi] at this
              rw [← e]; exact this
            have hfar : S.Pairwise Far := far_of HF.out.ho HF.out.ls HF.out.hp HF.out.at_ (fun i hi => by
              obtain ⟨P, N, e1, e2, q1, q2, q3, q4⟩ := HF.out.cov.ins i hi
              omega) (fun _ => HF.out.s0) (fun i j hji hi => HDs.out i j hji (by omega))
            have hgs : gath (scat l' S ys) S = ys := gath_scat S l' ys hfits hfar hsum
            have hsl : (scat l' S ys).length = l'.length := scat_len S l' ys hfits
            have HSc : Hid (Calls Try.prog 8 #[.pointer (some ⟨mb, 0, none⟩), .slice (some ⟨g3, o3, none⟩) S.length c3, .slice a5 ys.length c5] wr fun e w' => e = .returned .nilIface ∧ MW w' mb hb (scat l' S ys) ∧ Keep (fun q => q = hb) wr w') := by
              refine (scatter_any mb hb l' (some ⟨g3, o3, none⟩) a5 c3 c5 S ys wr hMr hSl (fun q hq _ => by obtain ⟨y, e, rfl⟩ := hq; cases e; exact hg3) hokS hdin (by omega) (by omega)).mono ?_
              rintro e w' (⟨q, _⟩ | ⟨_, q, _⟩ | ⟨_, _, q⟩)
              · rw [hfl] at q; cases q
              · rw [hall] at q; cases q
              · exact q
            have HGa : Hid (∀ w', MW w' mb hb (scat l' S ys) → Keep (fun q => q = hb) wr w' → Calls Try.prog 9 #[.pointer (some ⟨mb, 0, none⟩), .slice (some ⟨g3, o3, none⟩) S.length c3] w' fun e w'' => ∃ a8 c8, e = .returned (.tuple #[.slice a8 ys.length c8, .nilIface]) ∧ Lies w'' a8 ys ∧ Lies w'' a5 ys ∧ Below w.heap.size w w'') := fun w' q1 q2 => by
              have hll : (scat l' S ys).length ≤ 16384 := q1.long
              have hmul : S.length * (scat l' S ys).length ≤ 140737488355328 := Nat.le_trans (Nat.mul_le_mul hfew hll) (by decide)
              refine (gather_any mb hb (scat l' S ys) (some ⟨g3, o3, none⟩) c3 S w' q1 (hSl.keep q2 (fun q hq _ e => by obtain ⟨y, e', rfl⟩ := hq; cases e'; exact hg3 e)) hokS hmul (by omega)).mono ?_
              rintro e w'' ⟨r1, r2⟩
              have hbw : Below w.heap.size w w' := (H3.out.1.trans (hb5.mono H3.out.1.size)).trans (q2.below (Nat.le_trans H3.out.1.size hb5.size) (fun q e => by have e' : q = hb := e; have := HmB.out; omega))
              rcases r2 with ⟨r2, _⟩ | ⟨_, a8, c8, r3, r4⟩
              · rw [hsl, hall] at r2; cases r2
              · rw [hgs] at r3 r4
                exact ⟨a8, c8, r3, r4.lies, ((hdin.keep q2 (fun q e => e)).lies).below r1, hbw.trans (r1.mono hbw.size)⟩
            have hysb : ys.length ≤ 140737488355328 := by omega
            clear hlt5 hR5 hMr hSl hokS hdin hsum hfl hall hfits hfar hgs hsl hb5 HS HPg HF HDs H3 HRb hys
            go_wp2_with fail
            refine HSc.out.mono ?_
            rintro e w7 ⟨rfl, hm7, hk7⟩
            have HG7 := HGa.out w7 hm7 hk7
            clear HSc HGa hm7 hk7
            go_wp2_with fail
            refine HG7.mono ?_
            rintro e w8 ⟨a8, c8, rfl, hL8, hL5, hb8⟩
            have HBy := bytes_same a8 a5 ys c8 c5 w8 hysb hL8 hL5
            have HB8 : Hid (Below w.heap.size w w8) := hb8
            clear HG7 hL8 hL5 hb8
            go_wp2_with fail
            refine HBy.mono ?_
            rintro e w9 ⟨rfl, hb9⟩
            have HB9 : Hid (Below w.heap.size w w9) := HB8.out.trans (hb9.mono HB8.out.size)
            clear HBy HB8 hb9
            go_wp2
            go_ret
            exact ⟨rfl, HB9.out⟩
theorem back_any (a : Option Addr) (b : List Nat) (cap : Nat) (x : Int) (pa : Option Addr) (pages : List Int) (pc : Nat) (offset long : Int) (w : World) (hI : BIn w a cap b) (hP : IIn w pa pc pages) (hx : -9223372036854775808 ≤ x ∧ x ≤ 9223372036854775807) :
    Calls Try.prog 3 #[.slice a b.length cap, .int .i64 x, .slice pa pages.length pc, .int .i64 offset, .int .i64 long] w fun e w' => e = .returned (.bool true) ∧ Below w.heap.size w w' := by
  by_cases h : b.length ≤ 16384
  · exact back_yes a pa b pages cap pc x offset long w h hI hP.il hP.cap hP.ok hx.2
  · exact back_no a pa b.length cap pages.length pc x offset long w (by omega) hI.big
end Go.Proofs.Ytdkafcgangcgbaj

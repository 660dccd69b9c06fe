/-
  What the law RecordBack gives: true, whatever the batches and the cut.
-/
import Derived.Test.YtalmcjkaheofpaeDoorFact
namespace Go.Proofs.YtalmcjkaheofpaeDoor
open Go.RowKit
set_option linter.unusedVariables false

theorem manyE_take : ∀ (l : List (List En)) (j : Nat), manyE (l.take j) ≤ manyE l
  | [], j => by simp [manyE]
  | b :: r, 0 => by simp [manyE]
  | b :: r, j + 1 => by
    have := manyE_take r j
    have e : manyE (b :: r) = b.length + manyE r := by simp [manyE]
    have e2 : manyE ((b :: r).take (j + 1)) = b.length + manyE (r.take j) := by simp [manyE]
    omega
theorem many_all (l : List (List En)) (B : Nat) (h : manyE l ≤ B) (i : Nat) : (l[i]?.getD []).length ≤ B := by
  by_cases hi : i < l.length
  · have := manyE_at l i hi; omega
  · rw [List.getElem?_eq_none (by omega)]; simp
theorem slice_toB (a : Option Addr) (n cap p : Nat) (q : Int) (hq : q = (p : Int)) (h : p ≤ cap) (w : World) : (Instr.slice 22 (.slice a n cap) none (some (.int .i64 q)) none).run Tryd.prog w = .ok (.slice a p cap) w := by
  subst hq
  have hu : Tryd.prog.underlying 22 = some (.slice (Tryd.prog.elem 22)) := by kernel_rfl
  have hs : (sizeOf (Tryd.prog.elem 22)).run Tryd.prog w = .ok 1 w := by kernel_rfl
  rw [run_slice_h w 22 _ n cap hu .i64 (p : Int) (by omega) (by omega), hs]
  simp [Result.andThen, sliced, add0]
/-- What is read of a beginning. -/
structure BackF (l d : List (List En)) (k u : Nat) : Prop where
  pre : l.take d.length = d
  le : d.length ≤ l.length
  ulen : u = (recL d).length
  uk : u ≤ k
  all : d.length = l.length → k = (recL l).length
  more : d.length < l.length → k < (recL (l.take (d.length + 1))).length
theorem back_fin {l d : List (List En)} {k u : Nat} (h : RecOk l) (hk : k ≤ (recL l).length) (hf : Fin ((recL l).take k) d u) : BackF l d k u := by
  obtain ⟨j, h1, h2, h3, h4, h5⟩ := fin_of_take h hk
  obtain ⟨rfl, rfl⟩ := hf.same h2
  have e : (l.take j).length = j := by rw [List.length_take]; omega
  exact ⟨by rw [e], by omega, rfl, h3, fun x => h4 (by omega), fun x => by rw [e] at x ⊢; exact h5 x⟩
theorem write_ok {a : Option Addr} {l : List (List En)} {cap : Nat} {w : World} (hB : BatAt w a l) (hl : manyE l + l.length ≤ 1048576) (hk : RecOk l) :
    Calls Tryd.prog 7 #[.slice a l.length cap] w fun e w' => Below w.heap.size w w' ∧ ∃ a1 c1, e = .returned (.tuple #[.slice a1 (recL l).length c1, .nilIface]) ∧ OwnA w' w.heap.size a1 c1 (recL l) :=
  (write_any a l cap w hB hl).mono fun e w' ⟨h1, h2⟩ => by
    rcases h2 with ⟨h2, _⟩ | ⟨_, h3⟩
    · exact absurd (faultR_ok.2 hk) h2
    · exact ⟨h1, h3⟩
set_option maxRecDepth 20000 in
set_option maxHeartbeats 1600000 in
theorem back_any (a : Option Addr) (l : List (List En)) (cap : Nat) (cut : Int) (w : World) (hE : ErrV w) (h : BatAt w a l) (hl : manyE l + l.length ≤ 1048576) (hlc : l.length ≤ cap) (hcut : -9223372036854775808 ≤ cut ∧ cut ≤ 9223372036854775807) :
    Calls Tryd.prog 5 #[.slice a l.length cap, .int .i64 cut] w fun e w' => e = .returned (.bool true) ∧ Below w.heap.size w w' := by
  have HB : Hid (∀ wz, Below w.heap.size w wz → BatAt wz a l ∧ ErrV wz) := fun wz hb => ⟨h.below hb, hE.below hb⟩
  have hlen : l.length ≤ 1048576 := by omega
  have HM : Hid (manyE l + l.length ≤ 1048576) := hl
  have HCut : Hid (-9223372036854775808 ≤ cut ∧ cut ≤ 9223372036854775807) := hcut
  clear h hE hl hcut
  go_enter Tryd.func5, Tryd.ntmps5
  go_wp2_with fail
  refine (fact_any w).mono ?_
  rintro e w1 ⟨rfl, b1⟩
  go_wp2_with fail
  refine (write_any a l cap w1 (HB.out w1 b1).1 HM.out).mono ?_
  rintro e w2 ⟨b2, ⟨hf, rfl⟩ | ⟨hf, a2, c2, rfl, o2⟩⟩
  · rw [errI_ne hf]
    have bb := b1.trans (b2.mono b1.size)
    clear b1 b2
    generalize faultR l = n
    go_wp2
    go_ret
    exact ⟨rfl, bb⟩
  · have hok := faultR_ok.1 hf
    have hrl := recL_len hok
    have HK : Hid (RecOk l) := hok
    have bb2 := b1.trans (b2.mono b1.size)
    have hRb : (recL l).length ≤ 33554432 := by have := HM.out; omega
    have HFin : Hid (Fin (recL l) l (recL l).length) := fin_whole hok
    have HAl : Hid (AllB (recL l)) := recL_all l
    have HBk : Hid (∀ k d u, k ≤ (recL l).length → Fin ((recL l).take k) d u → BackF l d k u) := fun k d u h1 h2 => back_fin hok h1 h2
    have HRl : Hid (∀ d : List (List En), d.length = l.length → l.take d.length = d → (recL d).length = (recL l).length) := fun d h1 h2 => by rw [← h2, h1, List.take_length]
    clear hf hok hrl b1 b2
    generalize hR : recL l = R at o2 hRb HFin HAl HBk HRl ⊢
    have HR : Hid (recL l = R) := hR
    clear hR
    have hcap2 := o2.cap
    have HO2 : Hid (∀ wz, Below w2.heap.size w2 wz → Lies wz a2 R) := fun wz hb => (o2.below hb).lies
    go_wp2_with fail
    refine (read_any a2 R c2 w2 o2.lies HAl.out (by omega) hcap2 (HB.out w2 bb2).2).mono ?_
    rintro e w3 ⟨d3, u3, a3, c3, rfl, hf3, hba3, b3⟩
    obtain ⟨rfl, rfl⟩ := HFin.out.same hf3
    have bb3 := bb2.trans (b3.mono bb2.size)
    have HC3 : Hid (Calls Tryd.prog 14 #[.slice a3 l.length c3, .slice a l.length cap] w3 fun e w' => e = .returned (.bool true) ∧ Below w3.heap.size w3 w') := by
      exact batches_same a3 a l c3 cap w3 hba3 (HB.out w3 bb3).1 (by omega) (fun i => many_all l 1073741824 (by have := HM.out; omega) i)
    clear hf3 hba3
    go_wp2_with fail
    refine HC3.out.mono ?_
    rintro e w4 ⟨rfl, b4⟩
    have bb4 := bb3.trans (b4.mono bb3.size)
    have b24 := b3.trans (b4.mono b3.size)
    clear HC3 b3 b4 bb3 o2
    have HPk : Hid (Calls Tryd.prog 16 #[.int .i64 cut, .int .i64 ((R.length : Int) + 1)] w4 fun e w' => (∃ k : Nat, k < R.length + 1 ∧ e = .returned (.int .i64 (k : Nat))) ∧ w' = w4) := pick_any cut (R.length + 1) w4 (by omega) (by omega) HCut.out
    go_wp2_with fail
    refine HPk.out.mono ?_
    rintro e w' ⟨⟨k, hk, rfl⟩, rfl⟩
    have hsl := slice_to a2 R.length c2 k (by omega)
    have HRd : Hid (Calls Tryd.prog 12 #[.slice a2 k c2] w' fun e w5 => ReadPost w' w5 e (R.take k)) := by
      have h5 := read_any a2 (R.take k) c2 w' ((HO2.out w' b24).take k) (HAl.out.take k) (by rw [List.length_take]; omega) (by rw [List.length_take]; omega) (HB.out w' bb4).2
      rw [List.length_take, Nat.min_eq_left (by omega)] at h5
      exact h5
    clear HPk
    go_wp2_with fail
    refine HRd.out.mono ?_
    rintro e w5 ⟨d, u, a5, c5, rfl, hf5, hba5, b5⟩
    have hF := HBk.out k d u (by omega) hf5
    have bb5 := bb4.trans (b5.mono bb4.size)
    have hdl := hF.le
    have huk := hF.uk
    have HF : Hid (BackF l d k u) := hF
    have HBd : Hid (∀ wz, Below w.heap.size w wz → BatAt wz a d) := fun wz hb => by
      have h6 := ((HB.out wz hb).1).take d.length
      rw [HF.out.pre] at h6
      exact h6
    have HMd : Hid (manyE d + d.length ≤ 1048576 ∧ RecOk d) := by
      have h7 := manyE_take l d.length
      rw [HF.out.pre] at h7
      refine ⟨by have := HM.out; omega, ?_⟩
      have h8 := HK.out.take d.length
      rw [HF.out.pre] at h8
      exact h8
    have hsB := fun wz => slice_toB a l.length cap d.length (d.length : Int) rfl (by omega) wz
    have HC5 : Hid (Calls Tryd.prog 14 #[.slice a5 d.length c5, .slice a d.length cap] w5 fun e w' => e = .returned (.bool true) ∧ Below w5.heap.size w5 w') := by
      exact batches_same a5 a d c5 cap w5 hba5 (HBd.out w5 bb5) (by omega) (fun i => many_all d 1073741824 (by have := HMd.out.1; omega) i)
    clear hf5 hba5 HRd hF
    go_wp2_with fail
    refine HC5.out.mono ?_
    rintro e w6 ⟨rfl, b6⟩
    have bb6 := bb5.trans (b6.mono bb5.size)
    clear HC5 bb5 b6
    go_wp2_with fail
    refine (write_ok (cap := cap) (HBd.out w6 bb6) HMd.out.1 HMd.out.2).mono ?_
    rintro e w7 ⟨b7, a7, c7, rfl, o7⟩
    rw [← HF.out.ulen]
    have bb7 := bb6.trans (b7.mono bb6.size)
    clear o7 b7 bb6
    by_cases hall : d.length = l.length
    · have hkR : k = R.length := by rw [← HR.out]; exact HF.out.all hall
      have hq1 : (((d.length : Nat) : Int) == ((l.length : Nat) : Int)) = true := by simp; omega
      have hq2 : ((k : Int) == ((R.length : Nat) : Int)) = true := by simp; omega
      clear hall hkR
      go_wp2
      go_ret
      exact ⟨rfl, bb7⟩
    · have hq1 : (((d.length : Nat) : Int) == ((l.length : Nat) : Int)) = false := by rw [beq_eq_false_iff_ne]; omega
      have hdl1 : d.length + 1 ≤ l.length := by omega
      have HK2 : Hid (k < (recL (l.take (d.length + 1))).length ∧ RecOk (l.take (d.length + 1)) ∧ manyE (l.take (d.length + 1)) + (l.take (d.length + 1)).length ≤ 1048576 ∧ (l.take (d.length + 1)).length = d.length + 1 ∧ (recL (l.take (d.length + 1))).length ≤ 33554432) := by
        have h9 := manyE_take l (d.length + 1)
        have h10 : (l.take (d.length + 1)).length = d.length + 1 := by rw [List.length_take]; omega
        refine ⟨HF.out.more (by omega), HK.out.take _, by have := HM.out; omega, h10, ?_⟩
        have := @recL_le l (d.length + 1)
        rw [HR.out] at this
        omega
      have HC8 : Hid (Calls Tryd.prog 7 #[.slice a (d.length + 1) cap] w7 fun e w' => Below w7.heap.size w7 w' ∧ ∃ a1 c1 n1, e = .returned (.tuple #[.slice a1 n1 c1, .nilIface]) ∧ k < n1 ∧ n1 ≤ 33554432) := by
        have h11 := write_ok (cap := cap) (((HB.out w7 bb7).1).take (d.length + 1)) HK2.out.2.2.1 HK2.out.2.1
        rw [HK2.out.2.2.2.1] at h11
        refine h11.mono ?_
        rintro e w' ⟨q1, a1, c1, q2, _⟩
        exact ⟨q1, a1, c1, _, q2, HK2.out.1, HK2.out.2.2.2.2⟩
      have hsC := fun wz => slice_toB a l.length cap (d.length + 1) ((d.length : Int) + 1) (by omega) (by omega) wz
      clear HK2 hall
      go_wp2_with fail
      refine HC8.out.mono ?_
      rintro e w8 ⟨b8, a8, c8, n8, rfl, hn8, hn9⟩
      have bb8 := bb7.trans (b8.mono bb7.size)
      have hn8' : (k : Int) < (n8 : Int) := by omega
      go_wp2
      go_ret
      exact ⟨rfl, bb8⟩
end Go.Proofs.YtalmcjkaheofpaeDoor

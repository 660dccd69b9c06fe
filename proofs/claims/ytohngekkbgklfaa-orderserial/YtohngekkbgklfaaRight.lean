/-
  What the call of granaryref2.Right gives: is a list of calls, as far as it goes, an order?
-/
import Derived.Test.YtohngekkbgklfaaCalls
namespace Go.Proofs.Ytohngekkbgklfaa
open Go.RowKit
set_option linter.unusedVariables false

theorem stR_no1 {l : List Cl} {o : List Nat} {i k : Nat} (hk : k ∈ o) (h : (gC l i).t ≤ (gC l k).f) : ¬ stR l o i = true := fun e => (stR_of.1 e).1 k hk h
theorem stR_w {l : List Cl} {o : List Nat} {i : Nat} (h : ∀ k ∈ o, (gC l k).f < (gC l i).t) (hw : (gC l i).w = true) : stR l o i = true := stR_of.2 ⟨fun k hk => Int.not_le.2 (h k hk), Or.inl hw⟩
theorem stR_r {l : List Cl} {o : List Nat} {i : Nat} (h : ∀ k ∈ o, (gC l k).f < (gC l i).t) (hw : (gC l i).w = false) : stR l o i = true ↔ lstW l (gC l i).b o = (gC l i).v := by
  rw [stR_of]
  constructor
  · rintro ⟨_, h2 | h2⟩
    · rw [hw] at h2; cases h2
    · exact h2
  · intro h2
    exact ⟨fun k hk => Int.not_le.2 (h k hk), Or.inr h2⟩
theorem take_snocN {o : List Nat} {k : Nat} (h : k < o.length) : o.take (k + 1) = o.take k ++ [gN o k] := by
  rw [List.take_succ_eq_append_getElem h]
  unfold gN
  rw [List.getElem?_eq_getElem h]
  rfl
def orJ (o : List Nat) : List Int := o.map fun i => ((i : Nat) : Int)
theorem gI_orJ {o : List Nat} {i : Nat} (h : i < o.length) : gI (orJ o) i = ((gN o i : Nat) : Int) := by
  unfold gI orJ gN
  rw [List.getElem?_map, List.getElem?_eq_getElem h]
  rfl
theorem gN_mem {o : List Nat} {i : Nat} (h : i < o.length) : gN o i ∈ o := by
  unfold gN
  rw [List.getElem?_eq_getElem h]
  exact List.getElem_mem h
/-- All of the first k stand rightly. -/
def RtK (l : List Cl) (o : List Nat) (k : Nat) : Prop := ∀ i, i < k → stR l (o.take i) (gN o i) = true
theorem RtK.more {l : List Cl} {o : List Nat} {k : Nat} (h : RtK l o k) (hs : stR l (o.take k) (gN o k) = true) : RtK l o (k + 1) := fun i hi => by
  by_cases e : i = k
  · rw [e]; exact hs
  · exact h i (by omega)
set_option maxRecDepth 20000 in
set_option maxHeartbeats 6400000 in
theorem right_some (g off cap h0 off2 cap2 n q : Nat) (l : List Cl) (o : List Nat) (w : World) (hl : l.length = n) (hq : o.length = q) (hn : n ≤ 4611686018427387904) (hq2 : q ≤ 4611686018427387904) (ho : ∀ x ∈ o, x < n) (hat : ∀ i, i < n → ClAt w g off i (gC l i)) (hil : ∀ i, i < q → w.cell? ⟨h0, off2 + i, none⟩ = some (.int .i64 ((gN o i : Nat) : Int))) :
    Calls Try.prog 7 #[.slice (some ⟨g, off, none⟩) n cap, .slice (some ⟨h0, off2, none⟩) q cap2] w fun e w' => ∃ b, e = .returned (.bool b) ∧ (b = true ↔ Rt l o) ∧ Below w.heap.size w w' := by
  have HA : Hid (∀ wr, Below w.heap.size w wr → ∀ i, i < n → ClAt wr g off i (gC l i)) := fun wr hb i hi => (hat i hi).keep (S := fun _ => False) (Keep.of_below hb) (fun e => e)
  have HI : Hid (∀ wr, Below w.heap.size w wr → ∀ i, i < q → wr.cell? ⟨h0, off2 + i, none⟩ = some (.int .i64 ((gN o i : Nat) : Int)) ∧ gN o i < n) := fun wr hb i hi => ⟨((Keep.of_below (S := fun _ => False) hb).cell (p := ⟨h0, off2 + i, none⟩) (World.block_lt_of_cell? w _ (hil i hi)) (fun e => e)).trans (hil i hi), ho _ (gN_mem (by omega))⟩
  have HRF : Hid (∀ k, k < q → ¬ stR l (o.take k) (gN o k) = true → ¬ Rt l o) := fun k hk hs h => hs (h k (by omega))
  have HRT : Hid (RtK l o q → Rt l o) := fun h i hi => h i (by omega)
  have HQ : Hid (o.length = q) := hq
  clear hat hil ho hl hq
  go_enter Try.func7, Try.ntmps7
  go_wp2
  go_loopw [5] (fun j wr => ∃ k : Nat, k ≤ q ∧ j = .int .i64 k ∧ Hid (RtK l o k ∧ Below w.heap.size w wr)) (fun j _ => q - (intOf j).toNat)
  case atStart => exact ⟨0, Nat.zero_le _, rfl, fun i hi => by omega, Below.refl _ _⟩
  case round =>
    obtain ⟨k, hk, rfl, hR⟩ := hrel
    by_cases hlt : k < q
    · obtain ⟨i0, i1⟩ := HI.out wr hR.out.2 k hlt
      obtain ⟨c0, c1, c2, c3, c4⟩ := HA.out wr hR.out.2 (gN o k) i1
      obtain ⟨wo, rfl⟩ : ∃ wo, wo = wr := ⟨_, rfl⟩
      have HK : Hid (RtK l o k) := hR.out.1
      have HF : Hid (¬ stR l (o.take k) (gN o k) = true → ¬ Rt l o) := HRF.out k hlt
      have HM : Hid (∀ j, j < k → gN o j ∈ o.take k) := fun j hj => by
        have e : gN (o.take k) j = gN o j := by unfold gN; rw [List.getElem?_take, if_pos hj]
        rw [← e]
        exact gN_mem (by rw [List.length_take, HQ.out]; omega)
      have HMA : Hid (∀ m, (∀ j, j < k → (gC l (gN o j)).f < m) → ∀ y ∈ o.take k, (gC l y).f < m) := fun m h y hy => by
        obtain ⟨j, hj, e⟩ := List.getElem_of_mem hy
        rw [List.length_take] at hj
        have e2 : gN o j = y := by unfold gN; rw [List.getElem?_eq_getElem (by omega), ← e, List.getElem_take]; rfl
        rw [← e2]
        exact h j (by omega)
      have HS : Hid (∀ j, j < k → ∀ b, lstW l b (o.take (j + 1)) = if (gC l (gN o j)).w = true ∧ (gC l (gN o j)).b = b then (gC l (gN o j)).v else lstW l b (o.take j)) := fun j hj b => by
        rw [take_snocN (by rw [HQ.out]; omega), lstW_snoc]
      have HX : Hid (∃ c, gC l (gN o k) = c) := ⟨_, rfl⟩
      generalize hF : (gC l (gN o k)).f = f at *
      generalize hT : (gC l (gN o k)).t = t at *
      generalize hW : (gC l (gN o k)).w = wb at *
      generalize hB : (gC l (gN o k)).b = b at *
      generalize hV : (gC l (gN o k)).v = v at *
      have HB : Hid (∀ wx, Below (wo.alloc (.cells #[.int .i64 f, .int .i64 t, .bool wb, .int .i64 b, .int .i64 v] 29)).heap.size (wo.alloc (.cells #[.int .i64 f, .int .i64 t, .bool wb, .int .i64 b, .int .i64 v] 29)) wx → Below w.heap.size w wx ∧ Stc wx wo.heap.size 29 [.int .i64 f, .int .i64 t, .bool wb, .int .i64 b, .int .i64 v]) := fun wx hb => by
        have hb1 := alloc_below' wo (.cells #[.int .i64 f, .int .i64 t, .bool wb, .int .i64 b, .int .i64 v] 29)
        exact ⟨hR.out.2.trans ((hb1.trans (hb.mono hb1.size)).mono hR.out.2.size), (stc_new wo _ _ _ rfl).below hb⟩
      have HE1 : Hid (∀ j, j < k → t ≤ (gC l (gN o j)).f → ¬ Rt l o) := fun j hj h => HF.out (stR_no1 (HM.out j hj) (by rw [hT]; exact h))
      have HE2 : Hid ((∀ j, j < k → (gC l (gN o j)).f < t) → wb = true → RtK l o (k + 1)) := fun h hw => HK.out.more (stR_w (HMA.out _ (by rw [hT]; exact h)) (by rw [hW]; exact hw))
      have HE3 : Hid ((∀ j, j < k → (gC l (gN o j)).f < t) → wb = false → lstW l b (o.take k) = v → RtK l o (k + 1)) := fun h hw hv => HK.out.more ((stR_r (HMA.out _ (by rw [hT]; exact h)) (by rw [hW]; exact hw)).2 (by rw [hB, hV]; exact hv))
      have HE4 : Hid ((∀ j, j < k → (gC l (gN o j)).f < t) → wb = false → ¬ lstW l b (o.take k) = v → ¬ Rt l o) := fun h hw hv => HF.out (fun e => hv (by have := (stR_r (HMA.out _ (by rw [hT]; exact h)) (by rw [hW]; exact hw)).1 e; rw [hB, hV] at this; exact this))
      have HZ : Hid (lstW l b (o.take 0) = 0) := rfl
      clear hF hT hW hB hV HX hR HRF HRT HF HMA HM HK
      go_wp2
      go_loopw [7] (fun j wr => ∃ i : Nat, i ≤ k ∧ j = .int .i64 i ∧ Hid ((∀ j, j < i → (gC l (gN o j)).f < t) ∧ Below (wo.alloc (.cells #[.int .i64 f, .int .i64 t, .bool wb, .int .i64 b, .int .i64 v] 29)).heap.size (wo.alloc (.cells #[.int .i64 f, .int .i64 t, .bool wb, .int .i64 b, .int .i64 v] 29)) wr)) (fun j _ => k - (intOf j).toNat)
      case atStart => exact ⟨0, Nat.zero_le _, rfl, fun j hj => by omega, Below.refl _ _⟩
      case round =>
        obtain ⟨i, hi, rfl, hR⟩ := hrel
        obtain ⟨hbw, hst⟩ := HB.out wr hR.out.2
        have HBW : Hid (Below w.heap.size w wr) := hbw
        have HST : Hid (Stc wr wo.heap.size 29 [.int .i64 f, .int .i64 t, .bool wb, .int .i64 b, .int .i64 v]) := hst
        by_cases hlt2 : i < k
        · obtain ⟨j0, j1⟩ := HI.out wr hbw i (by omega)
          obtain ⟨d0, _, _, _, _⟩ := HA.out wr hbw (gN o i) j1
          have dt : wr.cell? ⟨wo.heap.size, 1, none⟩ = some (.int .i64 t) := hst.cell 1
          have HN : Hid ((gC l (gN o i)).f < t → ∀ j, j < i + 1 → (gC l (gN o j)).f < t) := fun h j hj => by
            by_cases e : j = i
            · rw [e]; exact h
            · exact hR.out.1 j (by omega)
          have HE : Hid (t ≤ (gC l (gN o i)).f → ¬ Rt l o) := HE1.out i hlt2
          have HD : Hid (∀ q, Below (wo.alloc (.cells #[.int .i64 f, .int .i64 t, .bool wb, .int .i64 b, .int .i64 v] 29)).heap.size (wo.alloc (.cells #[.int .i64 f, .int .i64 t, .bool wb, .int .i64 b, .int .i64 v] 29)) (wr.drewN q)) := fun q => below_drewN hR.out.2 q
          have HDW : Hid (∀ q, Below w.heap.size w (wr.drewN q)) := fun q => below_drewN hbw q
          clear hR hbw hst
          generalize gN o i = y at *
          generalize (gC l y).f = fy at *
          have ky : (y : Int) < (n : Int) := by omega
          by_cases hle : t ≤ fy
          · have HE' := HE.out hle
            have HE'' : Hid (¬ Rt l o) := HE'
            clear HE HE' HN
            go_wp2
            go_quiet (fail)
            go_wp2
            go_ret
            exact ⟨false, rfl, by have := HE''.out; simpa using this, HDW.out _⟩
          · have HN' : Hid (∀ j, j < i + 1 → (gC l (gN o j)).f < t) := HN.out (by omega)
            clear HE HN
            go_wp2
            go_quiet (fail)
            go_wp2
            exact ⟨⟨i + 1, by omega, by go_num, HN'.out, HD.out _⟩, by simp [intOf]; omega⟩
        · obtain rfl : i = k := by omega
          have HAll : Hid (∀ j, j < i → (gC l (gN o j)).f < t) := hR.out.1
          have dw : wr.cell? ⟨wo.heap.size, 2, none⟩ = some (.bool wb) := hst.cell 2
          have HR2 : Hid (Below (wo.alloc (.cells #[.int .i64 f, .int .i64 t, .bool wb, .int .i64 b, .int .i64 v] 29)).heap.size (wo.alloc (.cells #[.int .i64 f, .int .i64 t, .bool wb, .int .i64 b, .int .i64 v] 29)) wr) := hR.out.2
          clear hlt2 hR hbw hst
          cases wb with
          | true =>
            have HT : Hid (RtK l o (i + 1)) := HE2.out HAll.out rfl
            clear HE1 HE2 HE3 HE4
            go_wp2
            exact ⟨⟨i + 1, by omega, by go_num, HT.out, HBW.out⟩, by simp [intOf]; omega⟩
          | false =>
            clear HE1 HE2
            obtain ⟨wp, rfl⟩ : ∃ wp, wp = wr := ⟨_, rfl⟩
            go_wp2
            go_loopw [8, 9] (fun s j wr => ∃ (i2 : Nat) (z : Int), i2 ≤ i ∧ j = .int .i64 i2 ∧ s = .int .i64 z ∧ Hid (lstW l b (o.take i2) = z ∧ Below (wo.alloc (.cells #[.int .i64 f, .int .i64 t, .bool false, .int .i64 b, .int .i64 v] 29)).heap.size (wo.alloc (.cells #[.int .i64 f, .int .i64 t, .bool false, .int .i64 b, .int .i64 v] 29)) wr)) (fun _ j _ => i - (intOf j).toNat)
            case atStart => exact ⟨0, 0, Nat.zero_le _, rfl, rfl, HZ.out, HR2.out⟩
            case round =>
              obtain ⟨i2, z, hi2, rfl, rfl, hR⟩ := hrel
              obtain ⟨hbw, hst⟩ := HB.out wr hR.out.2
              have HBW2 : Hid (Below w.heap.size w wr) := hbw
              by_cases hlt3 : i2 < i
              · obtain ⟨j0, j1⟩ := HI.out wr hbw i2 (by omega)
                obtain ⟨d0, d1, d2, d3, d4⟩ := HA.out wr hbw (gN o i2) j1
                have db : wr.cell? ⟨wo.heap.size, 3, none⟩ = some (.int .i64 b) := hst.cell 3
                have HSS : Hid (lstW l b (o.take (i2 + 1)) = if (gC l (gN o i2)).w = true ∧ (gC l (gN o i2)).b = b then (gC l (gN o i2)).v else z) := by rw [← hR.out.1]; exact HS.out i2 hlt3 b
                have HD : Hid (∀ q, Below (wo.alloc (.cells #[.int .i64 f, .int .i64 t, .bool false, .int .i64 b, .int .i64 v] 29)).heap.size (wo.alloc (.cells #[.int .i64 f, .int .i64 t, .bool false, .int .i64 b, .int .i64 v] 29)) (wr.drewN q)) := fun q => below_drewN hR.out.2 q
                clear hR hbw hst
                generalize gN o i2 = y at *
                have ky : (y : Int) < (n : Int) := by omega
                generalize (gC l y).f = fy at *
                generalize (gC l y).t = ty at *
                generalize (gC l y).w = wy at *
                generalize (gC l y).b = bi at *
                generalize (gC l y).v = vy at *
                cases wy with
                | false =>
                  have HT : Hid (lstW l b (o.take (i2 + 1)) = z) := by rw [HSS.out]; rfl
                  clear HSS
                  go_wp2
                  go_quiet (fail)
                  go_wp2
                  exact ⟨⟨i2 + 1, z, by omega, by go_num, rfl, HT.out, HD.out _⟩, by simp [intOf]; omega⟩
                | true =>
                  by_cases hbb : bi = b
                  · have HT : Hid (lstW l b (o.take (i2 + 1)) = vy) := by rw [HSS.out, if_pos ⟨rfl, hbb⟩]; rfl
                    have hbq : (bi == b) = true := by simp [hbb]
                    clear HSS hbb
                    go_wp2
                    go_quiet (fail)
                    go_wp2
                    exact ⟨⟨i2 + 1, vy, by omega, by go_num, rfl, HT.out, HD.out _⟩, by simp [intOf]; omega⟩
                  · have HT : Hid (lstW l b (o.take (i2 + 1)) = z) := by rw [HSS.out, if_neg (fun h => hbb h.2)]; rfl
                    have hbq : (bi == b) = false := by simp [hbb]
                    clear HSS hbb
                    go_wp2
                    go_quiet (fail)
                    go_wp2
                    exact ⟨⟨i2 + 1, z, by omega, by go_num, rfl, HT.out, HD.out _⟩, by simp [intOf]; omega⟩
              · obtain rfl : i2 = i := by omega
                have dv : wr.cell? ⟨wo.heap.size, 4, none⟩ = some (.int .i64 v) := hst.cell 4
                have HZZ : Hid (lstW l b (o.take i2) = z) := hR.out.1
                clear hlt3 hR hbw hst
                by_cases hzv : z = v
                · have HT : Hid (RtK l o (i2 + 1)) := HE3.out HAll.out (by simp) (by rw [HZZ.out]; exact hzv)
                  have hq : (z != v) = false := by simp [hzv]
                  clear HE3 HE4 hzv
                  go_wp2
                  exact ⟨⟨i2 + 1, by omega, by go_num, HT.out, HBW2.out⟩, by simp [intOf]; omega⟩
                · have HT : Hid (¬ Rt l o) := HE4.out HAll.out (by simp) (by rw [HZZ.out]; exact hzv)
                  have hq : (z != v) = true := by simp [hzv]
                  clear HE3 HE4 hzv
                  go_wp2
                  go_ret
                  exact ⟨false, rfl, by have := HT.out; simpa using this, HBW2.out⟩
    · obtain rfl : k = q := by omega
      have HT := HRT.out hR.out.1
      clear hlt
      go_wp2
      go_ret
      exact ⟨true, rfl, by simpa using HT, hR.out.2⟩
set_option maxHeartbeats 1600000 in
theorem right_nil (a : Option Addr) (n cap : Nat) (oa : Option Addr) (cap2 : Nat) (w : World) :
    Calls Try.prog 7 #[.slice a n cap, .slice oa 0 cap2] w fun e w' => e = .returned (.bool true) ∧ w = w' := by
  go_enter Try.func7, Try.ntmps7
  go_wp2
  go_loopw [5] (fun j wr => j = .int .i64 0 ∧ Hid (w = wr)) (fun _ _ => 0)
  case atStart => exact ⟨rfl, rfl⟩
  case round =>
    obtain ⟨rfl, hR⟩ := hrel
    go_wp2
    go_ret
    exact ⟨rfl, hR.out⟩
theorem right_any (a : Option Addr) (n cap : Nat) (oa : Option Addr) (q cap2 : Nat) (l : List Cl) (o : List Nat) (w : World) (hl : l.length = n) (hq : o.length = q) (hn : n ≤ 4611686018427387904) (hq2 : q ≤ 4611686018427387904) (h : CL w a l) (hI : IL w oa (orJ o)) (ho : ∀ x ∈ o, x < n) :
    Calls Try.prog 7 #[.slice a n cap, .slice oa q cap2] w fun e w' => ∃ b, e = .returned (.bool b) ∧ (b = true ↔ Rt l o) ∧ Below w.heap.size w w' := by
  by_cases hz : o = []
  · subst hz
    obtain rfl : q = 0 := by simpa using hq.symm
    refine (right_nil a n cap oa cap2 w).mono ?_
    rintro e w' ⟨rfl, rfl⟩
    exact ⟨true, rfl, by simpa using Rt.nil l, Below.refl _ _⟩
  · have h0 : 0 < o.length := List.length_pos_iff.2 hz
    have hx := ho _ (gN_mem h0)
    obtain ⟨g, off, rfl, hat⟩ := h.some_of (i := 0) (by omega)
    obtain ⟨g2, off2, rfl, hil⟩ := hI.some_of (i := 0) (by simpa [orJ] using h0)
    exact right_some g off cap g2 off2 cap2 n q l o w hl hq hn hq2 ho (fun i hi => hat i (by omega)) (fun i hi => by
      have e := hil i (by simp [orJ]; omega)
      rw [gI_orJ (by omega)] at e
      exact e)
end Go.Proofs.Ytohngekkbgklfaa

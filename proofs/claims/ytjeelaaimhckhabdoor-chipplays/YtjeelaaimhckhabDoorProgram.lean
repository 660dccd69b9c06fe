/-
  What the call of (*Chip).Program gives, where the page is the next one: it is written, whole or its first half, and its turn is over.
-/
import Derived.Test.YtjeelaaimhckhabDoorCopy
namespace Go.Proofs.YtjeelaaimhckhabDoor
open Go.RowKit
set_option linter.unusedVariables false

def putSt (s : St) (k page Y : Nat) (xs : List Nat) : St := { s with bytes := upd s.bytes k (splice (s.bytes k) (page * Y) xs), next := upd s.next k (page + 1) }
theorem all_splice {l xs : List Nat} (h : AllB l) (hx : AllB xs) (off : Nat) : AllB (splice l off xs) := by
  intro x hm
  unfold splice at hm
  rw [List.mem_append, List.mem_append] at hm
  rcases hm with hm | hm | hm
  · exact h x (List.mem_of_mem_take hm)
  · exact hx x hm
  · exact h x (List.mem_of_mem_drop hm)
theorem AllB.take {l : List Nat} (h : AllB l) (k : Nat) : AllB (l.take k) := fun x hx => h x (List.mem_of_mem_take hx)

set_option maxHeartbeats 1600000 in
theorem program_fine {D B P Y cb bb : Nat} {pb : Nat → Nat} {s : St} (d b page ab ao cap : Nat) (bs : List Nat) (w : World) (hG : Geo D B P Y) (h : CH D B P Y w cb bb pb s) (ho : s.off = false)
    (hd : d < D) (hb : b < B) (hp : page < P) (hl : bs.length = Y) (hA : AllB bs) (hc : Y ≤ cap) (hL : ∀ i, i < bs.length → w.cell? ⟨ab, ao + i, none⟩ = some (.int .u8 ((bs[i]?.getD 0 : Nat) : Int)))
    (hbad : s.bad (d * B + b) = false) (hnx : s.next (d * B + b) = page) :
    Calls Tryd.prog 15 #[.pointer (some ⟨cb, 0, none⟩), .int .i64 d, .int .i64 b, .int .i64 page, .slice (some ⟨ab, ao, none⟩) Y cap, .int .i64 0] w fun e w' =>
      e = .returned .nilIface ∧ CH D B P Y w' cb bb pb (putSt s (d * B + b) page Y bs) ∧ Keep (Mine (D * B) cb bb pb) w w' := by
  have hlt : d * B + b < D * B := by
    have : (d + 1) * B ≤ D * B := Nat.mul_le_mul_right B hd
    rw [Nat.add_mul, Nat.one_mul] at this
    omega
  have HF := find_some d b w hG h ho hd hb
  have y1 := hG.y1
  have y0 := hG.y0
  have p1 := hG.p1
  have hPY := hG.l
  have hpY : page * Y + Y ≤ P * Y := by
    have : (page + 1) * Y ≤ P * Y := Nat.mul_le_mul_right Y hp
    rw [Nat.add_mul, Nat.one_mul] at this
    exact this
  obtain ⟨X, HX⟩ : ∃ X, Hid (page * Y = X) := ⟨_, rfl⟩
  obtain ⟨L, HLL⟩ : ∃ L, Hid (P * Y = L) := ⟨_, rfl⟩
  have hmul : (page : Int) * (Y : Int) = (X : Int) := by
    have : (page : Int) * (Y : Int) = ((page * Y : Nat) : Int) := by simp
    rw [this, HX.out]
  rw [HX.out, HLL.out] at hpY
  rw [HLL.out] at hPY
  have hne : ¬ L = X := by omega
  have hwr : IntKind.i64.wrap (X : Int) = (X : Int) := by rw [IntKind.wrap_i64]; omega
  have hx0 : (0 : Int) ≤ (X : Int) := by omega
  have hx1 : (X : Int) ≤ (L : Int) := by omega
  have hx2 : (X : Int) < (L : Int) := by omega
  have hpg : (page : Int) ≤ 16 := by omega
  have e1 : wthB (page : Int) 0 ((P : Int) - 1) = true := wth_yes (by omega)
  have e2 : fltB 0 = true := flt_yes (by omega)
  have HC : Hid (CH D B P Y w cb bb pb s) := h
  have HG : Hid (Geo D B P Y) := hG
  have HK : Hid (d * B + b < D * B) := hlt
  have HP1 : Hid (page + 1 ≤ P) := hp
  have HB : Hid (s.bad (d * B + b) = false ∧ s.next (d * B + b) = page) := ⟨hbad, hnx⟩
  have HL : Hid (bs.length = Y ∧ AllB bs ∧ ∀ i, i < bs.length → w.cell? ⟨ab, ao + i, none⟩ = some (.int .u8 ((bs[i]?.getD 0 : Nat) : Int))) := ⟨hl, hA, hL⟩
  clear h hG ho hlt hd hb hbad hnx hL hl hA hp
  generalize d * B + b = k at *
  go_enter Tryd.func15, Tryd.ntmps15
  go_wp2_with fail
  refine HF.mono ?_
  rintro e w1 ⟨rfl, hb1⟩
  clear HF
  have h1 := HC.out.below HG.out.n.1 hb1
  have c4 := h1.c4
  have r0 := h1.r0 k HK.out
  rw [HLL.out] at r0
  have r1 := h1.r1 k HK.out
  have r3 := h1.r3 k HK.out
  have f1 := h1.fb (k * 4 + 1)
  rw [HB.out.1] at r3
  rw [HB.out.2] at r1
  have H1 : Hid (CH D B P Y w1 cb bb pb s) := h1
  clear h1
  go_wp2_with (first | (go_at_call 31; refine (isPage_any _ _ HG.out H1.out).mono ?_; rintro e w' ⟨rfl, rfl⟩) | (go_at_call 32; refine (isFault_any _ _).mono ?_; rintro e w' ⟨rfl, rfl⟩))
  have HP : Hid (w'.heap[pb k]? = some (.cells ((s.bytes k).map bv).toArray 5 (0, 0)) ∧ (s.bytes k).length = L) := ⟨H1.out.hp k HK.out, by rw [H1.out.hl k HK.out, HLL.out]⟩
  have HS : Hid (bs.length = Nat.min Y (L - X) ∧ (∀ i, i < bs.length → w'.cell? ⟨ab, ao + i, none⟩ = some (.int .u8 ((bs[i]?.getD 0 : Nat) : Int))) ∧ X + bs.length ≤ (s.bytes k).length) := by
    refine ⟨?_, fun i hi => ?_, ?_⟩
    · rw [HL.out.1]; exact (Nat.min_eq_left (by omega)).symm
    · rw [hb1.cell (p := ⟨ab, ao + i, none⟩) (World.block_lt_of_cell? w _ (HL.out.2.2 i hi))]; exact HL.out.2.2 i hi
    · rw [HL.out.1, HP.out.2]; omega
  go_region_law (refine copy_step (by rfl) (.tmp 74) (.tmp 75) (by rfl) (pb k) X (L - X) (L - X) ab ao Y cap (by rfl) (by rfl) (s.bytes k) bs HP.out.1 HS.out.1 HS.out.2.1 HS.out.2.2 ?_; intro w3 hg3 hk3)
  all_goals
    have h3 := CH.setBytes (H1.out.below HG.out.n.1 ((Below.refl _ _).drew)) HG.out.n.1 k HK.out (splice (s.bytes k) X bs) (by rw [length_splice _ _ _ HS.out.2.2, HP.out.2, HLL.out]) (all_splice (H1.out.ha k HK.out) HL.out.2.1 X) hk3 hg3.out
    have H3 : Hid (CH D B P Y w3 cb bb pb { s with bytes := upd s.bytes k (splice (s.bytes k) X bs) }) := h3
    have K3 : Hid (Keep (Mine (D * B) cb bb pb) w w3) := ((Keep.of_below hb1).trans (Keep.of_below ((Below.refl _ _).drew))).trans (hk3.mono fun q hq => Or.inr (Or.inr ⟨k, HK.out, hq⟩))
    clear h3 hk3 hg3
    have r1 := H3.out.r1 k HK.out
    have f1 := H3.out.fb (k * 4 + 1)
    simp only [HB.out.2] at r1
    have H4 : Hid (CH D B P Y (w3.setCell ⟨bb, k * 4 + 1, none⟩ (.int .i64 ((page + 1 : Nat) : Int))) cb bb pb { s with bytes := upd s.bytes k (splice (s.bytes k) X bs), next := upd s.next k (page + 1) }) := H3.out.setNext k (page + 1) HK.out HP1.out
    have hcast : ((page + 1 : Nat) : Int) = (page : Int) + 1 := by omega
    rw [hcast] at H4
    clear hcast H1 HP HS
    go_wp2_with fail
    refine (meet0 _ _).mono ?_
    rintro e w5 ⟨rfl, rfl⟩
    go_wp2
    go_ret
    refine ⟨rfl, ?_, K3.out.trans ((Keep.refl _ _).set (Or.inr (Or.inl rfl)) _)⟩
    unfold putSt
    rw [HX.out]
    exact H4.out

set_option maxHeartbeats 1600000 in
theorem program_fail {D B P Y cb bb : Nat} {pb : Nat → Nat} {s : St} (d b page ab ao cap : Nat) (bs : List Nat) (w : World) (hG : Geo D B P Y) (h : CH D B P Y w cb bb pb s) (ho : s.off = false)
    (hd : d < D) (hb : b < B) (hp : page < P) (hl : bs.length = Y) (hA : AllB bs) (hc : Y ≤ cap) (hL : ∀ i, i < bs.length → w.cell? ⟨ab, ao + i, none⟩ = some (.int .u8 ((bs[i]?.getD 0 : Nat) : Int)))
    (hbad : s.bad (d * B + b) = false) (hnx : s.next (d * B + b) = page) :
    Calls Tryd.prog 15 #[.pointer (some ⟨cb, 0, none⟩), .int .i64 d, .int .i64 b, .int .i64 page, .slice (some ⟨ab, ao, none⟩) Y cap, .int .i64 1] w fun e w' =>
      e = .returned (.iface 30 (.int .i64 6)) ∧ CH D B P Y w' cb bb pb (putSt s (d * B + b) page Y (bs.take (Y / 2))) ∧ Keep (Mine (D * B) cb bb pb) w w' := by
  have hlt : d * B + b < D * B := by
    have : (d + 1) * B ≤ D * B := Nat.mul_le_mul_right B hd
    rw [Nat.add_mul, Nat.one_mul] at this
    omega
  have HF := find_some d b w hG h ho hd hb
  have y1 := hG.y1
  have y0 := hG.y0
  have p1 := hG.p1
  have hPY := hG.l
  have hpY : page * Y + Y ≤ P * Y := by
    have : (page + 1) * Y ≤ P * Y := Nat.mul_le_mul_right Y hp
    rw [Nat.add_mul, Nat.one_mul] at this
    exact this
  obtain ⟨X, HX⟩ : ∃ X, Hid (page * Y = X) := ⟨_, rfl⟩
  obtain ⟨L, HLL⟩ : ∃ L, Hid (P * Y = L) := ⟨_, rfl⟩
  have hmul : (page : Int) * (Y : Int) = (X : Int) := by
    have : (page : Int) * (Y : Int) = ((page * Y : Nat) : Int) := by simp
    rw [this, HX.out]
  rw [HX.out, HLL.out] at hpY
  rw [HLL.out] at hPY
  have hne : ¬ L = X := by omega
  have hwr : IntKind.i64.wrap (X : Int) = (X : Int) := by rw [IntKind.wrap_i64]; omega
  have hx0 : (0 : Int) ≤ (X : Int) := by omega
  have hx1 : (X : Int) ≤ (L : Int) := by omega
  have hx2 : (X : Int) < (L : Int) := by omega
  have hpg : (page : Int) ≤ 16 := by omega
  have e1 : wthB (page : Int) 0 ((P : Int) - 1) = true := wth_yes (by omega)
  have e2 : fltB 1 = true := flt_yes (by omega)
  have HC : Hid (CH D B P Y w cb bb pb s) := h
  have HG : Hid (Geo D B P Y) := hG
  have HK : Hid (d * B + b < D * B) := hlt
  have HP1 : Hid (page + 1 ≤ P) := hp
  have HB : Hid (s.bad (d * B + b) = false ∧ s.next (d * B + b) = page) := ⟨hbad, hnx⟩
  obtain ⟨xs, HXS⟩ : ∃ xs, Hid (bs.take (Y / 2) = xs) := ⟨_, rfl⟩
  obtain ⟨M, HM⟩ : ∃ M, Hid (Y / 2 = M) := ⟨_, rfl⟩
  have hM : M ≤ Y := by rw [← HM.out]; omega
  have hM2 : (M : Int) ≤ (cap : Int) := by omega
  have hdiv : (Y : Int) / 2 = (M : Int) := by rw [← HM.out]; omega
  have HL : Hid (xs.length = M ∧ AllB xs ∧ ∀ i, i < xs.length → w.cell? ⟨ab, ao + i, none⟩ = some (.int .u8 ((xs[i]?.getD 0 : Nat) : Int))) := by
    have e : xs.length = M := by rw [← HXS.out, ← HM.out, List.length_take]; omega
    refine ⟨e, by rw [← HXS.out]; exact hA.take _, fun i hi => ?_⟩
    rw [hL i (by omega), ← HXS.out, List.getElem?_take, if_pos (by rw [HM.out]; omega)]
  rw [HXS.out]
  clear h hG ho hlt hd hb hbad hnx hL hl hA hp
  generalize d * B + b = k at *
  go_enter Tryd.func15, Tryd.ntmps15
  go_wp2_with fail
  refine HF.mono ?_
  rintro e w1 ⟨rfl, hb1⟩
  clear HF
  have h1 := HC.out.below HG.out.n.1 hb1
  have c4 := h1.c4
  have r0 := h1.r0 k HK.out
  rw [HLL.out] at r0
  have r1 := h1.r1 k HK.out
  have r3 := h1.r3 k HK.out
  have f1 := h1.fb (k * 4 + 1)
  rw [HB.out.1] at r3
  rw [HB.out.2] at r1
  have H1 : Hid (CH D B P Y w1 cb bb pb s) := h1
  clear h1
  go_wp2_with (first | (go_at_call 31; refine (isPage_any _ _ HG.out H1.out).mono ?_; rintro e w' ⟨rfl, rfl⟩) | (go_at_call 32; refine (isFault_any _ _).mono ?_; rintro e w' ⟨rfl, rfl⟩))
  have HP : Hid (w'.heap[pb k]? = some (.cells ((s.bytes k).map bv).toArray 5 (0, 0)) ∧ (s.bytes k).length = L) := ⟨H1.out.hp k HK.out, by rw [H1.out.hl k HK.out, HLL.out]⟩
  have HS : Hid (xs.length = Nat.min M (L - X) ∧ (∀ i, i < xs.length → w'.cell? ⟨ab, ao + i, none⟩ = some (.int .u8 ((xs[i]?.getD 0 : Nat) : Int))) ∧ X + xs.length ≤ (s.bytes k).length) := by
    refine ⟨?_, fun i hi => ?_, ?_⟩
    · rw [HL.out.1]; exact (Nat.min_eq_left (by omega)).symm
    · rw [hb1.cell (p := ⟨ab, ao + i, none⟩) (World.block_lt_of_cell? w _ (HL.out.2.2 i hi))]; exact HL.out.2.2 i hi
    · rw [HL.out.1, HP.out.2]; omega
  go_region_law (refine copy_step (by rfl) (.tmp 74) (.tmp 75) (by rfl) (pb k) X (L - X) (L - X) ab ao M cap (by rfl) (by rfl) (s.bytes k) xs HP.out.1 HS.out.1 HS.out.2.1 HS.out.2.2 ?_; intro w3 hg3 hk3)
  all_goals
    have h3 := CH.setBytes (H1.out.below HG.out.n.1 ((Below.refl _ _).drew)) HG.out.n.1 k HK.out (splice (s.bytes k) X xs) (by rw [length_splice _ _ _ HS.out.2.2, HP.out.2, HLL.out]) (all_splice (H1.out.ha k HK.out) HL.out.2.1 X) hk3 hg3.out
    have H3 : Hid (CH D B P Y w3 cb bb pb { s with bytes := upd s.bytes k (splice (s.bytes k) X xs) }) := h3
    have K3 : Hid (Keep (Mine (D * B) cb bb pb) w w3) := ((Keep.of_below hb1).trans (Keep.of_below ((Below.refl _ _).drew))).trans (hk3.mono fun q hq => Or.inr (Or.inr ⟨k, HK.out, hq⟩))
    clear h3 hk3 hg3
    have r1 := H3.out.r1 k HK.out
    have f1 := H3.out.fb (k * 4 + 1)
    simp only [HB.out.2] at r1
    have H4 : Hid (CH D B P Y (w3.setCell ⟨bb, k * 4 + 1, none⟩ (.int .i64 ((page + 1 : Nat) : Int))) cb bb pb { s with bytes := upd s.bytes k (splice (s.bytes k) X xs), next := upd s.next k (page + 1) }) := H3.out.setNext k (page + 1) HK.out HP1.out
    have hcast : ((page + 1 : Nat) : Int) = (page : Int) + 1 := by omega
    rw [hcast] at H4
    clear hcast H1 HP HS
    go_wp2_with fail
    refine (meet1 _ _).mono ?_
    rintro e w5 ⟨rfl, rfl⟩
    go_wp2
    go_ret
    refine ⟨rfl, ?_, K3.out.trans ((Keep.refl _ _).set (Or.inr (Or.inl rfl)) _)⟩
    unfold putSt
    rw [HX.out]
    exact H4.out

set_option maxHeartbeats 1600000 in
theorem program_torn {D B P Y cb bb : Nat} {pb : Nat → Nat} {s : St} (d b page ab ao cap : Nat) (bs : List Nat) (w : World) (hG : Geo D B P Y) (h : CH D B P Y w cb bb pb s) (ho : s.off = false)
    (hd : d < D) (hb : b < B) (hp : page < P) (hl : bs.length = Y) (hA : AllB bs) (hc : Y ≤ cap) (hL : ∀ i, i < bs.length → w.cell? ⟨ab, ao + i, none⟩ = some (.int .u8 ((bs[i]?.getD 0 : Nat) : Int)))
    (hbad : s.bad (d * B + b) = false) (hnx : s.next (d * B + b) = page) :
    Calls Tryd.prog 15 #[.pointer (some ⟨cb, 0, none⟩), .int .i64 d, .int .i64 b, .int .i64 page, .slice (some ⟨ab, ao, none⟩) Y cap, .int .i64 2] w fun e w' =>
      e = .returned (.iface 30 (.int .i64 7)) ∧ CH D B P Y w' cb bb pb { putSt s (d * B + b) page Y (bs.take (Y / 2)) with off := true } ∧ Keep (Mine (D * B) cb bb pb) w w' := by
  have hlt : d * B + b < D * B := by
    have : (d + 1) * B ≤ D * B := Nat.mul_le_mul_right B hd
    rw [Nat.add_mul, Nat.one_mul] at this
    omega
  have HF := find_some d b w hG h ho hd hb
  have y1 := hG.y1
  have y0 := hG.y0
  have p1 := hG.p1
  have hPY := hG.l
  have hpY : page * Y + Y ≤ P * Y := by
    have : (page + 1) * Y ≤ P * Y := Nat.mul_le_mul_right Y hp
    rw [Nat.add_mul, Nat.one_mul] at this
    exact this
  obtain ⟨X, HX⟩ : ∃ X, Hid (page * Y = X) := ⟨_, rfl⟩
  obtain ⟨L, HLL⟩ : ∃ L, Hid (P * Y = L) := ⟨_, rfl⟩
  have hmul : (page : Int) * (Y : Int) = (X : Int) := by
    have : (page : Int) * (Y : Int) = ((page * Y : Nat) : Int) := by simp
    rw [this, HX.out]
  rw [HX.out, HLL.out] at hpY
  rw [HLL.out] at hPY
  have hne : ¬ L = X := by omega
  have hwr : IntKind.i64.wrap (X : Int) = (X : Int) := by rw [IntKind.wrap_i64]; omega
  have hx0 : (0 : Int) ≤ (X : Int) := by omega
  have hx1 : (X : Int) ≤ (L : Int) := by omega
  have hx2 : (X : Int) < (L : Int) := by omega
  have hpg : (page : Int) ≤ 16 := by omega
  have e1 : wthB (page : Int) 0 ((P : Int) - 1) = true := wth_yes (by omega)
  have e2 : fltB 2 = true := flt_yes (by omega)
  have HC : Hid (CH D B P Y w cb bb pb s) := h
  have HG : Hid (Geo D B P Y) := hG
  have HK : Hid (d * B + b < D * B) := hlt
  have HP1 : Hid (page + 1 ≤ P) := hp
  have HB : Hid (s.bad (d * B + b) = false ∧ s.next (d * B + b) = page) := ⟨hbad, hnx⟩
  obtain ⟨xs, HXS⟩ : ∃ xs, Hid (bs.take (Y / 2) = xs) := ⟨_, rfl⟩
  obtain ⟨M, HM⟩ : ∃ M, Hid (Y / 2 = M) := ⟨_, rfl⟩
  have hM : M ≤ Y := by rw [← HM.out]; omega
  have hM2 : (M : Int) ≤ (cap : Int) := by omega
  have hdiv : (Y : Int) / 2 = (M : Int) := by rw [← HM.out]; omega
  have HL : Hid (xs.length = M ∧ AllB xs ∧ ∀ i, i < xs.length → w.cell? ⟨ab, ao + i, none⟩ = some (.int .u8 ((xs[i]?.getD 0 : Nat) : Int))) := by
    have e : xs.length = M := by rw [← HXS.out, ← HM.out, List.length_take]; omega
    refine ⟨e, by rw [← HXS.out]; exact hA.take _, fun i hi => ?_⟩
    rw [hL i (by omega), ← HXS.out, List.getElem?_take, if_pos (by rw [HM.out]; omega)]
  rw [HXS.out]
  clear h hG ho hlt hd hb hbad hnx hL hl hA hp
  generalize d * B + b = k at *
  go_enter Tryd.func15, Tryd.ntmps15
  go_wp2_with fail
  refine HF.mono ?_
  rintro e w1 ⟨rfl, hb1⟩
  clear HF
  have h1 := HC.out.below HG.out.n.1 hb1
  have c4 := h1.c4
  have r0 := h1.r0 k HK.out
  rw [HLL.out] at r0
  have r1 := h1.r1 k HK.out
  have r3 := h1.r3 k HK.out
  have f1 := h1.fb (k * 4 + 1)
  rw [HB.out.1] at r3
  rw [HB.out.2] at r1
  have H1 : Hid (CH D B P Y w1 cb bb pb s) := h1
  clear h1
  go_wp2_with (first | (go_at_call 31; refine (isPage_any _ _ HG.out H1.out).mono ?_; rintro e w' ⟨rfl, rfl⟩) | (go_at_call 32; refine (isFault_any _ _).mono ?_; rintro e w' ⟨rfl, rfl⟩))
  have HP : Hid (w'.heap[pb k]? = some (.cells ((s.bytes k).map bv).toArray 5 (0, 0)) ∧ (s.bytes k).length = L) := ⟨H1.out.hp k HK.out, by rw [H1.out.hl k HK.out, HLL.out]⟩
  have HS : Hid (xs.length = Nat.min M (L - X) ∧ (∀ i, i < xs.length → w'.cell? ⟨ab, ao + i, none⟩ = some (.int .u8 ((xs[i]?.getD 0 : Nat) : Int))) ∧ X + xs.length ≤ (s.bytes k).length) := by
    refine ⟨?_, fun i hi => ?_, ?_⟩
    · rw [HL.out.1]; exact (Nat.min_eq_left (by omega)).symm
    · rw [hb1.cell (p := ⟨ab, ao + i, none⟩) (World.block_lt_of_cell? w _ (HL.out.2.2 i hi))]; exact HL.out.2.2 i hi
    · rw [HL.out.1, HP.out.2]; omega
  go_region_law (refine copy_step (by rfl) (.tmp 74) (.tmp 75) (by rfl) (pb k) X (L - X) (L - X) ab ao M cap (by rfl) (by rfl) (s.bytes k) xs HP.out.1 HS.out.1 HS.out.2.1 HS.out.2.2 ?_; intro w3 hg3 hk3)
  all_goals
    have h3 := CH.setBytes (H1.out.below HG.out.n.1 ((Below.refl _ _).drew)) HG.out.n.1 k HK.out (splice (s.bytes k) X xs) (by rw [length_splice _ _ _ HS.out.2.2, HP.out.2, HLL.out]) (all_splice (H1.out.ha k HK.out) HL.out.2.1 X) hk3 hg3.out
    have H3 : Hid (CH D B P Y w3 cb bb pb { s with bytes := upd s.bytes k (splice (s.bytes k) X xs) }) := h3
    have K3 : Hid (Keep (Mine (D * B) cb bb pb) w w3) := ((Keep.of_below hb1).trans (Keep.of_below ((Below.refl _ _).drew))).trans (hk3.mono fun q hq => Or.inr (Or.inr ⟨k, HK.out, hq⟩))
    clear h3 hk3 hg3
    have r1 := H3.out.r1 k HK.out
    have f1 := H3.out.fb (k * 4 + 1)
    simp only [HB.out.2] at r1
    have H4 : Hid (CH D B P Y (w3.setCell ⟨bb, k * 4 + 1, none⟩ (.int .i64 ((page + 1 : Nat) : Int))) cb bb pb { s with bytes := upd s.bytes k (splice (s.bytes k) X xs), next := upd s.next k (page + 1) }) := H3.out.setNext k (page + 1) HK.out HP1.out
    have hcast : ((page + 1 : Nat) : Int) = (page : Int) + 1 := by omega
    rw [hcast] at H4
    clear hcast H1 HP HS
    go_wp2_with fail
    refine (meet2 _ H4.out).mono ?_
    rintro e w5 ⟨rfl, h5, hk5⟩
    have H5 : Hid (CH D B P Y w5 cb bb pb { s with off := true, bytes := upd s.bytes k (splice (s.bytes k) X xs), next := upd s.next k (page + 1) }) := h5
    clear h5
    go_wp2
    go_ret
    refine ⟨rfl, ?_, (K3.out.trans ((Keep.refl _ _).set (Or.inr (Or.inl rfl)) _)).trans hk5⟩
    unfold putSt
    rw [HX.out]
    exact H5.out
end Go.Proofs.YtjeelaaimhckhabDoor

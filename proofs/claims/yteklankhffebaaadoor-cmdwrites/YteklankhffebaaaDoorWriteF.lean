/-
  What the call of package cmd's write gives, of any fields.
-/
import Derived.Test.YteklankhffebaaaDoorFields
namespace Go.Proofs.YteklankhffebaaaDoor
open Go.RowKit
set_option linter.unusedVariables false

def gV (v : List Int) (i : Nat) : Int := v[i]?.getD 0
/-- Numbers stand in a block's first cells. -/
def CV (w : World) (cb : Nat) (v : List Int) : Prop := ∀ i, i < v.length → w.cell? ⟨cb, i, none⟩ = some (.int .i64 (gV v i))
theorem CV.keep {S : Nat → Prop} {w w' : World} {cb : Nat} {v : List Int} (h : CV w cb v) (hk : Keep S w w') (hs : ¬ S cb) : CV w' cb v := fun i hi => (hk.cell (p := ⟨cb, i, none⟩) (World.block_lt_of_cell? w _ (h i hi)) hs).trans (h i hi)
/-- The bytes in which the first i fields stand. -/
def wrt (F : List Fld) (v : List Int) (n : Nat) : Nat → List Nat
  | 0 => List.replicate n 0
  | i + 1 => lay (wrt F v n i) (gF F i).a (low (gF F i).k (gV v i).toNat)
/-- Fields that are such. -/
def OkF (F : List Fld) (n : Nat) : Prop := n ≤ 64 ∧ F.length ≤ 64 ∧ ∀ i, i < F.length → (gF F i).k ≤ 8 ∧ (gF F i).a + (gF F i).k ≤ n ∧ (gF F i).m ≤ 4611686018427387904
theorem wrt_len {F : List Fld} {v : List Int} {n : Nat} (h : OkF F n) : ∀ i, i ≤ F.length → (wrt F v n i).length = n
  | 0, _ => List.length_replicate
  | i + 1, hi => by
    have ih := wrt_len h i (by omega) (v := v)
    have h2 := (h.2.2 i (by omega)).2.1
    show (lay _ _ _).length = n
    rw [lay_len (by rw [low_len, ih]; exact h2), ih]
theorem wrt_all {F : List Fld} {v : List Int} {n : Nat} : ∀ i, AllB (wrt F v n i)
  | 0 => fun x hx => by have := List.eq_of_mem_replicate hx; omega
  | i + 1 => lay_all _ (wrt_all i) (low_all _ _)
/-- Of the first i fields each may stand there. -/
def holdL (F : List Fld) (v : List Int) (i : Nat) : Prop := ∀ j, j < i → holdB (gV v j) (gF F j).m = true
/-- While write goes: in a round. -/
structure WI (w wx : World) (nb cb i a k m : Nat) (x : Int) (l : List Nat) : Prop where
  bel : Below w.heap.size w wx
  row : Row wx w.heap.size l
  lt : w.heap.size < nb
  lt2 : nb < wx.heap.size
  ltc : cb < w.heap.size
  s0 : wx.cell? ⟨nb, 0, none⟩ = some (.int .i64 (a : Nat))
  s1 : wx.cell? ⟨nb, 1, none⟩ = some (.int .i64 (k : Nat))
  s2 : wx.cell? ⟨nb, 2, none⟩ = some (.int .i64 (m : Nat))
  s3 : wx.cell? ⟨nb, 3, none⟩ = some (.pointer (some ⟨cb, i, none⟩))
  s4 : wx.cell? ⟨cb, i, none⟩ = some (.int .i64 x)
theorem WI.keep {w wx wy : World} {nb cb i a k m : Nat} {x : Int} {l l' : List Nat} (h : WI w wx nb cb i a k m x l) (hk : Keep (fun b => b = w.heap.size) wx wy) (hr : Row wy w.heap.size l') : WI w wy nb cb i a k m x l' :=
  have hl := h.lt2
  have hn : ¬ nb = w.heap.size := by have := h.lt; omega
  have hc : ¬ cb = w.heap.size := by have := h.ltc; omega
  ⟨(h.bel.trans (hk.below (by have := h.bel.size; omega) (fun b e => by omega))), hr, h.lt, Nat.lt_of_lt_of_le hl hk.size, h.ltc,
   (hk.cell (p := ⟨nb, 0, none⟩) hl hn).trans h.s0, (hk.cell (p := ⟨nb, 1, none⟩) hl hn).trans h.s1, (hk.cell (p := ⟨nb, 2, none⟩) hl hn).trans h.s2, (hk.cell (p := ⟨nb, 3, none⟩) hl hn).trans h.s3,
   (hk.cell (p := ⟨cb, i, none⟩) (World.block_lt_of_cell? wx _ h.s4) hc).trans h.s4⟩
/-- What write gives. -/
def WPost (w w' : World) (e : Ending) (F : List Fld) (v : List Int) (n : Nat) : Prop :=
  Below w.heap.size w w' ∧ ((holdL F v F.length ∧ e = .returned (.tuple #[.slice (some ⟨w.heap.size, 0, none⟩) n n, .nilIface]) ∧ Row w' w.heap.size (wrt F v n F.length)) ∨ (¬ holdL F v F.length ∧ e = .returned (.tuple #[.slice none 0 0, .iface 31 (.int .i64 1)])))
def mkB (n : Nat) : Array Value := ((List.replicate n 0).map bv).toArray
theorem made_bytes (n : Nat) (hn : n ≤ 1048576) (w : World) : (Instr.makeSlice 26 (.int .i64 (n : Int)) (.int .i64 (n : Int))).run Tryd.prog w = .ok (.slice (some ⟨w.heap.size, 0, none⟩) n n) (w.alloc (.cells (mkB n) 5)) := by
  obtain ⟨i0, hi, hz0, hz1, hz2⟩ := info_parts info5
  have h := run_make (P := Tryd.prog) w 26 5 i0 (.int .u8 0) Tryd.underlying26 hi hz0 .i64 .i64 n n (by omega) (by omega) (by rw [hz2]; omega) (by omega)
  rw [h]
  have e : madeCells (Value.int .u8 0).cells ((n : Int).toNat * i0.size) = mkB n := by
    unfold mkB
    apply Array.toList_inj.1
    rw [hz1, Int.toNat_natCast, Nat.mul_one]
    have := toList_madeCells_one (Value.int .u8 0) n
    simp only [List.map_replicate]
    exact this
  rw [e]
  simp

theorem row_mk (w : World) (n : Nat) : Row (w.alloc (.cells (mkB n) 5)) w.heap.size (List.replicate n 0) := by
  show _ = _
  rw [heap_alloc_new w _]
  simp [mkB, bv]
set_option maxRecDepth 20000 in
set_option maxHeartbeats 3200000 in
theorem write_any (g off cb n : Nat) (F : List Fld) (v : List Int) (cap : Nat) (w : World) (hF : FL w g off cb F) (hv : CV w cb v) (hl : F.length ≤ v.length) (hcb : cb < w.heap.size) (hg : g < w.heap.size) (hok : OkF F n) :
    Calls Tryd.prog 17 #[.int .i64 (n : Nat), .slice (some ⟨g, off, none⟩) F.length cap] w fun e w' => WPost w w' e F v n := by
  have hn64 := hok.1
  have hF64 := hok.2.1
  have hmk : ∀ wz, (Instr.makeSlice 26 (.int .i64 (n : Int)) (.int .i64 (n : Int))).run Tryd.prog wz = .ok (.slice (some ⟨wz.heap.size, 0, none⟩) n n) (wz.alloc (.cells (mkB n) 5)) := fun wz => made_bytes n (by omega) wz
  have HN : Hid (holdL F v F.length ∨ ¬ holdL F v F.length) := Classical.em _
  have H0 : Hid (Below w.heap.size w (w.alloc (.cells (mkB n) 5)) ∧ Row (w.alloc (.cells (mkB n) 5)) w.heap.size (wrt F v n 0) ∧ holdL F v 0) := ⟨alloc_below' w _, row_mk w n, fun j hj => by omega⟩
  have HS : Hid (∀ wr i, i < F.length → Below w.heap.size w wr → w.heap.size < wr.heap.size → Row wr w.heap.size (wrt F v n i) → FAt wr g off i cb (gF F i).a (gF F i).k (gF F i).m ∧ ∀ x, WI w ((wr.alloc (.cells #[.int .i64 ((gF F i).a : Nat), .int .i64 ((gF F i).k : Nat), .int .i64 ((gF F i).m : Nat), .pointer (some ⟨cb, i, none⟩)] 63)).drewN x) wr.heap.size cb i (gF F i).a (gF F i).k (gF F i).m (gV v i) (wrt F v n i)) := fun wr i hi hb hlt hr => by
    have hk : Keep (fun _ => False) w wr := Keep.of_below hb
    refine ⟨hF.keep hk (fun e => e) i hi, fun x => ?_⟩
    have hb2 := below_drewN (alloc_below' wr (.cells #[.int .i64 ((gF F i).a : Nat), .int .i64 ((gF F i).k : Nat), .int .i64 ((gF F i).m : Nat), .pointer (some ⟨cb, i, none⟩)] 63)) x
    refine ⟨hb.trans (hb2.mono hb.size), hr.below hb2, hlt, by simp, hcb, by simp, by simp, by simp, by simp, ?_⟩
    exact (hv.keep hk (fun e => e)).keep (Keep.of_below (S := fun _ => False) hb2) (fun e => e) i (by omega)
  have HM : Hid (∀ wx nb i a k m x l, WI w wx nb cb i a k m x l → Calls Tryd.prog 24 #[.agg #[.int .i64 (a : Nat), .int .i64 (k : Nat), .int .i64 (m : Nat)], .int .i64 x] wx fun e w' => e = .returned (.bool (holdB x m)) ∧ WI w w' nb cb i a k m x l) := fun wx nb i a k m x l h => by
    refine (hold_any a k m x wx).mono ?_
    rintro e w' ⟨rfl, hb⟩
    exact ⟨rfl, h.keep (Keep.of_below hb) (h.row.below hb)⟩
  have HP : Hid (∀ (wx : World) (nb i a k m x : Nat) (l : List Nat), i < F.length → a = (gF F i).a → k = (gF F i).k → l = wrt F v n i → (x : Int) = gV v i → x ≤ 4611686018427387904 → WI w wx nb cb i a k m (x : Int) l → Calls Tryd.prog 25 #[.agg #[.int .i64 (a : Nat), .int .i64 (k : Nat), .int .i64 (m : Nat)], .slice (some ⟨w.heap.size, 0, none⟩) n n, .int .i64 (x : Nat)] wx fun e w' => e = .returned (.tuple #[]) ∧ WI w w' nb cb i a k m (x : Int) (wrt F v n (i + 1))) := fun wx nb i a k m x l hi ha hk hl2 hx hx2 h => by
    have ho := hok.2.2 i hi
    have hwl := wrt_len (v := v) hok i (by omega)
    refine (put_any w.heap.size a k m x l n n wx h.row (by rw [hl2, hwl]) (by omega) (by rw [hl2, hwl]; omega) (by rw [hl2, hwl]; omega) hx2).mono ?_
    rintro e w' ⟨rfl, hr, hkp⟩
    refine ⟨rfl, h.keep hkp ?_⟩
    show Row w' w.heap.size (lay (wrt F v n i) (gF F i).a (low (gF F i).k (gV v i).toNat))
    rw [← hx, ← ha, ← hk, ← hl2, Int.toNat_natCast]
    exact hr
  have HO : Hid (OkF F n) := hok
  clear hF hv hl hcb hg hok
  go_enter Tryd.func17, Tryd.ntmps17
  go_wp2
  go_loopw [13] (fun j wr => ∃ i : Nat, i ≤ F.length ∧ j = .int .i64 i ∧ Hid (Below w.heap.size w wr ∧ w.heap.size < wr.heap.size ∧ Row wr w.heap.size (wrt F v n i) ∧ holdL F v i)) (fun j _ => F.length - (intOf j).toNat)
  case atStart => exact ⟨0, by omega, rfl, H0.out.1, by simp, H0.out.2⟩
  case round =>
    clear H0 hmk
    obtain ⟨i, hi, rfl, hr⟩ := hrel
    by_cases hlt : i < F.length
    · obtain ⟨hf, hwi⟩ := HS.out wr i hlt hr.out.1 hr.out.2.1 hr.out.2.2.1
      have c0 := hf.c0
      have c1 := hf.c1
      have c2 := hf.c2
      have c3 := hf.c3
      have HWI : Hid (∀ x, WI w ((wr.alloc (.cells #[.int .i64 ((gF F i).a : Nat), .int .i64 ((gF F i).k : Nat), .int .i64 ((gF F i).m : Nat), .pointer (some ⟨cb, i, none⟩)] 63)).drewN x) wr.heap.size cb i (gF F i).a (gF F i).k (gF F i).m (gV v i) (wrt F v n i)) := hwi
      have hck : Hid ((gF F i).a = (gF F i).a ∧ (gF F i).k = (gF F i).k) := ⟨rfl, rfl⟩
      obtain ⟨A, HA⟩ : ∃ A, Hid (A = (gF F i).a) := ⟨_, rfl⟩
      obtain ⟨K, HK⟩ : ∃ K, Hid (K = (gF F i).k) := ⟨_, rfl⟩
      obtain ⟨M, HMm⟩ : ∃ M, Hid (M = (gF F i).m) := ⟨_, rfl⟩
      obtain ⟨X, HX⟩ : ∃ X, Hid (X = gV v i) := ⟨_, rfl⟩
      obtain ⟨l, Hl⟩ : ∃ l, Hid (l = wrt F v n i) := ⟨_, rfl⟩
      rw [← HA.out] at c0 HWI
      rw [← HK.out] at c1 HWI
      rw [← HMm.out] at c2 HWI
      rw [← HX.out, ← Hl.out] at HWI
      have HMh : Hid (∀ x, Calls Tryd.prog 24 #[.agg #[.int .i64 (A : Nat), .int .i64 (K : Nat), .int .i64 (M : Nat)], .int .i64 X] ((wr.alloc (.cells #[.int .i64 (A : Nat), .int .i64 (K : Nat), .int .i64 (M : Nat), .pointer (some ⟨cb, i, none⟩)] 63)).drewN x) fun e w' => e = .returned (.bool (holdB X M)) ∧ WI w w' wr.heap.size cb i A K M X l) := fun x => HM.out _ _ _ _ _ _ _ _ (HWI.out x)
      cases hh : holdB X M with
      | false =>
        rw [hh] at HMh
        have HE : Hid (∀ wz, Below w.heap.size w wz → WPost w wz (.returned (.tuple #[.slice none 0 0, .iface 31 (.int .i64 1)])) F v n) := fun wz hb => ⟨hb, .inr ⟨(fun e => by
          have := e i hlt
          rw [← HX.out, ← HMm.out, hh] at this
          cases this), rfl⟩⟩
        clear hf hwi HM HS HP hh hr
        go_wp2
        go_region_held3 (fun w' => w'.cell? ⟨wr.heap.size, 0, none⟩ = some (.int .i64 (A : Nat)) ∧ w'.cell? ⟨wr.heap.size, 1, none⟩ = some (.int .i64 (K : Nat)) ∧ w'.cell? ⟨wr.heap.size, 2, none⟩ = some (.int .i64 (M : Nat)) ∧ w'.cell? ⟨wr.heap.size, 3, none⟩ = some (.pointer (some ⟨cb, i, none⟩)) ∧ w'.cell? ⟨cb, i, none⟩ = some (.int .i64 X)) (first | exact ⟨(HWI.out _).s0, (HWI.out _).s1, (HWI.out _).s2, (HWI.out _).s3, (HWI.out _).s4⟩ | exact ⟨(HWI.out 0).s0, (HWI.out 0).s1, (HWI.out 0).s2, (HWI.out 0).s3, (HWI.out 0).s4⟩ | exact ⟨hW2.s0, hW2.s1, hW2.s2, hW2.s3, hW2.s4⟩ | assumption | go_keep) (first | (go_at_call 24; refine (HMh.out _).mono ?_; rintro e w2 ⟨rfl, hW2⟩))
        have HB : Hid (Below w.heap.size w w2) := hW2.bel
        clear HMh HWI hW2
        go_wp2
        go_ret2
        exact HE.out _ HB.out
      | true =>
        rw [hh] at HMh
        have h0 : 0 ≤ X ∧ X ≤ (M : Int) := of_decide_eq_true hh
        obtain ⟨Z, hZ⟩ := Int.eq_ofNat_of_zero_le h0.1
        subst hZ
        have HPp : Hid (∀ (wx : World) x, WI w wx wr.heap.size cb i A K M (Z : Int) l → Calls Tryd.prog 25 #[.agg #[.int .i64 (A : Nat), .int .i64 (K : Nat), .int .i64 (M : Nat)], .slice (some ⟨w.heap.size, 0, none⟩) n n, .int .i64 (Z : Nat)] (wx.drewN x) fun e w' => e = .returned (.tuple #[]) ∧ WI w w' wr.heap.size cb i A K M (Z : Int) (wrt F v n (i + 1))) := fun wx x h =>
          HP.out _ _ i A K M Z l hlt HA.out HK.out Hl.out HX.out (by have := (HO.out.2.2 i hlt).2.2; rw [← HMm.out] at this; omega) (h.keep ((Keep.refl _ _).drewN x) (h.row.keep (S := fun _ => False) ((Keep.refl _ _).drewN x) (fun e => e)))
        have HH : Hid (holdL F v (i + 1)) := fun j hj => by
          by_cases e : j < i
          · exact hr.out.2.2.2 j e
          · obtain rfl : j = i := by omega
            rw [← HX.out, ← HMm.out]; exact hh
        have hs0 : Hid (w.heap.size < wr.heap.size) := hr.out.2.1
        clear hf hwi HM HS HP hh hr h0
        go_wp2
        go_region_held3 (fun w' => w'.cell? ⟨wr.heap.size, 0, none⟩ = some (.int .i64 (A : Nat)) ∧ w'.cell? ⟨wr.heap.size, 1, none⟩ = some (.int .i64 (K : Nat)) ∧ w'.cell? ⟨wr.heap.size, 2, none⟩ = some (.int .i64 (M : Nat)) ∧ w'.cell? ⟨wr.heap.size, 3, none⟩ = some (.pointer (some ⟨cb, i, none⟩)) ∧ w'.cell? ⟨cb, i, none⟩ = some (.int .i64 (Z : Nat))) (first | exact ⟨(HWI.out _).s0, (HWI.out _).s1, (HWI.out _).s2, (HWI.out _).s3, (HWI.out _).s4⟩ | exact ⟨(HWI.out 0).s0, (HWI.out 0).s1, (HWI.out 0).s2, (HWI.out 0).s3, (HWI.out 0).s4⟩ | exact ⟨hW2.s0, hW2.s1, hW2.s2, hW2.s3, hW2.s4⟩ | assumption | go_keep) (first | (go_at_call 24; refine (HMh.out _).mono ?_; rintro e w2 ⟨rfl, hW2⟩))
        have HW2 : Hid (∀ x, WI w (w2.drewN x) wr.heap.size cb i A K M (Z : Int) l) := fun x => hW2.keep ((Keep.refl _ _).drewN x) (hW2.row.keep (S := fun _ => False) ((Keep.refl _ _).drewN x) (fun e => e))
        have HP2 : Hid (∀ x, Calls Tryd.prog 25 #[.agg #[.int .i64 (A : Nat), .int .i64 (K : Nat), .int .i64 (M : Nat)], .slice (some ⟨w.heap.size, 0, none⟩) n n, .int .i64 (Z : Nat)] (w2.drewN x) fun e w' => e = .returned (.tuple #[]) ∧ WI w w' wr.heap.size cb i A K M (Z : Int) (wrt F v n (i + 1))) := fun x => HPp.out w2 x hW2
        clear HMh HWI hW2 HPp c0 c1 c2 c3
        go_wp2
        go_region_held3 (fun w' => w'.cell? ⟨wr.heap.size, 0, none⟩ = some (.int .i64 (A : Nat)) ∧ w'.cell? ⟨wr.heap.size, 1, none⟩ = some (.int .i64 (K : Nat)) ∧ w'.cell? ⟨wr.heap.size, 2, none⟩ = some (.int .i64 (M : Nat)) ∧ w'.cell? ⟨wr.heap.size, 3, none⟩ = some (.pointer (some ⟨cb, i, none⟩)) ∧ w'.cell? ⟨cb, i, none⟩ = some (.int .i64 (Z : Nat))) (first | exact ⟨(HW2.out _).s0, (HW2.out _).s1, (HW2.out _).s2, (HW2.out _).s3, (HW2.out _).s4⟩ | exact ⟨(HW2.out 0).s0, (HW2.out 0).s1, (HW2.out 0).s2, (HW2.out 0).s3, (HW2.out 0).s4⟩ | exact ⟨hW3.s0, hW3.s1, hW3.s2, hW3.s3, hW3.s4⟩ | assumption | go_keep) (first | (go_at_call 25; refine (HP2.out _).mono ?_; rintro e w3 ⟨rfl, hW3⟩))
        have HR : Hid (Below w.heap.size w w3 ∧ w.heap.size < w3.heap.size ∧ Row w3 w.heap.size (wrt F v n (i + 1)) ∧ holdL F v (i + 1)) := ⟨hW3.bel, Nat.lt_trans hs0.out hW3.lt2, hW3.row, HH.out⟩
        clear HW2 HP2 hW3 HH hs0
        go_wp2
        go_roundw
        case rel => exact ⟨i + 1, by omega, by go_num, HR.out⟩
        case measure => simp [intOf]; omega
    · obtain rfl : i = F.length := by omega
      have HR : Hid (WPost w wr (.returned (.tuple #[.slice (some ⟨w.heap.size, 0, none⟩) n n, .nilIface])) F v n) := ⟨hr.out.1, .inl ⟨hr.out.2.2.2, rfl, hr.out.2.2.1⟩⟩
      clear hr HS HM HP
      go_wp2
      go_ret2
      exact HR.out
end Go.Proofs.YteklankhffebaaaDoor

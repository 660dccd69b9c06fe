/-
  What the call of package cmd's read gives, of any fields.
-/
import Derived.Test.YteklankhffebaaaDoorWriteF
namespace Go.Proofs.YteklankhffebaaaDoor
open Go.RowKit
set_option linter.unusedVariables false

/-- A block's cells are these. -/
def Stc (w : World) (cb : Nat) (t : TypeId) (cs : List Value) : Prop := w.heap[cb]? = some (.cells cs.toArray t (0, 0))
theorem Stc.keep {S : Nat → Prop} {w w' : World} {g : Nat} {t : TypeId} {l : List Value} (h : Stc w g t l) (hk : Keep S w w') (hs : ¬ S g) : Stc w' g t l := (hk.block g (heap_lt h) hs).trans h
theorem Stc.cell {w : World} {g : Nat} {t : TypeId} {l : List Value} (h : Stc w g t l) (i : Nat) : w.cell? ⟨g, i, none⟩ = l[i]? := by
  unfold Stc at h
  simp [World.cell?, h]
theorem Stc.free {w : World} {g : Nat} {t : TypeId} {l : List Value} (h : Stc w g t l) (j : Nat) : w.frozen? ⟨g, j, none⟩ = false := row_free h j
theorem Stc.set {w : World} {g : Nat} {t : TypeId} {l : List Value} (h : Stc w g t l) (i : Nat) (u : Value) : Stc (w.setCell ⟨g, i, none⟩ u) g t (l.set i u) := by
  unfold Stc at *
  simp [World.setCell, Array.getElem?_modify, h]
/-- The number that the i-th field is. -/
def rdN (F : List Fld) (l : List Nat) (i : Nat) : Nat := num (cut l (gF F i).a (gF F i).k)
/-- What stands in the struct once the first i fields are read. -/
def rdc (F : List Fld) (l : List Nat) (cs : List Value) : Nat → List Value
  | 0 => cs
  | i + 1 => (rdc F l cs i).set i (.int .i64 (rdN F l i : Nat))
theorem rdc_len {F : List Fld} {l : List Nat} {cs : List Value} : ∀ i, (rdc F l cs i).length = cs.length
  | 0 => rfl
  | i + 1 => by
    show ((rdc F l cs i).set _ _).length = _
    rw [List.length_set, rdc_len i]
/-- Of the first i fields none is too great. -/
def fitL (F : List Fld) (l : List Nat) (i : Nat) : Prop := ∀ j, j < i → rdN F l j ≤ (gF F j).m
/-- What read gives. -/
def RPost (w w' : World) (e : Ending) (F : List Fld) (l : List Nat) (cb : Nat) (t : TypeId) (cs : List Value) : Prop :=
  Keep (fun b => b = cb) w w' ∧ ((fitL F l F.length ∧ e = .returned .nilIface ∧ Stc w' cb t (rdc F l cs F.length)) ∨ (¬ fitL F l F.length ∧ e = .returned (.iface 31 (.int .i64 1))))
set_option maxRecDepth 20000 in
set_option maxHeartbeats 800000 in
/-- Not so many bytes. -/
theorem read_no (b : Option Addr) (L c n : Nat) (v : Value) (w : World) (hn : n ≤ 64) (hL : L ≤ 140737488355328) (h : L ≠ n) :
    Calls Tryd.prog 22 #[.slice b L c, .int .i64 (n : Nat), v] w fun e w' => e = .returned (.iface 31 (.int .i64 2)) ∧ w = w' := by
  have ht : (((L : Nat) : Int) != ((n : Nat) : Int)) = true := by simp; omega
  go_enter Tryd.func22, Tryd.ntmps22
  go_wp2
  go_ret
  exact ⟨rfl, rfl⟩
/-- While read goes: in a round. -/
structure RI (w wx : World) (nb cb i a k m : Nat) (t : TypeId) (cs : List Value) : Prop where
  keep : Keep (fun b => b = cb) w wx
  st : Stc wx cb t cs
  ge : w.heap.size ≤ nb
  lt2 : nb < wx.heap.size
  ltc : cb < w.heap.size
  s0 : wx.cell? ⟨nb, 0, none⟩ = some (.int .i64 (a : Nat))
  s1 : wx.cell? ⟨nb, 1, none⟩ = some (.int .i64 (k : Nat))
  s2 : wx.cell? ⟨nb, 2, none⟩ = some (.int .i64 (m : Nat))
  s3 : wx.cell? ⟨nb, 3, none⟩ = some (.pointer (some ⟨cb, i, none⟩))
theorem RI.below {w wx wy : World} {nb cb i a k m : Nat} {t : TypeId} {cs : List Value} (h : RI w wx nb cb i a k m t cs) (hb : Below wx.heap.size wx wy) : RI w wy nb cb i a k m t cs :=
  have hl := h.lt2
  have hk : Keep (fun _ => False) wx wy := Keep.of_below hb
  have hf : ¬ False := fun e => e
  ⟨h.keep.trans (Keep.of_below hb), h.st.keep hk hf, h.ge, Nat.lt_of_lt_of_le hl hb.size, h.ltc,
   (hk.cell (p := ⟨nb, 0, none⟩) hl hf).trans h.s0, (hk.cell (p := ⟨nb, 1, none⟩) hl hf).trans h.s1, (hk.cell (p := ⟨nb, 2, none⟩) hl hf).trans h.s2, (hk.cell (p := ⟨nb, 3, none⟩) hl hf).trans h.s3⟩
set_option maxRecDepth 20000 in
set_option maxHeartbeats 3200000 in
theorem read_yes (g off cb n b o : Nat) (F : List Fld) (l : List Nat) (cs : List Value) (t : TypeId) (cap c : Nat) (w : World) (hF : FL w g off cb F) (hS : Stc w cb t cs) (hg : ¬ g = cb) (hl : F.length ≤ cs.length) (hln : l.length = n) (hA : AllB l)
    (hc : ∀ i, i < n → w.cell? ⟨b, o + i, none⟩ = some (.int .u8 ((l[i]?.getD 0 : Nat) : Int))) (hb : ¬ b = cb) (hok : OkF F n) :
    Calls Tryd.prog 22 #[.slice (some ⟨b, o, none⟩) n c, .int .i64 (n : Nat), .slice (some ⟨g, off, none⟩) F.length cap] w fun e w' => RPost w w' e F l cb t cs := by
  have hn64 := hok.1
  have hF64 := hok.2.1
  have ht : (((n : Nat) : Int) != ((n : Nat) : Int)) = false := by simp
  have H0 : Hid (Keep (fun b => b = cb) w w ∧ Stc w cb t (rdc F l cs 0) ∧ fitL F l 0) := ⟨Keep.refl _ _, hS, fun j hj => by omega⟩
  have HS : Hid (∀ wr i, i < F.length → Keep (fun b => b = cb) w wr → Stc wr cb t (rdc F l cs i) → FAt wr g off i cb (gF F i).a (gF F i).k (gF F i).m ∧ RI w (wr.alloc (.cells #[.int .i64 ((gF F i).a : Nat), .int .i64 ((gF F i).k : Nat), .int .i64 ((gF F i).m : Nat), .pointer (some ⟨cb, i, none⟩)] 63)) wr.heap.size cb i (gF F i).a (gF F i).k (gF F i).m t (rdc F l cs i)) := fun wr i hi hk hr => by
    refine ⟨hF.keep hk hg i hi, ?_⟩
    have hb2 := alloc_below' wr (.cells #[.int .i64 ((gF F i).a : Nat), .int .i64 ((gF F i).k : Nat), .int .i64 ((gF F i).m : Nat), .pointer (some ⟨cb, i, none⟩)] 63)
    exact ⟨hk.trans (Keep.of_below hb2), hr.keep (Keep.of_below (S := fun _ => False) hb2) (fun e => e), hk.size, by simp, heap_lt hS, by simp, by simp, by simp, by simp⟩
  have HG : Hid (∀ wx nb i a k m cs', i < F.length → a = (gF F i).a → k = (gF F i).k → m = (gF F i).m → RI w wx nb cb i a k m t cs' → Calls Tryd.prog 27 #[.agg #[.int .i64 (a : Nat), .int .i64 (k : Nat), .int .i64 (m : Nat)], .slice (some ⟨b, o, none⟩) n c] wx fun e w' => e = getV (rdN F l i) m ∧ RI w w' nb cb i a k m t cs') := fun wx nb i a k m cs' hi ha hk hm h => by
    have ho := hok.2.2 i hi
    have hle : a + k ≤ l.length := by rw [hln, ha, hk]; exact ho.2.1
    refine (get_any b o a k m n (cut l a k) c wx (cut_len hle) (cut_all hA _ _) (by rw [hk]; exact ho.1) (by omega) hn64 (by rw [hm]; exact ho.2.2) (fun j hj => ?_)).mono ?_
    · rw [cut_at j hj]
      exact (h.keep.cell (p := ⟨b, o + (a + j), none⟩) (World.block_lt_of_cell? w _ (hc (a + j) (by omega))) hb).trans (hc (a + j) (by omega))
    · rintro e w' ⟨rfl, hw⟩
      exact ⟨by unfold rdN; rw [ha, hk], h.below hw⟩
  have HT : Hid (∀ wx nb i a k m, i < F.length → RI w wx nb cb i a k m t (rdc F l cs i) → (∃ u, wx.cell? ⟨cb, i, none⟩ = some u) ∧ wx.frozen? ⟨cb, i, none⟩ = false ∧ Keep (fun b => b = cb) w (wx.setCell ⟨cb, i, none⟩ (.int .i64 (rdN F l i : Nat))) ∧ Stc (wx.setCell ⟨cb, i, none⟩ (.int .i64 (rdN F l i : Nat))) cb t (rdc F l cs (i + 1))) := fun wx nb i a k m hi h => by
    refine ⟨⟨_, (h.st.cell i).trans (List.getElem?_eq_getElem (by rw [rdc_len]; omega))⟩, h.st.free i, h.keep.set1 _ _, h.st.set i _⟩
  clear hF hS hc hb hg hl hA hok
  go_enter Tryd.func22, Tryd.ntmps22
  go_wp2
  go_loopw [18] (fun j wr => ∃ i : Nat, i ≤ F.length ∧ j = .int .i64 i ∧ Hid (Keep (fun b => b = cb) w wr ∧ Stc wr cb t (rdc F l cs i) ∧ fitL F l i)) (fun j _ => F.length - (intOf j).toNat)
  case atStart => exact ⟨0, by omega, rfl, H0.out⟩
  case round =>
    clear H0
    obtain ⟨i, hi, rfl, hr⟩ := hrel
    by_cases hlt : i < F.length
    · obtain ⟨hf, hwi⟩ := HS.out wr i hlt hr.out.1 hr.out.2.1
      have c0 := hf.c0
      have c1 := hf.c1
      have c2 := hf.c2
      have c3 := hf.c3
      obtain ⟨A, HA⟩ : ∃ A, Hid (A = (gF F i).a) := ⟨_, rfl⟩
      obtain ⟨K, HK⟩ : ∃ K, Hid (K = (gF F i).k) := ⟨_, rfl⟩
      obtain ⟨M, HMm⟩ : ∃ M, Hid (M = (gF F i).m) := ⟨_, rfl⟩
      obtain ⟨X, HX⟩ : ∃ X, Hid (X = rdN F l i) := ⟨_, rfl⟩
      rw [← HA.out] at c0 hwi
      rw [← HK.out] at c1 hwi
      rw [← HMm.out] at c2 hwi
      have HGg : Hid (Calls Tryd.prog 27 #[.agg #[.int .i64 (A : Nat), .int .i64 (K : Nat), .int .i64 (M : Nat)], .slice (some ⟨b, o, none⟩) n c] (wr.alloc (.cells #[.int .i64 (A : Nat), .int .i64 (K : Nat), .int .i64 (M : Nat), .pointer (some ⟨cb, i, none⟩)] 63)) fun e w' => e = getV X M ∧ RI w w' wr.heap.size cb i A K M t (rdc F l cs i)) := by
        have := HG.out _ _ i A K M _ hlt HA.out HK.out HMm.out hwi
        rw [← HX.out] at this
        exact this
      by_cases hbig : X ≤ M
      · have HE : Hid (getV X M = .returned (.tuple #[.int .i64 (X : Nat), .nilIface])) := by show _ = _; unfold getV; rw [if_pos hbig]
        rw [HE.out] at HGg
        have HH : Hid (fitL F l (i + 1)) := fun j hj => by
          by_cases e : j < i
          · exact hr.out.2.2 j e
          · obtain rfl : j = i := by omega
            rw [← HX.out, ← HMm.out]; exact hbig
        have HT2 : Hid (∀ wx, RI w wx wr.heap.size cb i A K M t (rdc F l cs i) → (∃ u, wx.cell? ⟨cb, i, none⟩ = some u) ∧ wx.frozen? ⟨cb, i, none⟩ = false ∧ Keep (fun b => b = cb) w (wx.setCell ⟨cb, i, none⟩ (.int .i64 (X : Nat))) ∧ Stc (wx.setCell ⟨cb, i, none⟩ (.int .i64 (X : Nat))) cb t (rdc F l cs (i + 1))) := fun wx h => by
          have := HT.out wx _ i A K M hlt h
          rw [← HX.out] at this
          exact this
        clear hf hwi HG HS HT hr HE hbig HX
        go_wp2_with fail
        refine HGg.out.mono ?_
        rintro e w2 ⟨rfl, hW2⟩
        obtain ⟨⟨u, hcu⟩, hfz, hkk, hss⟩ := HT2.out w2 hW2
        have s3 := hW2.s3
        have HR : Hid (Keep (fun b => b = cb) w (w2.setCell ⟨cb, i, none⟩ (.int .i64 (X : Nat))) ∧ Stc (w2.setCell ⟨cb, i, none⟩ (.int .i64 (X : Nat))) cb t (rdc F l cs (i + 1)) ∧ fitL F l (i + 1)) := ⟨hkk, hss, HH.out⟩
        clear HGg HT2 hW2 hkk hss HH c0 c1 c2 c3
        go_wp2
        go_roundw
        case rel => exact ⟨i + 1, by omega, by go_num, HR.out⟩
        case measure => simp [intOf]; omega
      · have HE : Hid (getV X M = .returned (.tuple #[.int .i64 0, .iface 31 (.int .i64 1)])) := by show _ = _; unfold getV; rw [if_neg hbig]
        rw [HE.out] at HGg
        have HN : Hid (∀ wz, Keep (fun b => b = cb) w wz → RPost w wz (.returned (.iface 31 (.int .i64 1))) F l cb t cs) := fun wz hk => ⟨hk, .inr ⟨(fun e => by
          have := e i hlt
          rw [← HX.out, ← HMm.out] at this
          omega), rfl⟩⟩
        clear hf hwi HG HS HT hr HE hbig HX
        go_wp2_with fail
        refine HGg.out.mono ?_
        rintro e w2 ⟨rfl, hW2⟩
        have HR := HN.out w2 hW2.keep
        clear HGg HN hW2 c0 c1 c2 c3
        go_wp2
        go_ret
        exact HR
    · obtain rfl : i = F.length := by omega
      have HR : Hid (RPost w wr (.returned .nilIface) F l cb t cs) := ⟨hr.out.1, .inl ⟨hr.out.2.2, rfl, hr.out.2.1⟩⟩
      clear hr HS HG HT
      go_wp2
      go_ret
      exact HR.out
end Go.Proofs.YteklankhffebaaaDoor

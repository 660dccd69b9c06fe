/-
  What the calls of the document's CommandOf and DoneOf give.
-/
import Derived.Test.YteklankhffebaaaDoorMathCmd
import Derived.Test.YteklankhffebaaaDoorRNumC
import Derived.Test.YteklankhffebaaaDoorAppZ
namespace Go.Proofs.YteklankhffebaaaDoor
open Go.RowKit
set_option linter.unusedVariables false

theorem low8_of4 {x : Nat} (h : x ≤ 4294967295) : low 8 x = low 4 x ++ [0, 0, 0, 0] := by
  show [x % 256, x / 256 % 256, x / 256 / 256 % 256, x / 256 / 256 / 256 % 256, x / 256 / 256 / 256 / 256 % 256, x / 256 / 256 / 256 / 256 / 256 % 256, x / 256 / 256 / 256 / 256 / 256 / 256 % 256, x / 256 / 256 / 256 / 256 / 256 / 256 / 256 % 256] = [x % 256, x / 256 % 256, x / 256 / 256 % 256, x / 256 / 256 / 256 % 256, 0, 0, 0, 0]
  have : x / 256 / 256 / 256 / 256 = 0 := by omega
  rw [this]
/-- The document's bytes of a command. -/
theorem docC {op id lba cnt fst snd : Nat} (h0 : op ≤ 255) (h1 : id ≤ 65535) (h2 : cnt ≤ 4294967295) : [op, 0, id % 256, id / 256, 0, 0, 0, 0] ++ low 8 lba ++ low 8 cnt ++ low 8 fst ++ low 8 snd ++ List.replicate 24 0 = wrt CF [(op : Int), (id : Int), (lba : Int), (cnt : Int), (fst : Int), (snd : Int)] 64 6 := by
  rw [wrtC, low8_of4 h2]
  simp only [Int.toNat_natCast]
  have : id / 256 % 256 = id / 256 := by omega
  have hop : op % 256 = op := by omega
  show [op, 0, id % 256, id / 256, 0, 0, 0, 0] ++ low 8 lba ++ (low 4 cnt ++ [0, 0, 0, 0]) ++ low 8 fst ++ low 8 snd ++ List.replicate 24 0 = [op % 256] ++ [0] ++ [id % 256, id / 256 % 256] ++ [0, 0, 0, 0] ++ low 8 lba ++ low 4 cnt ++ [0, 0, 0, 0] ++ low 8 fst ++ low 8 snd ++ List.replicate 24 0
  rw [this, hop]
  simp only [List.append_assoc]
  rfl
theorem docD {di dq dh ds : Nat} (h1 : di ≤ 65535) (h2 : dq ≤ 65535) (h3 : dh ≤ 65535) (ph : Bool) : [di % 256, di / 256, dq % 256, dq / 256, dh % 256, dh / 256, ds % 256, if ph then 1 else 0] ++ List.replicate 8 0 = doneL [(di : Int), (dq : Int), (dh : Int), (ds : Int)] ph := by
  have e1 : di / 256 % 256 = di / 256 := by omega
  have e2 : dq / 256 % 256 = dq / 256 := by omega
  have e3 : dh / 256 % 256 = dh / 256 := by omega
  unfold doneL
  rw [wrtD]
  simp only [Int.toNat_natCast]
  cases ph
  · show _ = [di % 256, di / 256 % 256] ++ [dq % 256, dq / 256 % 256] ++ [dh % 256, dh / 256 % 256] ++ [ds % 256] ++ List.replicate 9 0
    rw [e1, e2, e3]
    rfl
  · show _ = ([di % 256, di / 256 % 256] ++ [dq % 256, dq / 256 % 256] ++ [dh % 256, dh / 256 % 256] ++ [ds % 256] ++ List.replicate 9 0).set 7 1
    rw [e1, e2, e3]
    rfl
/-- While CommandOf goes. -/
structure OI (w wx : World) (a : Option Addr) (c : Nat) (ys : List Nat) (op id lba cnt fst snd : Nat) : Prop where
  bel : Below w.heap.size w wx
  own : OwnA wx (w.heap.size + 1) a c ys
  lt : w.heap.size < wx.heap.size
  st : Stc wx w.heap.size 23 [.int .i64 (op : Nat), .int .i64 (id : Nat), .int .i64 (lba : Nat), .int .i64 (cnt : Nat), .int .i64 (fst : Nat), .int .i64 (snd : Nat)]
theorem OI.step {w wx wy : World} {a a2 : Option Addr} {c c2 : Nat} {ys rs : List Nat} {op id lba cnt fst snd : Nat} (h : OI w wx a c ys op id lba cnt fst snd) (hk : Keep (blk a) wx wy) (ho : OwnA wy (w.heap.size + 1) a2 c2 rs) : OI w wy a2 c2 rs op id lba cnt fst snd :=
  ⟨h.bel.trans (hk.below h.bel.size (fun b hb => by have := (h.own.ge hb).1; omega)), ho, Nat.lt_of_lt_of_le h.lt hk.size, h.st.keep hk (fun hb => by have := (h.own.ge hb).1; omega)⟩
theorem OI.below {w wx wy : World} {a : Option Addr} {c : Nat} {ys : List Nat} {op id lba cnt fst snd : Nat} (h : OI w wx a c ys op id lba cnt fst snd) (hb : Below wx.heap.size wx wy) : OI w wy a c ys op id lba cnt fst snd :=
  ⟨h.bel.trans (hb.mono h.bel.size), h.own.below hb, Nat.lt_of_lt_of_le h.lt hb.size, h.st.keep (Keep.of_below (S := fun _ => False) hb) (fun e => e)⟩
set_option maxRecDepth 20000 in
set_option maxHeartbeats 3200000 in
theorem commandOf_any (op id lba cnt fst snd : Nat) (w : World) (h : op ≤ 255 ∧ id ≤ 65535 ∧ lba ≤ 4611686018427387904 ∧ cnt ≤ 4294967295 ∧ fst ≤ 4611686018427387904 ∧ snd ≤ 4611686018427387904) :
    Calls Tryd.prog 8 #[cmdV (op : Nat) (id : Nat) (lba : Nat) (cnt : Nat) (fst : Nat) (snd : Nat)] w fun e w' => OwnPost w w' e (wrt CF [(op : Int), (id : Int), (lba : Int), (cnt : Int), (fst : Int), (snd : Int)] 64 6) := by
  obtain ⟨h0, h1, h2, h3, h4, h5⟩ := h
  obtain ⟨Y0, HY0⟩ : ∃ Y, Hid (Y = [op, 0, id % 256, id / 256, 0, 0, 0, 0]) := ⟨_, rfl⟩
  have HI0 : Hid (OI w ((w.alloc (.cells #[.int .i64 (op : Nat), .int .i64 (id : Nat), .int .i64 (lba : Nat), .int .i64 (cnt : Nat), .int .i64 (fst : Nat), .int .i64 (snd : Nat)] 23)).alloc (.cells #[.int .u8 (op : Int), .int .u8 0, .int .u8 ((id : Int) % 256), .int .u8 ((id : Int) / 256), .int .u8 0, .int .u8 0, .int .u8 0, .int .u8 0] 5)) (some ⟨w.heap.size + 1, 0, none⟩) 8 Y0 op id lba cnt fst snd) := by
    have hb1 := alloc_below' w (.cells #[.int .i64 (op : Nat), .int .i64 (id : Nat), .int .i64 (lba : Nat), .int .i64 (cnt : Nat), .int .i64 (fst : Nat), .int .i64 (snd : Nat)] 23)
    have hs : (w.alloc (.cells #[.int .i64 (op : Nat), .int .i64 (id : Nat), .int .i64 (lba : Nat), .int .i64 (cnt : Nat), .int .i64 (fst : Nat), .int .i64 (snd : Nat)] 23)).heap.size = w.heap.size + 1 := by simp
    refine ⟨hb1.trans ((alloc_below' _ _).mono (by simp)), ?_, by simp; omega, Stc.keep (S := fun _ => False) (w := w.alloc (.cells #[.int .i64 (op : Nat), .int .i64 (id : Nat), .int .i64 (lba : Nat), .int .i64 (cnt : Nat), .int .i64 (fst : Nat), .int .i64 (snd : Nat)] 23)) (heap_alloc_new w _) (Keep.of_below (alloc_below' _ _)) (fun e => e)⟩
    have := own_new (w.alloc (.cells #[.int .i64 (op : Nat), .int .i64 (id : Nat), .int .i64 (lba : Nat), .int .i64 (cnt : Nat), .int .i64 (fst : Nat), .int .i64 (snd : Nat)] 23)) (w.heap.size + 1) Y0 (by rw [hs]; exact Nat.le_refl _) (by rw [HY0.out]; simp) #[.int .u8 (op : Int), .int .u8 0, .int .u8 ((id : Int) % 256), .int .u8 ((id : Int) / 256), .int .u8 0, .int .u8 0, .int .u8 0, .int .u8 0] (by
      rw [HY0.out]
      simp [bv])
    rw [hs, HY0.out] at this
    rw [HY0.out]
    exact this
  have hY8 : Hid (Y0.length = 8) := by show _ = _; rw [HY0.out]; rfl
  have HE : Hid (∀ (x : Nat) wx a c ys, x ≤ 4611686018427387904 → OI w wx a c ys op id lba cnt fst snd → Calls Tryd.prog 20 #[.int .i64 (x : Nat)] wx fun e w' => ∃ a2 c2 L2, e = .returned (.slice a2 L2.length c2) ∧ L2 = low 8 x ∧ L2.length = 8 ∧ (a2 = none → c2 = 0) ∧ Lies w' a2 L2 ∧ OI w w' a c ys op id lba cnt fst snd) := fun x wx a c ys hx h => by
    refine (eight_any x wx hx).mono ?_
    rintro e w' ⟨a2, c2, rfl, ho, hb⟩
    exact ⟨a2, c2, low 8 x, rfl, rfl, low_len 8 x, ho.nil0, ho.lies, h.below hb⟩
  have HF : Hid (∀ w' a c ys, ys = [op, 0, id % 256, id / 256, 0, 0, 0, 0] ++ low 8 lba ++ low 8 cnt ++ low 8 fst ++ low 8 snd ++ List.replicate 24 0 → OI w w' a c ys op id lba cnt fst snd → OwnPost w w' (.returned (.slice a ys.length c)) (wrt CF [(op : Int), (id : Int), (lba : Int), (cnt : Int), (fst : Int), (snd : Int)] 64 6)) := fun w' a c ys hys h => by
    rw [← docC h0 h1 h3, ← hys]
    exact ⟨a, c, rfl, h.own.base (by omega), h.bel⟩
  have i0 : 0 ≤ (op : Int) ∧ (op : Int) ≤ 255 := by omega
  have i1 : 0 ≤ (id : Int) ∧ (id : Int) ≤ 65535 := by omega
  have HH : Hid (lba ≤ 4611686018427387904 ∧ cnt ≤ 4611686018427387904 ∧ fst ≤ 4611686018427387904 ∧ snd ≤ 4611686018427387904) := ⟨h2, by omega, h4, h5⟩
  clear h0 h1 h2 h3 h4 h5
  go_enter Tryd.func8, Tryd.ntmps8
  have HE0 := HE.out lba _ _ _ _ HH.out.1 HI0.out
  go_wp2_with fail
  refine HE0.mono ?_
  rintro e w1 ⟨a1, c1, L1, rfl, hL1, hl1, hn1, hi1, hO1⟩
  have HL1 : Hid (L1 = low 8 lba ∧ L1.length = 8) := ⟨hL1, hl1⟩
  obtain ⟨Y1, HY1⟩ : ∃ Y, Hid (Y = Y0 ++ L1) := ⟨_, rfl⟩
  have hY1 : Hid (Y1.length = 16) := by show _ = _; rw [HY1.out, List.length_append, hY8.out, hl1]
  have HO1 : Hid (OI w w1 (some ⟨w.heap.size + 1, 0, none⟩) 8 Y0 op id lba cnt fst snd ∧ Lies w1 a1 L1 ∧ (a1 = none → c1 = 0) ∧ Y1.length ≤ 140737488355328 ∧ w.heap.size + 1 ≤ w1.heap.size) := ⟨hO1, hi1, hn1, by rw [hY1.out]; decide, hO1.lt⟩
  clear HE0 HI0 hL1 hl1 hn1 hi1 hO1
  have HS0 : Hid (Y0.length = 8) := hY8
  rw [show (Value.slice (some ⟨w.heap.size + 1, 0, none⟩) 8 8) = .slice (some ⟨w.heap.size + 1, 0, none⟩) Y0.length 8 by rw [HS0.out]]
  go_wp2_with (at_builtin; refine app_step rfl (.tmp 20) (.tmp 21) rfl (w.heap.size + 1) (some ⟨w.heap.size + 1, 0, none⟩) 8 Y0 (by rfl) HO1.out.1.own a1 c1 L1 (by rfl) HO1.out.2.2.1 HO1.out.2.1 Y1 HY1.out HO1.out.2.2.2.1 HO1.out.2.2.2.2 ?_)
  intro b1 d1 v1 hP1 hK1
  have HI1 : Hid (OI w v1 b1 d1 Y1 op id lba cnt fst snd) := HO1.out.1.step hK1 hP1
  have s1_2 := HI1.out.st.cell 3
  clear HO1 hP1 hK1
  simp only [List.getElem?_cons_zero, List.getElem?_cons_succ] at s1_2
  have HE1 := HE.out cnt _ _ _ _ HH.out.2.1 HI1.out
  go_wp2_with fail
  refine HE1.mono ?_
  rintro e w2 ⟨a2, c2, L2, rfl, hL2, hl2, hn2, hi2, hO2⟩
  have HL2 : Hid (L2 = low 8 cnt ∧ L2.length = 8) := ⟨hL2, hl2⟩
  obtain ⟨Y2, HY2⟩ : ∃ Y, Hid (Y = Y1 ++ L2) := ⟨_, rfl⟩
  have hY2 : Hid (Y2.length = 24) := by show _ = _; rw [HY2.out, List.length_append, hY1.out, hl2]
  have HO2 : Hid (OI w w2 b1 d1 Y1 op id lba cnt fst snd ∧ Lies w2 a2 L2 ∧ (a2 = none → c2 = 0) ∧ Y2.length ≤ 140737488355328 ∧ w.heap.size + 1 ≤ w2.heap.size) := ⟨hO2, hi2, hn2, by rw [hY2.out]; decide, hO2.lt⟩
  clear HE1 HI1 hL2 hl2 hn2 hi2 hO2
  go_wp2_with (at_builtin; refine app_step rfl (.tmp 26) (.tmp 27) rfl (w.heap.size + 1) b1 d1 Y1 (by rfl) HO2.out.1.own a2 c2 L2 (by rfl) HO2.out.2.2.1 HO2.out.2.1 Y2 HY2.out HO2.out.2.2.2.1 HO2.out.2.2.2.2 ?_)
  intro b2 d2 v2 hP2 hK2
  have HI2 : Hid (OI w v2 b2 d2 Y2 op id lba cnt fst snd) := HO2.out.1.step hK2 hP2
  have s2_2 := HI2.out.st.cell 4
  clear HO2 hP2 hK2
  simp only [List.getElem?_cons_zero, List.getElem?_cons_succ] at s2_2
  have HE2 := HE.out fst _ _ _ _ HH.out.2.2.1 HI2.out
  go_wp2_with fail
  refine HE2.mono ?_
  rintro e w3 ⟨a3, c3, L3, rfl, hL3, hl3, hn3, hi3, hO3⟩
  have HL3 : Hid (L3 = low 8 fst ∧ L3.length = 8) := ⟨hL3, hl3⟩
  obtain ⟨Y3, HY3⟩ : ∃ Y, Hid (Y = Y2 ++ L3) := ⟨_, rfl⟩
  have hY3 : Hid (Y3.length = 32) := by show _ = _; rw [HY3.out, List.length_append, hY2.out, hl3]
  have HO3 : Hid (OI w w3 b2 d2 Y2 op id lba cnt fst snd ∧ Lies w3 a3 L3 ∧ (a3 = none → c3 = 0) ∧ Y3.length ≤ 140737488355328 ∧ w.heap.size + 1 ≤ w3.heap.size) := ⟨hO3, hi3, hn3, by rw [hY3.out]; decide, hO3.lt⟩
  clear HE2 HI2 hL3 hl3 hn3 hi3 hO3
  go_wp2_with (at_builtin; refine app_step rfl (.tmp 32) (.tmp 33) rfl (w.heap.size + 1) b2 d2 Y2 (by rfl) HO3.out.1.own a3 c3 L3 (by rfl) HO3.out.2.2.1 HO3.out.2.1 Y3 HY3.out HO3.out.2.2.2.1 HO3.out.2.2.2.2 ?_)
  intro b3 d3 v3 hP3 hK3
  have HI3 : Hid (OI w v3 b3 d3 Y3 op id lba cnt fst snd) := HO3.out.1.step hK3 hP3
  have s3_2 := HI3.out.st.cell 5
  clear HO3 hP3 hK3
  simp only [List.getElem?_cons_zero, List.getElem?_cons_succ] at s3_2
  have HE3 := HE.out snd _ _ _ _ HH.out.2.2.2 HI3.out
  go_wp2_with fail
  refine HE3.mono ?_
  rintro e w4 ⟨a4, c4, L4, rfl, hL4, hl4, hn4, hi4, hO4⟩
  have HL4 : Hid (L4 = low 8 snd ∧ L4.length = 8) := ⟨hL4, hl4⟩
  obtain ⟨Y4, HY4⟩ : ∃ Y, Hid (Y = Y3 ++ L4) := ⟨_, rfl⟩
  have hY4 : Hid (Y4.length = 40) := by show _ = _; rw [HY4.out, List.length_append, hY3.out, hl4]
  have HO4 : Hid (OI w w4 b3 d3 Y3 op id lba cnt fst snd ∧ Lies w4 a4 L4 ∧ (a4 = none → c4 = 0) ∧ Y4.length ≤ 140737488355328 ∧ w.heap.size + 1 ≤ w4.heap.size) := ⟨hO4, hi4, hn4, by rw [hY4.out]; decide, hO4.lt⟩
  clear HE3 HI3 hL4 hl4 hn4 hi4 hO4
  go_wp2_with (at_builtin; refine app_step rfl (.tmp 38) (.tmp 39) rfl (w.heap.size + 1) b3 d3 Y3 (by rfl) HO4.out.1.own a4 c4 L4 (by rfl) HO4.out.2.2.1 HO4.out.2.1 Y4 HY4.out HO4.out.2.2.2.1 HO4.out.2.2.2.2 ?_)
  intro b4 d4 v4 hP4 hK4
  have HI4 : Hid (OI w v4 b4 d4 Y4 op id lba cnt fst snd) := HO4.out.1.step hK4 hP4
  have s4_2 := HI4.out.st.cell 2
  clear HO4 hP4 hK4
  obtain ⟨Y5, HY5⟩ : ∃ Y : List Nat, Hid (Y = Y4 ++ List.replicate 24 0) := ⟨Y4 ++ List.replicate 24 0, (rfl : Y4 ++ List.replicate 24 0 = Y4 ++ List.replicate 24 0)⟩
  have HZ : Hid (Y4.length ≤ 4096 ∧ 0 < Y4.length ∧ w.heap.size + 1 ≤ v4.heap.size) := ⟨by rw [hY4.out]; decide, by rw [hY4.out]; decide, HI4.out.lt⟩
  go_wp2_with (at_builtin; refine app_zeros rfl (.tmp 41) (.const (.int .i64 24)) rfl (w.heap.size + 1) b4 d4 Y4 (by rfl) HI4.out.own 24 (by rfl) (by decide) (by decide) HZ.out.1 HZ.out.2.1 Y5 HY5.out HZ.out.2.2 ?_)
  intro b5 d5 v5 hP5 hK5
  have HP : Hid (OwnPost w v5 (.returned (.slice b5 Y5.length d5)) (wrt CF [(op : Int), (id : Int), (lba : Int), (cnt : Int), (fst : Int), (snd : Int)] 64 6)) := HF.out v5 b5 d5 Y5 (by rw [HY5.out, HY4.out, HY3.out, HY2.out, HY1.out, HY0.out, HL1.out.1, HL2.out.1, HL3.out.1, HL4.out.1]) (HI4.out.step hK5 hP5)
  clear HF HI4 hP5 hK5
  go_wp2
  go_ret
  exact HP.out
set_option maxRecDepth 20000 in
set_option maxHeartbeats 3200000 in
theorem doneOf_any (di dq dh ds : Nat) (ph : Bool) (w : World) (h : di ≤ 65535 ∧ dq ≤ 65535 ∧ dh ≤ 65535 ∧ ds ≤ 255) :
    Calls Tryd.prog 12 #[doneV (di : Nat) (dq : Nat) (dh : Nat) (ds : Nat) ph] w fun e w' => OwnPost w w' e (doneL [(di : Int), (dq : Int), (dh : Int), (ds : Int)] ph) := by
  obtain ⟨h0, h1, h2, h3⟩ := h
  have hb1 := alloc_below' w (.cells #[.int .i64 (di : Nat), .int .i64 (dq : Nat), .int .i64 (dh : Nat), .int .i64 (ds : Nat), .bool ph] 25)
  have hs : (w.alloc (.cells #[.int .i64 (di : Nat), .int .i64 (dq : Nat), .int .i64 (dh : Nat), .int .i64 (ds : Nat), .bool ph] 25)).heap.size = w.heap.size + 1 := by simp
  have hR : Row ((w.alloc (.cells #[.int .i64 (di : Nat), .int .i64 (dq : Nat), .int .i64 (dh : Nat), .int .i64 (ds : Nat), .bool ph] 25)).alloc (.cells #[.int .u8 ((di : Int) % 256), .int .u8 ((di : Int) / 256), .int .u8 ((dq : Int) % 256), .int .u8 ((dq : Int) / 256), .int .u8 ((dh : Int) % 256), .int .u8 ((dh : Int) / 256), .int .u8 (ds : Int), .int .u8 0] 5)) (w.heap.size + 1) [di % 256, di / 256, dq % 256, dq / 256, dh % 256, dh / 256, ds, 0] := by
    have := heap_alloc_new (w.alloc (.cells #[.int .i64 (di : Nat), .int .i64 (dq : Nat), .int .i64 (dh : Nat), .int .i64 (ds : Nat), .bool ph] 25)) (.cells #[.int .u8 ((di : Int) % 256), .int .u8 ((di : Int) / 256), .int .u8 ((dq : Int) % 256), .int .u8 ((dq : Int) / 256), .int .u8 ((dh : Int) % 256), .int .u8 ((dh : Int) / 256), .int .u8 (ds : Int), .int .u8 0] 5)
    rw [hs] at this
    unfold Row
    rw [this]
    simp [bv]
  have hB2 : Below w.heap.size w ((w.alloc (.cells #[.int .i64 (di : Nat), .int .i64 (dq : Nat), .int .i64 (dh : Nat), .int .i64 (ds : Nat), .bool ph] 25)).alloc (.cells #[.int .u8 ((di : Int) % 256), .int .u8 ((di : Int) / 256), .int .u8 ((dq : Int) % 256), .int .u8 ((dq : Int) / 256), .int .u8 ((dh : Int) % 256), .int .u8 ((dh : Int) / 256), .int .u8 (ds : Int), .int .u8 0] 5)) := hb1.trans ((alloc_below' _ _).mono (by simp))
  have hds : ds % 256 = ds := by omega
  have HF : Hid (∀ wx w' a c Y, Below w.heap.size w wx → OwnA w' (w.heap.size + 1) a c Y → Keep (blk (some ⟨w.heap.size + 1, 0, none⟩)) wx w' → Y = [di % 256, di / 256, dq % 256, dq / 256, dh % 256, dh / 256, ds, if ph then 1 else 0] ++ List.replicate 8 0 → OwnPost w w' (.returned (.slice a Y.length c)) (doneL [(di : Int), (dq : Int), (dh : Int), (ds : Int)] ph)) := fun wx w' a c Y hb ho hk hY => by
    have e := docD (ds := ds) h0 h1 h2 ph
    rw [hds, ← hY] at e
    rw [← e]
    refine ⟨a, c, rfl, ho.base (by omega), hb.trans (hk.below hb.size ?_)⟩
    rintro b ⟨x, hx, rfl⟩
    cases hx
    simp
  have hown : ∀ wx l, l.length = 8 → Row wx (w.heap.size + 1) l → OwnA wx (w.heap.size + 1) (some ⟨w.heap.size + 1, 0, none⟩) 8 l := fun wx l hl hr => ⟨by simp, Or.inr ⟨w.heap.size + 1, 8, (l.map bv).toArray, by rw [hl], Nat.le_refl _, hr, by omega, by unfold maxLen; omega, by simp [hl], by rw [hl]; exact List.take_of_length_le (by simp [hl])⟩⟩
  have i0 : 0 ≤ (di : Int) ∧ (di : Int) ≤ 65535 := by omega
  have i1 : 0 ≤ (dq : Int) ∧ (dq : Int) ≤ 65535 := by omega
  have i2 : 0 ≤ (dh : Int) ∧ (dh : Int) ≤ 65535 := by omega
  have i3 : 0 ≤ (ds : Int) ∧ (ds : Int) ≤ 255 := by omega
  cases ph with
  | false =>
    obtain ⟨Y, HY⟩ : ∃ Y : List Nat, Hid (Y = [di % 256, di / 256, dq % 256, dq / 256, dh % 256, dh / 256, ds, 0]) := ⟨_, rfl⟩
    have HL : Hid (Y.length = 8) := by show _ = _; rw [HY.out]; rfl
    rw [← HY.out] at hR
    have HO : Hid (OwnA ((w.alloc (.cells #[.int .i64 (di : Nat), .int .i64 (dq : Nat), .int .i64 (dh : Nat), .int .i64 (ds : Nat), .bool false] 25)).alloc (.cells #[.int .u8 ((di : Int) % 256), .int .u8 ((di : Int) / 256), .int .u8 ((dq : Int) % 256), .int .u8 ((dq : Int) / 256), .int .u8 ((dh : Int) % 256), .int .u8 ((dh : Int) / 256), .int .u8 (ds : Int), .int .u8 0] 5)) (w.heap.size + 1) (some ⟨w.heap.size + 1, 0, none⟩) 8 Y ∧ Below w.heap.size w ((w.alloc (.cells #[.int .i64 (di : Nat), .int .i64 (dq : Nat), .int .i64 (dh : Nat), .int .i64 (ds : Nat), .bool false] 25)).alloc (.cells #[.int .u8 ((di : Int) % 256), .int .u8 ((di : Int) / 256), .int .u8 ((dq : Int) % 256), .int .u8 ((dq : Int) / 256), .int .u8 ((dh : Int) % 256), .int .u8 ((dh : Int) / 256), .int .u8 (ds : Int), .int .u8 0] 5)) ∧ w.heap.size + 1 ≤ ((w.alloc (.cells #[.int .i64 (di : Nat), .int .i64 (dq : Nat), .int .i64 (dh : Nat), .int .i64 (ds : Nat), .bool false] 25)).alloc (.cells #[.int .u8 ((di : Int) % 256), .int .u8 ((di : Int) / 256), .int .u8 ((dq : Int) % 256), .int .u8 ((dq : Int) / 256), .int .u8 ((dh : Int) % 256), .int .u8 ((dh : Int) / 256), .int .u8 (ds : Int), .int .u8 0] 5)).heap.size) := ⟨hown _ Y HL.out hR, hB2, by simp⟩
    obtain ⟨Y5, HY5⟩ : ∃ Z : List Nat, Hid (Z = Y ++ List.replicate 8 0) := ⟨Y ++ List.replicate 8 0, (rfl : Y ++ List.replicate 8 0 = _)⟩
    have HZ : Hid (Y.length ≤ 4096 ∧ 0 < Y.length) := ⟨by rw [HL.out]; decide, by rw [HL.out]; decide⟩
    clear hown hR hB2 hb1 h0 h1 h2 h3 hds
    go_enter Tryd.func12, Tryd.ntmps12
    go_wp2_with (at_builtin; refine app_zeros rfl (.tmp 36) (.const (.int .i64 8)) rfl (w.heap.size + 1) (some ⟨w.heap.size + 1, 0, none⟩) 8 Y (by rw [HL.out]; rfl) HO.out.1 8 (by rfl) (by decide) (by decide) HZ.out.1 HZ.out.2 Y5 HY5.out HO.out.2.2 ?_)
    intro b5 d5 v5 hP5 hK5
    have HP := HF.out _ v5 b5 d5 Y5 HO.out.2.1 hP5 hK5 (by rw [HY5.out, HY.out]; rfl)
    clear HF HO hP5 hK5
    go_wp2
    go_ret
    exact HP
  | true =>
    obtain ⟨Y, HY⟩ : ∃ Y : List Nat, Hid (Y = [di % 256, di / 256, dq % 256, dq / 256, dh % 256, dh / 256, ds, 1]) := ⟨_, rfl⟩
    have HL : Hid (Y.length = 8) := by show _ = _; rw [HY.out]; rfl
    have hR2 : Row ((w.alloc (.cells #[.int .i64 (di : Nat), .int .i64 (dq : Nat), .int .i64 (dh : Nat), .int .i64 (ds : Nat), .bool true] 25)).alloc (.cells #[.int .u8 ((di : Int) % 256), .int .u8 ((di : Int) / 256), .int .u8 ((dq : Int) % 256), .int .u8 ((dq : Int) / 256), .int .u8 ((dh : Int) % 256), .int .u8 ((dh : Int) / 256), .int .u8 (ds : Int), .int .u8 1] 5)) (w.heap.size + 1) Y := by
      have := heap_alloc_new (w.alloc (.cells #[.int .i64 (di : Nat), .int .i64 (dq : Nat), .int .i64 (dh : Nat), .int .i64 (ds : Nat), .bool true] 25)) (.cells #[.int .u8 ((di : Int) % 256), .int .u8 ((di : Int) / 256), .int .u8 ((dq : Int) % 256), .int .u8 ((dq : Int) / 256), .int .u8 ((dh : Int) % 256), .int .u8 ((dh : Int) / 256), .int .u8 (ds : Int), .int .u8 1] 5)
      rw [hs] at this
      unfold Row
      rw [HY.out, this]
      simp [bv]
    have HO : Hid (OwnA ((w.alloc (.cells #[.int .i64 (di : Nat), .int .i64 (dq : Nat), .int .i64 (dh : Nat), .int .i64 (ds : Nat), .bool true] 25)).alloc (.cells #[.int .u8 ((di : Int) % 256), .int .u8 ((di : Int) / 256), .int .u8 ((dq : Int) % 256), .int .u8 ((dq : Int) / 256), .int .u8 ((dh : Int) % 256), .int .u8 ((dh : Int) / 256), .int .u8 (ds : Int), .int .u8 1] 5)) (w.heap.size + 1) (some ⟨w.heap.size + 1, 0, none⟩) 8 Y ∧ Below w.heap.size w ((w.alloc (.cells #[.int .i64 (di : Nat), .int .i64 (dq : Nat), .int .i64 (dh : Nat), .int .i64 (ds : Nat), .bool true] 25)).alloc (.cells #[.int .u8 ((di : Int) % 256), .int .u8 ((di : Int) / 256), .int .u8 ((dq : Int) % 256), .int .u8 ((dq : Int) / 256), .int .u8 ((dh : Int) % 256), .int .u8 ((dh : Int) / 256), .int .u8 (ds : Int), .int .u8 1] 5)) ∧ w.heap.size + 1 ≤ ((w.alloc (.cells #[.int .i64 (di : Nat), .int .i64 (dq : Nat), .int .i64 (dh : Nat), .int .i64 (ds : Nat), .bool true] 25)).alloc (.cells #[.int .u8 ((di : Int) % 256), .int .u8 ((di : Int) / 256), .int .u8 ((dq : Int) % 256), .int .u8 ((dq : Int) / 256), .int .u8 ((dh : Int) % 256), .int .u8 ((dh : Int) / 256), .int .u8 (ds : Int), .int .u8 1] 5)).heap.size) := ⟨hown _ Y HL.out hR2, hb1.trans ((alloc_below' _ _).mono (by simp)), Nat.le_of_lt (heap_lt hR2)⟩
    obtain ⟨Y5, HY5⟩ : ∃ Z : List Nat, Hid (Z = Y ++ List.replicate 8 0) := ⟨Y ++ List.replicate 8 0, (rfl : Y ++ List.replicate 8 0 = _)⟩
    have HZ : Hid (Y.length ≤ 4096 ∧ 0 < Y.length) := ⟨by rw [HL.out]; decide, by rw [HL.out]; decide⟩
    clear hown hR hR2 hB2 hb1 h0 h1 h2 h3 hds
    go_enter Tryd.func12, Tryd.ntmps12
    go_wp2_with (at_builtin; refine app_zeros rfl (.tmp 36) (.const (.int .i64 8)) rfl (w.heap.size + 1) (some ⟨w.heap.size + 1, 0, none⟩) 8 Y (by rw [HL.out]; rfl) HO.out.1 8 (by rfl) (by decide) (by decide) HZ.out.1 HZ.out.2 Y5 HY5.out HO.out.2.2 ?_)
    intro b5 d5 v5 hP5 hK5
    have HP := HF.out _ v5 b5 d5 Y5 HO.out.2.1 hP5 hK5 (by rw [HY5.out, HY.out]; rfl)
    clear HF HO hP5 hK5
    go_wp2
    go_ret
    exact HP
end Go.Proofs.YteklankhffebaaaDoor

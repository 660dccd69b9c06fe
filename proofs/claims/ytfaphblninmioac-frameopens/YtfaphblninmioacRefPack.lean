/-
  What the call of the document's answer granaryref1.PackOf gives: the page of a frame that may be, in memory of its own.
-/
import Derived.Test.YtfaphblninmioacRef
namespace Go.Proofs.Ytfaphblninmioac
open Go.RowKit
set_option linter.unusedVariables false

/-- A slice's length. -/
def slen : Value → Nat
  | .slice _ n _ => n
  | _ => 0
theorem alloc_below (w : World) (o : Obj) : Below w.heap.size w (w.alloc o) := (Below.refl _ _).alloc (Nat.le_refl _) o
set_option maxRecDepth 100000 in
set_option maxHeartbeats 6400000 in
theorem packOf_any (n k l s : Nat) (a : Option Addr) (cap : Nat) (data : List Nat) (w : World) (h : FOk n k l s data.length) (hA : AllB data) (hnil : a = none → cap = 0) (hL : Lies w a data) :
    Calls Try.prog 21 #[.int .i64 n, FV k l s a data.length cap] w fun e w' => OwnPost w w' e (packL n k l s data) := by
  have h24 := h.n0
  have h4096 := h.n1
  have hk1 := h.k1
  have hl1 := h.l1
  have hs1 := h.s1
  have hd1 := h.d1
  have HF : Hid (AllB data ∧ (a = none → cap = 0)) := ⟨hA, hnil⟩
  have k8 : (k : Int) % 256 = (k : Int) := by omega
  obtain ⟨H1, HH1⟩ : ∃ L, Hid (L = [165, k] ++ low 4 l ∧ L.length ≤ 1048576) := ⟨_, rfl, by simp [low_len]⟩
  obtain ⟨H2, HH2⟩ : ∃ L, Hid (L = H1 ++ low 8 s ∧ L.length ≤ 1048576) := ⟨_, rfl, by rw [HH1.out.1]; simp [low_len]⟩
  obtain ⟨H3, HH3⟩ : ∃ L, Hid (L = H2 ++ low 2 data.length ∧ L.length ≤ 1048576 ∧ L = headL k l s data.length) := ⟨_, rfl, by rw [HH2.out.1, HH1.out.1]; simp [low_len], by rw [HH2.out.1, HH1.out.1]; simp [headL]⟩
  obtain ⟨R2, HR2⟩ : ∃ L, Hid (L = (data ++ List.replicate (n - 21 - data.length) 0) ++ [90] ∧ L.length ≤ 1048576 ∧ L = restL n data) := ⟨_, rfl, by simp; omega, by simp [restL]⟩
  obtain ⟨B1, HB1⟩ : ∃ L, Hid (L = H3 ++ low 4 0 ∧ L.length ≤ 1048576) := ⟨_, rfl, by rw [HH3.out.2.2, List.length_append, headL_len, low_len]; omega⟩
  obtain ⟨B2, HB2⟩ : ∃ L, Hid (L = B1 ++ R2 ∧ L.length ≤ 1048576 ∧ L = bodyL n 0 k l s data ∧ AllB L) := by
    refine ⟨_, rfl, ?_, ?_⟩
    · rw [HB1.out.1, HH3.out.2.2, HR2.out.2.2, List.length_append, List.length_append, headL_len, low_len, restL_len n data hd1]; omega
    · have e : B1 ++ R2 = bodyL n 0 k l s data := by rw [HB1.out.1, HH3.out.2.2, HR2.out.2.2]; simp [bodyL]
      rw [e]
      exact ⟨rfl, bodyL_all n 0 k l s data (by omega) HF.out.1⟩
  obtain ⟨C, HC⟩ : ∃ C, Hid (crcOf B2 = C ∧ C < 4294967296) := ⟨_, rfl, crcOf_lt HB2.out.2.2.2⟩
  obtain ⟨O1, HO1⟩ : ∃ L, Hid (L = H3 ++ low 4 C ∧ L.length ≤ 1048576) := ⟨_, rfl, by rw [HH3.out.2.2, List.length_append, headL_len, low_len]; omega⟩
  obtain ⟨O2, HO2⟩ : ∃ L, Hid (L = O1 ++ R2 ∧ L.length ≤ 1048576 ∧ L = packL n k l s data) := by
    refine ⟨_, rfl, ?_, ?_⟩
    · rw [HO1.out.1, HH3.out.2.2, HR2.out.2.2, List.length_append, List.length_append, headL_len, low_len, restL_len n data hd1]; omega
    · rw [HO1.out.1, HH3.out.2.2, HR2.out.2.2, ← HC.out.1, HB2.out.2.2.1]; simp [packL, bodyL]
  have HE : Hid (O2 = packL n k l s data) := HO2.out.2.2
  rw [← HE.out]
  have hcb : C < 4294967296 := HC.out.2
  have hlow1 := fun wx => lowFirst_any l 4 wx (by omega) (by omega)
  have hlow2 := fun wx => lowFirst_any s 8 wx (by omega) (by omega)
  have hlow3 := fun wx => lowFirst_any data.length 2 wx (by omega) (by omega)
  have hlow4 := fun wx => lowFirst_any C 4 wx (by omega) (by omega)
  have HBX : Hid (BoxAt (w.alloc (boxF k l s a data.length cap)) w.heap.size k l s a data.length cap) := box_new w k l s a data.length cap
  have HLD : Hid (Lies (w.alloc (boxF k l s a data.length cap)) a data) := hL.below (alloc_below w _)
  have HBW : Hid (Below w.heap.size w (w.alloc (boxF k l s a data.length cap))) := alloc_below w _
  have HI0 : Hid (Below (w.alloc (boxF k l s a data.length cap)).heap.size (w.alloc (boxF k l s a data.length cap)) ((w.alloc (boxF k l s a data.length cap)).alloc (.cells #[.int .u8 165, .int .u8 (k : Int)] 5)) ∧
      OwnA ((w.alloc (boxF k l s a data.length cap)).alloc (.cells #[.int .u8 165, .int .u8 (k : Int)] 5)) (w.alloc (boxF k l s a data.length cap)).heap.size (some ⟨w.heap.size + 1, 0, none⟩) 2 [165, k]) :=
    ⟨alloc_below _ _, by
      have e : w.heap.size + 1 = (w.alloc (boxF k l s a data.length cap)).heap.size := by simp
      rw [e]
      exact own_new _ _ [165, k] (Nat.le_refl _) (by simp) _ rfl⟩
  clear h hA hnil hL
  go_enter Try.func21, Try.ntmps21
  go_wp2_with fail
  generalize w.alloc (boxF k l s a data.length cap) = wA at HBX HLD HBW HI0 ⊢
  have HFIN : Hid (∀ wx, Below wA.heap.size wA wx → Below w.heap.size w wx) := fun wx hx => HBW.out.trans (hx.mono HBW.out.size)
  refine (hlow1 _).mono ?_
  rintro e w1 ⟨a1, c1, rfl, hO, hB⟩
  have HI1 : Hid (Below wA.heap.size wA w1 ∧ OwnA w1 wA.heap.size (some ⟨w.heap.size + 1, 0, none⟩) 2 [165, k] ∧ Lies w1 a1 (low 4 l) ∧ (a1 = none → c1 = 0)) := ⟨HI0.out.1.trans (hB.mono HI0.out.1.size), HI0.out.2.below hB, hO.lies, hO.nil0⟩
  clear hO hB HI0
  go_wp2_with (at_builtin; refine app_step rfl (.tmp 18) (.tmp 19) rfl wA.heap.size (some ⟨w.heap.size + 1, 0, none⟩) 2 [165, k] (by rfl) HI1.out.2.1 a1 c1 (low 4 l) (by rfl) HI1.out.2.2.2 HI1.out.2.2.1 H1 HH1.out.1 HH1.out.2 HI1.out.1.size ?_)
  intro a2 c2 w2 hO hK
  have HI2 : Hid (Below wA.heap.size wA w2 ∧ OwnA w2 wA.heap.size a2 c2 H1) := ⟨HI1.out.1.trans (hK.below HI1.out.1.size (fun b hb => (HI1.out.2.1.ge hb).1)), hO⟩
  clear hO hK HI1
  have qc2 := (HBX.out.below HI2.out.1).c2
  go_wp2_with fail
  clear qc2
  refine (hlow2 _).mono ?_
  rintro e w3 ⟨a3, c3, rfl, hO, hB⟩
  have HI3 : Hid (Below wA.heap.size wA w3 ∧ OwnA w3 wA.heap.size a2 c2 H1 ∧ Lies w3 a3 (low 8 s) ∧ (a3 = none → c3 = 0)) := ⟨HI2.out.1.trans (hB.mono HI2.out.1.size), HI2.out.2.below hB, hO.lies, hO.nil0⟩
  clear hO hB HI2
  go_wp2_with (at_builtin; refine app_step rfl (.tmp 24) (.tmp 25) rfl wA.heap.size a2 c2 H1 (by rfl) HI3.out.2.1 a3 c3 (low 8 s) (by rfl) HI3.out.2.2.2 HI3.out.2.2.1 H2 HH2.out.1 HH2.out.2 HI3.out.1.size ?_)
  intro a4 c4 w4 hO hK
  have HI4 : Hid (Below wA.heap.size wA w4 ∧ OwnA w4 wA.heap.size a4 c4 H2) := ⟨HI3.out.1.trans (hK.below HI3.out.1.size (fun b hb => (HI3.out.2.1.ge hb).1)), hO⟩
  clear hO hK HI3
  have qc3 := (HBX.out.below HI4.out.1).c3
  go_wp2_with fail
  clear qc3
  refine (hlow3 _).mono ?_
  rintro e w5 ⟨a5, c5, rfl, hO, hB⟩
  have HI5 : Hid (Below wA.heap.size wA w5 ∧ OwnA w5 wA.heap.size a4 c4 H2 ∧ Lies w5 a5 (low 2 data.length) ∧ (a5 = none → c5 = 0)) := ⟨HI4.out.1.trans (hB.mono HI4.out.1.size), HI4.out.2.below hB, hO.lies, hO.nil0⟩
  clear hO hB HI4
  go_wp2_with (at_builtin; refine app_step rfl (.tmp 31) (.tmp 32) rfl wA.heap.size a4 c4 H2 (by rfl) HI5.out.2.1 a5 c5 (low 2 data.length) (by rfl) HI5.out.2.2.2 HI5.out.2.2.1 H3 HH3.out.1 HH3.out.2.1 HI5.out.1.size ?_)
  intro ah ch w7 hO hK
  have HI7 : Hid (Below wA.heap.size wA w7 ∧ OwnA w7 wA.heap.size ah ch H3) := ⟨HI5.out.1.trans (hK.below HI5.out.1.size (fun b hb => (HI5.out.2.1.ge hb).1)), hO⟩
  clear hO hK HI5
  have qc3 := (HBX.out.below HI7.out.1).c3
  -- the rest: memory behind w7
  have HA8 : Hid (∀ ob : Obj, Below w7.heap.size w7 (w7.alloc ob)) := fun ob => alloc_below w7 ob
  have HD8 : Hid (∀ wx, Below w7.heap.size w7 wx → Lies wx a data) := fun wx hx => HLD.out.below (HI7.out.1.trans (hx.mono HI7.out.1.size))
  have q8 := (HBX.out.below (HI7.out.1.trans ((HA8.out (.cells #[] 5)).mono HI7.out.1.size))).c3
  clear qc3
  go_wp2_with (at_builtin; refine app_step rfl (.tmp 34) (.tmp 36) rfl w7.heap.size (some ⟨w7.heap.size, 0, none⟩) 0 [] (by rfl) (own_new w7 w7.heap.size [] (Nat.le_refl _) (by simp) _ rfl) a cap data (by rfl) HF.out.2 (HD8.out _ (HA8.out _)) data rfl (by omega) (HA8.out _).size ?_)
  intro a8 c8 w8 hO hK
  have HI8 : Hid (Below w7.heap.size w7 w8 ∧ OwnA w8 w7.heap.size a8 c8 data) := ⟨(HA8.out _).trans (hK.below (HA8.out _).size (fun b hb => by obtain ⟨x, e, rfl⟩ := hb; cases e; exact Nat.le_refl _)), hO⟩
  clear hO hK q8
  go_wp2
  go_loopw [7] (fun t wr => ∃ (ys : List Nat) (ar : Option Addr) (cr : Nat), t = .slice ar ys.length cr ∧ ys.length ≤ n - 21 ∧ Hid (ys = data ++ List.replicate (ys.length - data.length) 0 ∧ data.length ≤ ys.length ∧ Below w7.heap.size w7 wr ∧ OwnA wr w7.heap.size ar cr ys)) (fun t _ => n - slen t)
  case atStart => exact ⟨data, a8, c8, rfl, by omega, by simp, Nat.le_refl _, HI8.out.1, HI8.out.2⟩
  case round =>
  obtain ⟨ys, ar, cr, rfl, hys, hr⟩ := hrel
  clear HI8
  by_cases hlt : ys.length < n - 21
  · have hI : (ys.length : Int) < (n : Int) - 21 := by omega
    have HA : Hid (Below wr.heap.size wr (wr.alloc (.cells #[.int .u8 0] 5)) ∧ Lies (wr.alloc (.cells #[.int .u8 0] 5)) (some ⟨wr.heap.size, 0, none⟩) [0]) := ⟨alloc_below _ _, (own_new wr wr.heap.size [0] (Nat.le_refl _) (by simp) _ rfl).lies⟩
    obtain ⟨zs, HZ⟩ : ∃ zs, Hid (zs = ys ++ [0] ∧ zs.length ≤ 1048576) := ⟨_, rfl, by simp; omega⟩
    have HB9 : Hid (Below w7.heap.size w7 (wr.alloc (.cells #[.int .u8 0] 5)) ∧ OwnA (wr.alloc (.cells #[.int .u8 0] 5)) w7.heap.size ar cr ys) := ⟨hr.out.2.2.1.trans (HA.out.1.mono hr.out.2.2.1.size), hr.out.2.2.2.below HA.out.1⟩
    have HY : Hid (zs.length = ys.length + 1 ∧ zs = data ++ List.replicate (zs.length - data.length) 0 ∧ data.length ≤ zs.length) := by
      have e : zs.length = ys.length + 1 := by rw [HZ.out.1]; simp
      refine ⟨e, ?_, by have := hr.out.2.1; omega⟩
      have h1 := hr.out.1
      have h2 := hr.out.2.1
      rw [e, HZ.out.1, show ys.length + 1 - data.length = (ys.length - data.length) + 1 by omega, List.replicate_succ', ← List.append_assoc, ← h1]
    clear hr
    go_wp2_with (at_builtin; refine app_step rfl (.tmp 43) (.tmp 44) rfl w7.heap.size ar cr ys (by rfl) HB9.out.2 (some ⟨wr.heap.size, 0, none⟩) 1 [0] (by rfl) (fun e => by cases e) HA.out.2 zs HZ.out.1 HZ.out.2 HB9.out.1.size ?_)
    intro a9 c9 w9 hO hK
    have HR : Hid (zs = data ++ List.replicate (zs.length - data.length) 0 ∧ data.length ≤ zs.length ∧ Below w7.heap.size w7 w9 ∧ OwnA w9 w7.heap.size a9 c9 zs) := ⟨HY.out.2.1, HY.out.2.2, HB9.out.1.trans (hK.below HB9.out.1.size (fun b hb => (HB9.out.2.ge hb).1)), hO⟩
    have hzl : zs.length = ys.length + 1 := HY.out.1
    clear hO hK HB9 HA
    go_wp2
    go_roundw
    case rel => exact ⟨zs, a9, c9, rfl, by omega, HR.out⟩
    case measure => simp [slen]; omega
  · have hI : ¬ (ys.length : Int) < (n : Int) - 21 := by omega
    have HY : Hid (R2 = ys ++ [90] ∧ R2.length ≤ 1048576) := by
      refine ⟨?_, HR2.out.2.1⟩
      have e : ys.length = n - 21 := by omega
      have h1 := hr.out.1
      rw [HR2.out.1, h1, e]
    have HA : Hid (Below wr.heap.size wr (wr.alloc (.cells #[.int .u8 90] 5)) ∧ Lies (wr.alloc (.cells #[.int .u8 90] 5)) (some ⟨wr.heap.size, 0, none⟩) [90]) := ⟨alloc_below _ _, (own_new wr wr.heap.size [90] (Nat.le_refl _) (by simp) _ rfl).lies⟩
    have HB9 : Hid (Below w7.heap.size w7 (wr.alloc (.cells #[.int .u8 90] 5)) ∧ OwnA (wr.alloc (.cells #[.int .u8 90] 5)) w7.heap.size ar cr ys) := ⟨hr.out.2.2.1.trans (HA.out.1.mono hr.out.2.2.1.size), hr.out.2.2.2.below HA.out.1⟩
    clear hr hlt
    go_wp2_with (at_builtin; refine app_step rfl (.tmp 46) (.tmp 47) rfl w7.heap.size ar cr ys (by rfl) HB9.out.2 (some ⟨wr.heap.size, 0, none⟩) 1 [90] (by rfl) (fun e => by cases e) HA.out.2 R2 HY.out.1 HY.out.2 HB9.out.1.size ?_)
    intro aq cq wq hO hK
    -- head and rest, memory behind wq is free
    have HQ : Hid (Below w7.heap.size w7 wq ∧ OwnA wq w7.heap.size aq cq R2 ∧ OwnA wq wA.heap.size ah ch H3 ∧ (∀ b, blk ah b → b < w7.heap.size) ∧ Below wA.heap.size wA wq) := by
      have h1 : Below w7.heap.size w7 wq := HB9.out.1.trans (hK.below HB9.out.1.size (fun b hb => (HB9.out.2.ge hb).1))
      exact ⟨h1, hO, HI7.out.2.below h1, fun b hb => (HI7.out.2.ge hb).2, HI7.out.1.trans (h1.mono HI7.out.1.size)⟩
    clear hO hK HB9 HA hys hI HY
    have HAq : Hid (∀ ob : Obj, Below wq.heap.size wq (wq.alloc ob)) := fun ob => alloc_below wq ob
    go_wp2_with (at_builtin; refine app_step rfl (.tmp 49) (.tmp 50) rfl wq.heap.size (some ⟨wq.heap.size, 0, none⟩) 0 [] (by rfl) (own_new wq wq.heap.size [] (Nat.le_refl _) (by simp) _ rfl) ah ch H3 (by rfl) HQ.out.2.2.1.nil0 (HQ.out.2.2.1.lies.below (HAq.out _)) H3 rfl HH3.out.2.1 (HAq.out _).size ?_)
    intro b1 d1 x1 hO hK
    have HX1 : Hid (Below wq.heap.size wq x1 ∧ OwnA x1 wq.heap.size b1 d1 H3) := ⟨(HAq.out _).trans (hK.below (HAq.out _).size (fun b hb => by obtain ⟨x, e, rfl⟩ := hb; cases e; exact Nat.le_refl _)), hO⟩
    clear hO hK
    have HX1A : Hid (Below wq.heap.size wq (x1.alloc (.cells #[.int .u8 0, .int .u8 0, .int .u8 0, .int .u8 0] 5)) ∧ OwnA (x1.alloc (.cells #[.int .u8 0, .int .u8 0, .int .u8 0, .int .u8 0] 5)) wq.heap.size b1 d1 H3 ∧ Lies (x1.alloc (.cells #[.int .u8 0, .int .u8 0, .int .u8 0, .int .u8 0] 5)) (some ⟨x1.heap.size, 0, none⟩) (low 4 0)) :=
      ⟨HX1.out.1.trans ((alloc_below x1 _).mono HX1.out.1.size), HX1.out.2.below (alloc_below x1 _), (own_new x1 x1.heap.size (low 4 0) (Nat.le_refl _) (by decide) _ rfl).lies⟩
    go_wp2_with (at_builtin; refine app_step rfl (.tmp 52) (.tmp 53) rfl wq.heap.size b1 d1 H3 (by rfl) HX1A.out.2.1 (some ⟨x1.heap.size, 0, none⟩) 4 (low 4 0) (by rfl) (fun e => by cases e) HX1A.out.2.2 B1 HB1.out.1 HB1.out.2 HX1A.out.1.size ?_)
    intro b2 d2 x2 hO hK
    have HX2 : Hid (Below wq.heap.size wq x2 ∧ OwnA x2 wq.heap.size b2 d2 B1) := ⟨HX1A.out.1.trans (hK.below HX1A.out.1.size (fun b hb => (HX1A.out.2.1.ge hb).1)), hO⟩
    clear hO hK HX1 HX1A
    go_wp2_with (at_builtin; refine app_step rfl (.tmp 55) (.tmp 56) rfl wq.heap.size b2 d2 B1 (by rfl) HX2.out.2 aq cq R2 (by rfl) HQ.out.2.1.nil0 (HQ.out.2.1.lies.below HX2.out.1) B2 HB2.out.1 HB2.out.2.1 HX2.out.1.size ?_)
    intro b3 d3 x3 hO hK
    have HX3 : Hid (Below wq.heap.size wq x3 ∧ Lies x3 b3 B2) := ⟨HX2.out.1.trans (hK.below HX2.out.1.size (fun b hb => (HX2.out.2.ge hb).1)), hO.lies⟩
    clear hO hK HX2
    have hcrc := refCrc_any b3 B2 d3 x3 (by have := HB2.out.2.1; omega) HB2.out.2.2.2 HX3.out.2
    rw [HC.out.1] at hcrc
    go_wp2_with fail
    refine hcrc.mono ?_
    rintro e x4 ⟨rfl, rfl⟩
    clear hcrc
    go_wp2_with fail
    refine (hlow4 _).mono ?_
    rintro e x5 ⟨b5, d5, rfl, hO, hB⟩
    have HX5 : Hid (Below wq.heap.size wq x5 ∧ Lies x5 b5 (low 4 C) ∧ (b5 = none → d5 = 0)) := ⟨HX3.out.1.trans (hB.mono HX3.out.1.size), hO.lies, hO.nil0⟩
    clear hO hB HX3
    have HX6 : Hid (OwnA x5 wA.heap.size ah ch H3 ∧ OwnA x5 w7.heap.size aq cq R2 ∧ Below wA.heap.size wA x5) := ⟨HQ.out.2.2.1.below HX5.out.1, HQ.out.2.1.below HX5.out.1, HQ.out.2.2.2.2.trans (HX5.out.1.mono HQ.out.2.2.2.2.size)⟩
    go_wp2_with (at_builtin; refine app_step rfl (.tmp 63) (.tmp 64) rfl wA.heap.size ah ch H3 (by rfl) HX6.out.1 b5 d5 (low 4 C) (by rfl) HX5.out.2.2 HX5.out.2.1 O1 HO1.out.1 HO1.out.2 HX6.out.2.2.size ?_)
    intro b6 d6 x6 hO hK
    have HX7 : Hid (OwnA x6 wA.heap.size b6 d6 O1 ∧ Lies x6 aq R2 ∧ (aq = none → cq = 0) ∧ Below wA.heap.size wA x6) :=
      ⟨hO, (HX6.out.2.1.keep hK (fun b hb h2 => by have h3 := HQ.out.2.2.2.1 b h2; have h4 := (HX6.out.2.1.ge hb).1; omega)).lies, HX6.out.2.1.nil0, HX6.out.2.2.trans (hK.below HX6.out.2.2.size (fun b hb => (HX6.out.1.ge hb).1))⟩
    clear hO hK HX6 HX5 HQ
    go_wp2_with (at_builtin; refine app_step rfl (.tmp 66) (.tmp 67) rfl wA.heap.size b6 d6 O1 (by rfl) HX7.out.1 aq cq R2 (by rfl) HX7.out.2.2.1 HX7.out.2.1 O2 HO2.out.1 HO2.out.2.1 HX7.out.2.2.2.size ?_)
    intro b7 d7 x7 hO hK
    have HX8 : Hid (OwnA x7 w.heap.size b7 d7 O2 ∧ Below w.heap.size w x7) := ⟨hO.base HBW.out.size, HFIN.out _ (HX7.out.2.2.2.trans (hK.below HX7.out.2.2.2.size (fun b hb => (HX7.out.1.ge hb).1)))⟩
    clear hO hK HX7
    go_wp2
    go_ret
    exact ⟨b7, d7, rfl, HX8.out⟩
end Go.Proofs.Ytfaphblninmioac

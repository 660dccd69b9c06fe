/-
  The walk of granarylaw1.CodeSums: it returns true, and nothing that was there has turned.
-/
import Derived.Test.YtgflkfbddiccaaaDoorFact
import Derived.Deep.RegionHeld3
import Derived.Deep.AppendLies
namespace Go.Proofs.YtgflkfbddiccaaaDoor
open Go.RowKit
set_option linter.unusedVariables false

theorem xor3_len : ∀ (x y z : List Nat) (n : Nat), x.length = n → y.length = n → z.length = n → (xor3 x y z).length = n
  | [], [], [], _, h, _, _ => by simpa [xor3] using h
  | a :: x, b :: y, c :: z, n, h1, h2, h3 => by
    cases n with
    | zero => simp at h1
    | succ n =>
      have := xor3_len x y z n (by simpa using h1) (by simpa using h2) (by simpa using h3)
      simp [xor3, this]
  | [], b :: y, _, n, h1, h2, _ => by simp at h1 h2; omega
  | [], [], c :: z, n, h1, _, h3 => by simp at h1 h3; omega
  | a :: x, [], _, n, h1, h2, _ => by simp at h1 h2; omega
  | a :: x, b :: y, [], n, h1, _, h3 => by simp at h1 h3; omega
theorem xor3_snoc : ∀ (x y z : List Nat) (a b c n : Nat), x.length = n → y.length = n → z.length = n → xor3 (x ++ [a]) (y ++ [b]) (z ++ [c]) = xor3 x y z ++ [a ^^^ b ^^^ c]
  | [], [], [], _, _, _, _, _, _, _ => rfl
  | a' :: x, b' :: y, c' :: z, a, b, c, n, h1, h2, h3 => by
    cases n with
    | zero => simp at h1
    | succ n =>
      have := xor3_snoc x y z a b c n (by simpa using h1) (by simpa using h2) (by simpa using h3)
      simp [xor3, this]
  | [], b' :: y, _, _, _, _, n, h1, h2, _ => by simp at h1 h2; omega
  | [], [], c' :: z, _, _, _, n, h1, _, h3 => by simp at h1 h3; omega
  | a' :: x, [], _, _, _, _, n, h1, h2, _ => by simp at h1 h2; omega
  | a' :: x, b' :: y, [], _, _, _, n, h1, _, h3 => by simp at h1 h3; omega
theorem xor256 {a b : Nat} (ha : a < 256) (hb : b < 256) : a ^^^ b < 256 := Nat.xor_lt_two_pow (n := 8) ha hb
theorem xor3_all : ∀ (x y z : List Nat), AllB x → AllB y → AllB z → AllB (xor3 x y z)
  | a :: x, b :: y, c :: z, h1, h2, h3 => by
    intro v hv
    simp only [xor3, List.mem_cons] at hv
    rcases hv with rfl | hv
    · exact xor256 (xor256 (h1 a (by simp)) (h2 b (by simp))) (h3 c (by simp))
    · exact xor3_all x y z (fun u hu => h1 u (by simp [hu])) (fun u hu => h2 u (by simp [hu])) (fun u hu => h3 u (by simp [hu])) v hv
  | [], _, _, _, _, _ => by intro v hv; simp [xor3] at hv
  | _ :: _, [], _, _, _, _ => by intro v hv; simp [xor3] at hv
  | _ :: _, _ :: _, [], _, _, _ => by intro v hv; simp [xor3] at hv
/-- What is summed of the first so many. -/
def sums3 (D1 D2 D3 : List Nat) (k : Nat) : List Nat := xor3 (D1.take k) (D2.take k) (D3.take k)
theorem sums3_len (D1 D2 D3 : List Nat) (k : Nat) (h1 : k ≤ D1.length) (h2 : k ≤ D2.length) (h3 : k ≤ D3.length) : (sums3 D1 D2 D3 k).length = k :=
  xor3_len _ _ _ k (by simp; omega) (by simp; omega) (by simp; omega)
theorem sums3_snoc (D1 D2 D3 : List Nat) (k : Nat) (h1 : k < D1.length) (h2 : k < D2.length) (h3 : k < D3.length) : sums3 D1 D2 D3 (k + 1) = sums3 D1 D2 D3 k ++ [D1[k]?.getD 0 ^^^ D2[k]?.getD 0 ^^^ D3[k]?.getD 0] := by
  unfold sums3
  rw [take_snocN D1 k h1, take_snocN D2 k h2, take_snocN D3 k h3, xor3_snoc _ _ _ _ _ _ k (by simp; omega) (by simp; omega) (by simp; omega)]
theorem Lies.take {w : World} {b off : Nat} {bs : List Nat} (h : Lies w (some ⟨b, off, none⟩) bs) (n : Nat) : Lies w (some ⟨b, off, none⟩) (bs.take n) := by
  rcases h with rfl | ⟨b', off', hbo, hc⟩
  · exact Or.inl (by simp)
  · cases hbo
    refine Or.inr ⟨b, off, rfl, fun i hi => ?_⟩
    have hi' : i < n ∧ i < bs.length := by rw [List.length_take] at hi; omega
    rw [hc i hi'.2, List.getElem?_take, if_pos hi'.1]
theorem crc_at (a : Option Addr) (bs : List Nat) (n cap X : Nat) (w : World) (hn : bs.length = n) (hm : n ≤ 140737488355328) (hz : AllB bs) (hc : Lies w a bs) (hX : crcOf bs = X) :
    Calls Tryd.prog 8 #[.slice a n cap] w fun e w' => e = .returned (.int .u32 (X : Nat)) ∧ w = w' := by
  subst hn
  subst hX
  exact (crc_any a bs cap w (by unfold maxLen; omega) hz hc).mono fun e w' ⟨h1, h2⟩ => ⟨h1, h2.symm⟩
theorem lies_owned {w : World} {base n cp : Nat} {ao : Option Addr} {X : List Nat} (h : w.ownsRow base 5 1 (.slice ao n cp) n (X.map bv)) (h0 : 0 < n) : ∃ g, ao = some ⟨g, 0, none⟩ ∧ base ≤ g ∧ Lies w (some ⟨g, 0, none⟩) X := by
  obtain ⟨g, cap, hv, hO⟩ := owns_form h (by intro e; cases e; omega)
  cases hv
  exact ⟨g, rfl, hO.le.1, hO.lies⟩
theorem turn_ne (X : List Nat) (K : Nat) (hX : AllB X) (hK : K < 8 * X.length) : crcOf (turnB X (K / 8) (K % 8)) ≠ crcOf X := by
  have hx := hX.at (K / 8)
  refine crcOf_set X (K / 8) _ hX (xor_lt256 hx (by omega)) (by omega) ?_
  intro h
  have hp : 0 < 2 ^ (K % 8) := Nat.two_pow_pos _
  have e : X[K / 8]?.getD 0 ^^^ (X[K / 8]?.getD 0 ^^^ 2 ^ (K % 8)) = X[K / 8]?.getD 0 ^^^ X[K / 8]?.getD 0 := by rw [h]
  rw [← Nat.xor_assoc, Nat.xor_self, Nat.zero_xor] at e
  omega
theorem turned_crc (g cp n : Nat) (X : List Nat) (at' : Int) (w : World) (hX : AllB X) (hn : X.length = n) (h0 : 0 < n) (hm : n ≤ 140737488355328) (ha : -9223372036854775808 ≤ at' ∧ at' < 9223372036854775808) (hc : Lies w (some ⟨g, 0, none⟩) X) :
    Calls Tryd.prog 18 #[.slice (some ⟨g, 0, none⟩) n cp, .slice none 0 0, .int .i64 at'] w fun e w' => ∃ TT g1 c1 g2 c2, AllB TT ∧ TT.length = n ∧ crcOf TT ≠ crcOf X ∧ e = .returned (.tuple #[.slice (some ⟨g1, 0, none⟩) n c1, .slice (some ⟨g2, 0, none⟩) 0 c2]) ∧ Lies w' (some ⟨g1, 0, none⟩) TT ∧ Below w.heap.size w w' := by
  subst hn
  have hlt := pickN_lt at' (8 * X.length) (by omega)
  refine (turned_nil g 0 cp X _ at' w h0 hX hm ha.1 ha.2 hc rfl).mono fun e w' ⟨g1, c1, g2, c2, h1, h2, h3, h4⟩ => ⟨_, g1, c1, g2, c2, turnB_all hX _ _ (by omega), turnB_len _ _ _, turn_ne X _ hX hlt, ?_, h2.lies, h4⟩
  rw [turnB_len] at h1
  exact h1

set_option maxRecDepth 100000 in
set_option maxHeartbeats 4000000 in
theorem sums_1 (b1 o1 cap1 b2 o2 cap2 b3 o3 cap3 : Nat) (D1 D2 D3 : List Nat) (at' : Int) (w : World) (hD1 : AllB D1) (hD2 : AllB D2) (hD3 : AllB D3)
    (hm1 : D1.length ≤ 140737488351232) (hm2 : D2.length ≤ 140737488351232) (hm3 : D3.length ≤ 140737488351232) (ha : -9223372036854775808 ≤ at' ∧ at' < 9223372036854775808) (hP : Plc w)
    (hL1 : Lies w (some ⟨b1, o1, none⟩) D1) (hL2 : Lies w (some ⟨b2, o2, none⟩) D2) (hL3 : Lies w (some ⟨b3, o3, none⟩) D3) (h0 : 0 < D1.length) (p1 : D1.length ≤ cap1) (p2 : D2.length ≤ cap2) (p3 : D3.length ≤ cap3) (c1 : ¬ D2.length < D1.length) (c2 : ¬ D3.length < D1.length) :
    Calls Tryd.prog 6 #[.slice (some ⟨b1, o1, none⟩) D1.length cap1, .slice (some ⟨b2, o2, none⟩) D2.length cap2, .slice (some ⟨b3, o3, none⟩) D3.length cap3, .int .i64 at'] w fun e w' => e = .returned (.bool true) ∧ Below w.heap.size w w' := by
  obtain ⟨i0, HI⟩ : ∃ i0, Hid (Tryd.prog.info? 5 = some i0 ∧ i0.zero = some (.int .u8 0) ∧ i0.size = 1 ∧ i0.bytes = 1) := info_parts info5
  have HA : Hid (-9223372036854775808 ≤ at' ∧ at' < 9223372036854775808) := ha
  have hle1 : D1.length ≤ D1.length := by omega
  have hle2 : D1.length ≤ D2.length := by omega
  have hle3 : D1.length ≤ D3.length := by omega
  have hp0 : (((D1.length : Nat) : Int) == 0) = false := by rw [beq_eq_false_iff_ne]; omega
  clear ha
  go_enter Tryd.func6, Tryd.ntmps6
  go_wp2_with fail
  refine (fact_any w hP).mono ?_
  rintro e w1 ⟨rfl, hb1⟩
  replace hL1 := hL1.below hb1
  replace hL2 := hL2.below hb1
  replace hL3 := hL3.below hb1
  have HB1 : Hid (Below w.heap.size w w1) := hb1
  have HL : Hid (Lies w1 (some ⟨b1, o1, none⟩) D1 ∧ Lies w1 (some ⟨b2, o2, none⟩) D2 ∧ Lies w1 (some ⟨b3, o3, none⟩) D3) := ⟨hL1, hL2, hL3⟩
  clear hb1 hP hL1 hL2 hL3
  go_wp2
  go_loopw [11, 12] (fun v j wr => ∃ k cp : Nat, ∃ ao : Option Addr, k ≤ D1.length ∧ j = .int .i64 k ∧ v = .slice ao k cp ∧ wr.ownsRow w1.heap.size 5 1 (.slice ao k cp) k ((sums3 D1 D2 D3 k).map bv) ∧ Below w1.heap.size w1 wr) (fun _ j _ => D1.length - (intOf j).toNat)
  case atStart => exact ⟨0, 0, none, by omega, rfl, rfl, World.ownsRow_nil _ _ _ _, Below.refl _ _⟩
  case round =>
    obtain ⟨k, cp, ao, hk, rfl, rfl, hown, hbr⟩ := hrel
    by_cases hlt : k < D1.length
    · obtain hno | ⟨_, _, hbo, hc1⟩ := HL.out.1.below hbr
      · have e : D1.length = 0 := by rw [hno]; rfl
        omega
      cases hbo
      obtain hno | ⟨_, _, hbo, hc2⟩ := HL.out.2.1.below hbr
      · have e : D2.length = 0 := by rw [hno]; rfl
        omega
      cases hbo
      obtain hno | ⟨_, _, hbo, hc3⟩ := HL.out.2.2.below hbr
      · have e : D3.length = 0 := by rw [hno]; rfl
        omega
      cases hbo
      have c1 := hc1 k (by omega)
      have c2 := hc2 k (by omega)
      have c3 := hc3 k (by omega)
      obtain hno | ⟨_, _, hbo, hd1⟩ := HL.out.1
      · have e : D1.length = 0 := by rw [hno]; rfl
        omega
      cases hbo
      have l1 : b1 < w1.heap.size := World.block_lt_of_cell? w1 _ (hd1 k (by omega))
      obtain hno | ⟨_, _, hbo, hd2⟩ := HL.out.2.1
      · have e : D2.length = 0 := by rw [hno]; rfl
        omega
      cases hbo
      have l2 : b2 < w1.heap.size := World.block_lt_of_cell? w1 _ (hd2 k (by omega))
      obtain hno | ⟨_, _, hbo, hd3⟩ := HL.out.2.2
      · have e : D3.length = 0 := by rw [hno]; rfl
        omega
      cases hbo
      have l3 : b3 < w1.heap.size := World.block_lt_of_cell? w1 _ (hd3 k (by omega))
      have hsz := hbr.size
      have hge : ∀ g, (Value.slice ao k cp).ownBlock = some g → w1.heap.size ≤ g := fun g hg => (World.ownsRow.lt hown g hg).1
      have n1 : (Value.slice ao k cp).ownBlock ≠ some b1 := fun h => by have := hge _ h; omega
      have n2 : (Value.slice ao k cp).ownBlock ≠ some b2 := fun h => by have := hge _ h; omega
      have n3 : (Value.slice ao k cp).ownBlock ≠ some b3 := fun h => by have := hge _ h; omega
      have z1 := hD1.at k
      have z2 := hD2.at k
      have z3 := hD3.at k
      have x12 := u8_xor_nat _ _ z1 z2
      have x123 := u8_xor_nat _ _ (xor256 z1 z2) z3
      have HS : Hid (sums3 D1 D2 D3 (k + 1) = sums3 D1 D2 D3 k ++ [D1[k]?.getD 0 ^^^ D2[k]?.getD 0 ^^^ D3[k]?.getD 0]) := sums3_snoc D1 D2 D3 k (by omega) (by omega) (by omega)
      generalize D1[k]?.getD 0 ^^^ D2[k]?.getD 0 ^^^ D3[k]?.getD 0 = X123 at x123 HS
      generalize D1[k]?.getD 0 ^^^ D2[k]?.getD 0 = X12 at x12 x123
      generalize D1[k]?.getD 0 = X1 at c1 x12
      generalize D2[k]?.getD 0 = X2 at c2 x12
      generalize D3[k]?.getD 0 = X3 at c3 x123
      have HO : Hid (wr.ownsRow w1.heap.size 5 1 (.slice ao k cp) k ((sums3 D1 D2 D3 k).map bv)) := hown
      have HBR : Hid (Below w1.heap.size w1 wr) := hbr
      have i1 : (0 : Int) ≤ (k : Int) := Int.natCast_nonneg _
      have i2 : (k : Int) < (D1.length : Int) := by omega
      have i3 : (k : Int) < (D2.length : Int) := by omega
      have i4 : (k : Int) < (D3.length : Int) := by omega
      have q1 : b1 < wr.heap.size := by omega
      have q2 : b2 < wr.heap.size := by omega
      have q3 : b3 < wr.heap.size := by omega
      clear hc1 hc2 hc3 hd1 hd2 hd3 hge hown hbr z1 z2 z3 HL HB1 HA l1 l2 l3
      go_wp2_with fail
      go_region_held3 (fun w' => w'.cell? ⟨b1, o1 + k, none⟩ = some (.int .u8 (X1 : Int)) ∧ w'.cell? ⟨b2, o2 + k, none⟩ = some (.int .u8 (X2 : Int)) ∧ w'.cell? ⟨b3, o3 + k, none⟩ = some (.int .u8 (X3 : Int)))
        (first
          | go_keep
          | (go_split_ands
             refine ⟨?_, ?_, ?_⟩
             · (rw [hgrow.cell_far _ (by simp; omega) (Ne.symm n1)]; assumption)
             · (rw [hgrow.cell_far _ (by simp; omega) (Ne.symm n2)]; assumption)
             · (rw [hgrow.cell_far _ (by simp; omega) (Ne.symm n3)]; assumption)))
        ((refine step_append_lies _ (by rfl) _ _ _ (by rfl) w1.heap.size 5 i0 _ 1 1 Tryd.underlying22 HI.out.1 HI.out.2.1 HI.out.2.2.1 HI.out.2.2.2 rfl (by omega) (.slice ao k cp) k ((sums3 D1 D2 D3 k).map bv) (by rfl) ((HO.out.alloc _).drew)
            ⟨wr.heap.size, 0, none⟩ 1 1 [.int .u8 (X123 : Int)] (by rfl) (by rfl) (World.news_of_block (cs := #[.int .u8 (X123 : Int)]) (t := 5) (fr := (0, 0)) (heap_alloc_new wr _)) (by simp [Value.oneCell'])
            (by omega) (by unfold maxLen; omega) (by omega) (by simp; omega) (wr.heap.size + 1) (by simp) ?_; intro gg cap w2 hown2 hgrow hat hlt2))
      have hown3 : w2.ownsRow w1.heap.size 5 1 (.slice (some ⟨gg, 0, none⟩) (k + 1) cap) (k + 1) ((sums3 D1 D2 D3 (k + 1)).map bv) := by
        rw [HS.out, List.map_append]; exact hown2
      have hbr2 : Below w1.heap.size w1 w2 := (HBR.out.alloc hsz _).drew.grown hgrow (by simp; omega) (fun g hg => (World.ownsRow.lt HO.out g hg).1)
      have HR : Hid (w2.ownsRow w1.heap.size 5 1 (.slice (some ⟨gg, 0, none⟩) (k + 1) cap) (k + 1) ((sums3 D1 D2 D3 (k + 1)).map bv) ∧ Below w1.heap.size w1 w2) := ⟨hown3, hbr2⟩
      clear hown2 hown3 hgrow hat hlt2 hbr2 x12 x123 c1 c2 c3 n1 n2 n3 q1 q2 q3
      go_wp2
      go_roundw
      case rel => exact ⟨k + 1, cap, some ⟨gg, 0, none⟩, by omega, by go_num, by go_num, HR.out.1, HR.out.2⟩
      case measure => simp [intOf]; omega
    · obtain rfl : k = D1.length := by omega
      obtain ⟨g, hao, hgb, hLd⟩ := lies_owned hown h0
      subst hao
      have hsl := sums3_len D1 D2 D3 D1.length hle1 hle2 hle3
      have hsa : AllB (sums3 D1 D2 D3 D1.length) := xor3_all _ _ _ (hD1.take _) (hD2.take _) (hD3.take _)
      have k1 := crc_at (some ⟨b1, o1, none⟩) (D1.take D1.length) D1.length cap1 _ wr (by rw [List.length_take]; omega) (by omega) (hD1.take _) ((HL.out.1.below hbr).take _) rfl
      have k2 := crc_at (some ⟨b2, o2, none⟩) (D2.take D1.length) D1.length cap2 _ wr (by rw [List.length_take]; omega) (by omega) (hD2.take _) ((HL.out.2.1.below hbr).take _) rfl
      have k3 := crc_at (some ⟨b3, o3, none⟩) (D3.take D1.length) D1.length cap3 _ wr (by rw [List.length_take]; omega) (by omega) (hD3.take _) ((HL.out.2.2.below hbr).take _) rfl
      have k4 := crc_at (some ⟨g, 0, none⟩) (sums3 D1 D2 D3 D1.length) D1.length cp _ wr hsl (by omega) hsa hLd rfl
      have k5 := turned_crc g cp D1.length (sums3 D1 D2 D3 D1.length) at' wr hsa hsl h0 (by omega) HA.out hLd
      have e4 : crcOf (sums3 D1 D2 D3 D1.length) = crcOf (D1.take D1.length) ^^^ crcOf (D2.take D1.length) ^^^ crcOf (D3.take D1.length) := crcOf_three _ _ _ (by rw [List.length_take, List.length_take]; omega) (by rw [List.length_take, List.length_take]; omega)
      have y1 := crcOf_lt (hD1.take D1.length)
      have y2 := crcOf_lt (hD2.take D1.length)
      have y3 := crcOf_lt (hD3.take D1.length)
      have x12 := u32_xor_nat _ _ y1 y2
      have x123 := u32_xor_nat _ _ (xor32 y1 y2) y3
      rw [← e4] at x123
      have HBR : Hid (Below w1.heap.size w1 wr) := hbr
      clear e4 hown hbr hLd hsa hsl HL hgb HI
      generalize crcOf (sums3 D1 D2 D3 D1.length) = Y4 at x123 k4 k5
      generalize crcOf (D1.take D1.length) ^^^ crcOf (D2.take D1.length) = Y12 at x12 x123
      generalize crcOf (D1.take D1.length) = Y1 at x12 k1 y1
      generalize crcOf (D2.take D1.length) = Y2 at x12 k2 y2
      generalize crcOf (D3.take D1.length) = Y3 at x123 k3 y3
      go_wp2_with fail
      refine k1.mono ?_
      rintro e w2 ⟨rfl, rfl⟩
      go_wp2_with fail
      refine k2.mono ?_
      rintro e w2 ⟨rfl, rfl⟩
      go_wp2_with fail
      refine k3.mono ?_
      rintro e w2 ⟨rfl, rfl⟩
      go_wp2_with fail
      refine k4.mono ?_
      rintro e w2 ⟨rfl, rfl⟩
      clear k1 k2 k3 k4
      go_wp2_with fail
      refine k5.mono ?_
      rintro e w5 ⟨TT, g1, c1, g2, c2, hTa, hTl, hTn, rfl, hLT, hb5⟩
      have k6 := crc_at (some ⟨g1, 0, none⟩) TT D1.length c1 _ w5 hTl (by omega) hTa hLT rfl
      have hne : (((crcOf TT : Nat) : Int) != ((Y4 : Nat) : Int)) = true := by rw [bne_iff_ne]; omega
      generalize crcOf TT = Y5 at k6 hne
      have HB5 : Hid (Below wr.heap.size wr w5) := hb5
      clear k5 hTa hTl hTn hLT hb5 x12 x123 y1 y2 y3
      go_wp2_with fail
      refine k6.mono ?_
      rintro e w2 ⟨rfl, rfl⟩
      go_wp2
      go_ret
      have hb01 := HB1.out.trans (HBR.out.mono HB1.out.size)
      refine ⟨?_, hb01.trans (HB5.out.mono hb01.size)⟩
      rfl

set_option maxRecDepth 100000 in
set_option maxHeartbeats 4000000 in
theorem sums_2 (b1 o1 cap1 b2 o2 cap2 b3 o3 cap3 : Nat) (D1 D2 D3 : List Nat) (at' : Int) (w : World) (hD1 : AllB D1) (hD2 : AllB D2) (hD3 : AllB D3)
    (hm1 : D1.length ≤ 140737488351232) (hm2 : D2.length ≤ 140737488351232) (hm3 : D3.length ≤ 140737488351232) (ha : -9223372036854775808 ≤ at' ∧ at' < 9223372036854775808) (hP : Plc w)
    (hL1 : Lies w (some ⟨b1, o1, none⟩) D1) (hL2 : Lies w (some ⟨b2, o2, none⟩) D2) (hL3 : Lies w (some ⟨b3, o3, none⟩) D3) (h0 : 0 < D2.length) (p1 : D1.length ≤ cap1) (p2 : D2.length ≤ cap2) (p3 : D3.length ≤ cap3) (c1 : D2.length < D1.length) (c2 : ¬ D3.length < D2.length) :
    Calls Tryd.prog 6 #[.slice (some ⟨b1, o1, none⟩) D1.length cap1, .slice (some ⟨b2, o2, none⟩) D2.length cap2, .slice (some ⟨b3, o3, none⟩) D3.length cap3, .int .i64 at'] w fun e w' => e = .returned (.bool true) ∧ Below w.heap.size w w' := by
  obtain ⟨i0, HI⟩ : ∃ i0, Hid (Tryd.prog.info? 5 = some i0 ∧ i0.zero = some (.int .u8 0) ∧ i0.size = 1 ∧ i0.bytes = 1) := info_parts info5
  have HA : Hid (-9223372036854775808 ≤ at' ∧ at' < 9223372036854775808) := ha
  have hle1 : D2.length ≤ D1.length := by omega
  have hle2 : D2.length ≤ D2.length := by omega
  have hle3 : D2.length ≤ D3.length := by omega
  have hp0 : (((D2.length : Nat) : Int) == 0) = false := by rw [beq_eq_false_iff_ne]; omega
  clear ha
  go_enter Tryd.func6, Tryd.ntmps6
  go_wp2_with fail
  refine (fact_any w hP).mono ?_
  rintro e w1 ⟨rfl, hb1⟩
  replace hL1 := hL1.below hb1
  replace hL2 := hL2.below hb1
  replace hL3 := hL3.below hb1
  have HB1 : Hid (Below w.heap.size w w1) := hb1
  have HL : Hid (Lies w1 (some ⟨b1, o1, none⟩) D1 ∧ Lies w1 (some ⟨b2, o2, none⟩) D2 ∧ Lies w1 (some ⟨b3, o3, none⟩) D3) := ⟨hL1, hL2, hL3⟩
  clear hb1 hP hL1 hL2 hL3
  go_wp2
  go_loopw [11, 12] (fun v j wr => ∃ k cp : Nat, ∃ ao : Option Addr, k ≤ D2.length ∧ j = .int .i64 k ∧ v = .slice ao k cp ∧ wr.ownsRow w1.heap.size 5 1 (.slice ao k cp) k ((sums3 D1 D2 D3 k).map bv) ∧ Below w1.heap.size w1 wr) (fun _ j _ => D2.length - (intOf j).toNat)
  case atStart => exact ⟨0, 0, none, by omega, rfl, rfl, World.ownsRow_nil _ _ _ _, Below.refl _ _⟩
  case round =>
    obtain ⟨k, cp, ao, hk, rfl, rfl, hown, hbr⟩ := hrel
    by_cases hlt : k < D2.length
    · obtain hno | ⟨_, _, hbo, hc1⟩ := HL.out.1.below hbr
      · have e : D1.length = 0 := by rw [hno]; rfl
        omega
      cases hbo
      obtain hno | ⟨_, _, hbo, hc2⟩ := HL.out.2.1.below hbr
      · have e : D2.length = 0 := by rw [hno]; rfl
        omega
      cases hbo
      obtain hno | ⟨_, _, hbo, hc3⟩ := HL.out.2.2.below hbr
      · have e : D3.length = 0 := by rw [hno]; rfl
        omega
      cases hbo
      have c1 := hc1 k (by omega)
      have c2 := hc2 k (by omega)
      have c3 := hc3 k (by omega)
      obtain hno | ⟨_, _, hbo, hd1⟩ := HL.out.1
      · have e : D1.length = 0 := by rw [hno]; rfl
        omega
      cases hbo
      have l1 : b1 < w1.heap.size := World.block_lt_of_cell? w1 _ (hd1 k (by omega))
      obtain hno | ⟨_, _, hbo, hd2⟩ := HL.out.2.1
      · have e : D2.length = 0 := by rw [hno]; rfl
        omega
      cases hbo
      have l2 : b2 < w1.heap.size := World.block_lt_of_cell? w1 _ (hd2 k (by omega))
      obtain hno | ⟨_, _, hbo, hd3⟩ := HL.out.2.2
      · have e : D3.length = 0 := by rw [hno]; rfl
        omega
      cases hbo
      have l3 : b3 < w1.heap.size := World.block_lt_of_cell? w1 _ (hd3 k (by omega))
      have hsz := hbr.size
      have hge : ∀ g, (Value.slice ao k cp).ownBlock = some g → w1.heap.size ≤ g := fun g hg => (World.ownsRow.lt hown g hg).1
      have n1 : (Value.slice ao k cp).ownBlock ≠ some b1 := fun h => by have := hge _ h; omega
      have n2 : (Value.slice ao k cp).ownBlock ≠ some b2 := fun h => by have := hge _ h; omega
      have n3 : (Value.slice ao k cp).ownBlock ≠ some b3 := fun h => by have := hge _ h; omega
      have z1 := hD1.at k
      have z2 := hD2.at k
      have z3 := hD3.at k
      have x12 := u8_xor_nat _ _ z1 z2
      have x123 := u8_xor_nat _ _ (xor256 z1 z2) z3
      have HS : Hid (sums3 D1 D2 D3 (k + 1) = sums3 D1 D2 D3 k ++ [D1[k]?.getD 0 ^^^ D2[k]?.getD 0 ^^^ D3[k]?.getD 0]) := sums3_snoc D1 D2 D3 k (by omega) (by omega) (by omega)
      generalize D1[k]?.getD 0 ^^^ D2[k]?.getD 0 ^^^ D3[k]?.getD 0 = X123 at x123 HS
      generalize D1[k]?.getD 0 ^^^ D2[k]?.getD 0 = X12 at x12 x123
      generalize D1[k]?.getD 0 = X1 at c1 x12
      generalize D2[k]?.getD 0 = X2 at c2 x12
      generalize D3[k]?.getD 0 = X3 at c3 x123
      have HO : Hid (wr.ownsRow w1.heap.size 5 1 (.slice ao k cp) k ((sums3 D1 D2 D3 k).map bv)) := hown
      have HBR : Hid (Below w1.heap.size w1 wr) := hbr
      have i1 : (0 : Int) ≤ (k : Int) := Int.natCast_nonneg _
      have i2 : (k : Int) < (D1.length : Int) := by omega
      have i3 : (k : Int) < (D2.length : Int) := by omega
      have i4 : (k : Int) < (D3.length : Int) := by omega
      have q1 : b1 < wr.heap.size := by omega
      have q2 : b2 < wr.heap.size := by omega
      have q3 : b3 < wr.heap.size := by omega
      clear hc1 hc2 hc3 hd1 hd2 hd3 hge hown hbr z1 z2 z3 HL HB1 HA l1 l2 l3
      go_wp2_with fail
      go_region_held3 (fun w' => w'.cell? ⟨b1, o1 + k, none⟩ = some (.int .u8 (X1 : Int)) ∧ w'.cell? ⟨b2, o2 + k, none⟩ = some (.int .u8 (X2 : Int)) ∧ w'.cell? ⟨b3, o3 + k, none⟩ = some (.int .u8 (X3 : Int)))
        (first
          | go_keep
          | (go_split_ands
             refine ⟨?_, ?_, ?_⟩
             · (rw [hgrow.cell_far _ (by simp; omega) (Ne.symm n1)]; assumption)
             · (rw [hgrow.cell_far _ (by simp; omega) (Ne.symm n2)]; assumption)
             · (rw [hgrow.cell_far _ (by simp; omega) (Ne.symm n3)]; assumption)))
        ((refine step_append_lies _ (by rfl) _ _ _ (by rfl) w1.heap.size 5 i0 _ 1 1 Tryd.underlying22 HI.out.1 HI.out.2.1 HI.out.2.2.1 HI.out.2.2.2 rfl (by omega) (.slice ao k cp) k ((sums3 D1 D2 D3 k).map bv) (by rfl) ((HO.out.alloc _).drew)
            ⟨wr.heap.size, 0, none⟩ 1 1 [.int .u8 (X123 : Int)] (by rfl) (by rfl) (World.news_of_block (cs := #[.int .u8 (X123 : Int)]) (t := 5) (fr := (0, 0)) (heap_alloc_new wr _)) (by simp [Value.oneCell'])
            (by omega) (by unfold maxLen; omega) (by omega) (by simp; omega) (wr.heap.size + 1) (by simp) ?_; intro gg cap w2 hown2 hgrow hat hlt2))
      have hown3 : w2.ownsRow w1.heap.size 5 1 (.slice (some ⟨gg, 0, none⟩) (k + 1) cap) (k + 1) ((sums3 D1 D2 D3 (k + 1)).map bv) := by
        rw [HS.out, List.map_append]; exact hown2
      have hbr2 : Below w1.heap.size w1 w2 := (HBR.out.alloc hsz _).drew.grown hgrow (by simp; omega) (fun g hg => (World.ownsRow.lt HO.out g hg).1)
      have HR : Hid (w2.ownsRow w1.heap.size 5 1 (.slice (some ⟨gg, 0, none⟩) (k + 1) cap) (k + 1) ((sums3 D1 D2 D3 (k + 1)).map bv) ∧ Below w1.heap.size w1 w2) := ⟨hown3, hbr2⟩
      clear hown2 hown3 hgrow hat hlt2 hbr2 x12 x123 c1 c2 c3 n1 n2 n3 q1 q2 q3
      go_wp2
      go_roundw
      case rel => exact ⟨k + 1, cap, some ⟨gg, 0, none⟩, by omega, by go_num, by go_num, HR.out.1, HR.out.2⟩
      case measure => simp [intOf]; omega
    · obtain rfl : k = D2.length := by omega
      obtain ⟨g, hao, hgb, hLd⟩ := lies_owned hown h0
      subst hao
      have hsl := sums3_len D1 D2 D3 D2.length hle1 hle2 hle3
      have hsa : AllB (sums3 D1 D2 D3 D2.length) := xor3_all _ _ _ (hD1.take _) (hD2.take _) (hD3.take _)
      have k1 := crc_at (some ⟨b1, o1, none⟩) (D1.take D2.length) D2.length cap1 _ wr (by rw [List.length_take]; omega) (by omega) (hD1.take _) ((HL.out.1.below hbr).take _) rfl
      have k2 := crc_at (some ⟨b2, o2, none⟩) (D2.take D2.length) D2.length cap2 _ wr (by rw [List.length_take]; omega) (by omega) (hD2.take _) ((HL.out.2.1.below hbr).take _) rfl
      have k3 := crc_at (some ⟨b3, o3, none⟩) (D3.take D2.length) D2.length cap3 _ wr (by rw [List.length_take]; omega) (by omega) (hD3.take _) ((HL.out.2.2.below hbr).take _) rfl
      have k4 := crc_at (some ⟨g, 0, none⟩) (sums3 D1 D2 D3 D2.length) D2.length cp _ wr hsl (by omega) hsa hLd rfl
      have k5 := turned_crc g cp D2.length (sums3 D1 D2 D3 D2.length) at' wr hsa hsl h0 (by omega) HA.out hLd
      have e4 : crcOf (sums3 D1 D2 D3 D2.length) = crcOf (D1.take D2.length) ^^^ crcOf (D2.take D2.length) ^^^ crcOf (D3.take D2.length) := crcOf_three _ _ _ (by rw [List.length_take, List.length_take]; omega) (by rw [List.length_take, List.length_take]; omega)
      have y1 := crcOf_lt (hD1.take D2.length)
      have y2 := crcOf_lt (hD2.take D2.length)
      have y3 := crcOf_lt (hD3.take D2.length)
      have x12 := u32_xor_nat _ _ y1 y2
      have x123 := u32_xor_nat _ _ (xor32 y1 y2) y3
      rw [← e4] at x123
      have HBR : Hid (Below w1.heap.size w1 wr) := hbr
      clear e4 hown hbr hLd hsa hsl HL hgb HI
      generalize crcOf (sums3 D1 D2 D3 D2.length) = Y4 at x123 k4 k5
      generalize crcOf (D1.take D2.length) ^^^ crcOf (D2.take D2.length) = Y12 at x12 x123
      generalize crcOf (D1.take D2.length) = Y1 at x12 k1 y1
      generalize crcOf (D2.take D2.length) = Y2 at x12 k2 y2
      generalize crcOf (D3.take D2.length) = Y3 at x123 k3 y3
      go_wp2_with fail
      refine k1.mono ?_
      rintro e w2 ⟨rfl, rfl⟩
      go_wp2_with fail
      refine k2.mono ?_
      rintro e w2 ⟨rfl, rfl⟩
      go_wp2_with fail
      refine k3.mono ?_
      rintro e w2 ⟨rfl, rfl⟩
      go_wp2_with fail
      refine k4.mono ?_
      rintro e w2 ⟨rfl, rfl⟩
      clear k1 k2 k3 k4
      go_wp2_with fail
      refine k5.mono ?_
      rintro e w5 ⟨TT, g1, c1, g2, c2, hTa, hTl, hTn, rfl, hLT, hb5⟩
      have k6 := crc_at (some ⟨g1, 0, none⟩) TT D2.length c1 _ w5 hTl (by omega) hTa hLT rfl
      have hne : (((crcOf TT : Nat) : Int) != ((Y4 : Nat) : Int)) = true := by rw [bne_iff_ne]; omega
      generalize crcOf TT = Y5 at k6 hne
      have HB5 : Hid (Below wr.heap.size wr w5) := hb5
      clear k5 hTa hTl hTn hLT hb5 x12 x123 y1 y2 y3
      go_wp2_with fail
      refine k6.mono ?_
      rintro e w2 ⟨rfl, rfl⟩
      go_wp2
      go_ret
      have hb01 := HB1.out.trans (HBR.out.mono HB1.out.size)
      refine ⟨?_, hb01.trans (HB5.out.mono hb01.size)⟩
      rfl

set_option maxRecDepth 100000 in
set_option maxHeartbeats 4000000 in
theorem sums_3 (b1 o1 cap1 b2 o2 cap2 b3 o3 cap3 : Nat) (D1 D2 D3 : List Nat) (at' : Int) (w : World) (hD1 : AllB D1) (hD2 : AllB D2) (hD3 : AllB D3)
    (hm1 : D1.length ≤ 140737488351232) (hm2 : D2.length ≤ 140737488351232) (hm3 : D3.length ≤ 140737488351232) (ha : -9223372036854775808 ≤ at' ∧ at' < 9223372036854775808) (hP : Plc w)
    (hL1 : Lies w (some ⟨b1, o1, none⟩) D1) (hL2 : Lies w (some ⟨b2, o2, none⟩) D2) (hL3 : Lies w (some ⟨b3, o3, none⟩) D3) (h0 : 0 < D3.length) (p1 : D1.length ≤ cap1) (p2 : D2.length ≤ cap2) (p3 : D3.length ≤ cap3) (c1 : ¬ D2.length < D1.length) (c2 : D3.length < D1.length) :
    Calls Tryd.prog 6 #[.slice (some ⟨b1, o1, none⟩) D1.length cap1, .slice (some ⟨b2, o2, none⟩) D2.length cap2, .slice (some ⟨b3, o3, none⟩) D3.length cap3, .int .i64 at'] w fun e w' => e = .returned (.bool true) ∧ Below w.heap.size w w' := by
  obtain ⟨i0, HI⟩ : ∃ i0, Hid (Tryd.prog.info? 5 = some i0 ∧ i0.zero = some (.int .u8 0) ∧ i0.size = 1 ∧ i0.bytes = 1) := info_parts info5
  have HA : Hid (-9223372036854775808 ≤ at' ∧ at' < 9223372036854775808) := ha
  have hle1 : D3.length ≤ D1.length := by omega
  have hle2 : D3.length ≤ D2.length := by omega
  have hle3 : D3.length ≤ D3.length := by omega
  have hp0 : (((D3.length : Nat) : Int) == 0) = false := by rw [beq_eq_false_iff_ne]; omega
  clear ha
  go_enter Tryd.func6, Tryd.ntmps6
  go_wp2_with fail
  refine (fact_any w hP).mono ?_
  rintro e w1 ⟨rfl, hb1⟩
  replace hL1 := hL1.below hb1
  replace hL2 := hL2.below hb1
  replace hL3 := hL3.below hb1
  have HB1 : Hid (Below w.heap.size w w1) := hb1
  have HL : Hid (Lies w1 (some ⟨b1, o1, none⟩) D1 ∧ Lies w1 (some ⟨b2, o2, none⟩) D2 ∧ Lies w1 (some ⟨b3, o3, none⟩) D3) := ⟨hL1, hL2, hL3⟩
  clear hb1 hP hL1 hL2 hL3
  go_wp2
  go_loopw [11, 12] (fun v j wr => ∃ k cp : Nat, ∃ ao : Option Addr, k ≤ D3.length ∧ j = .int .i64 k ∧ v = .slice ao k cp ∧ wr.ownsRow w1.heap.size 5 1 (.slice ao k cp) k ((sums3 D1 D2 D3 k).map bv) ∧ Below w1.heap.size w1 wr) (fun _ j _ => D3.length - (intOf j).toNat)
  case atStart => exact ⟨0, 0, none, by omega, rfl, rfl, World.ownsRow_nil _ _ _ _, Below.refl _ _⟩
  case round =>
    obtain ⟨k, cp, ao, hk, rfl, rfl, hown, hbr⟩ := hrel
    by_cases hlt : k < D3.length
    · obtain hno | ⟨_, _, hbo, hc1⟩ := HL.out.1.below hbr
      · have e : D1.length = 0 := by rw [hno]; rfl
        omega
      cases hbo
      obtain hno | ⟨_, _, hbo, hc2⟩ := HL.out.2.1.below hbr
      · have e : D2.length = 0 := by rw [hno]; rfl
        omega
      cases hbo
      obtain hno | ⟨_, _, hbo, hc3⟩ := HL.out.2.2.below hbr
      · have e : D3.length = 0 := by rw [hno]; rfl
        omega
      cases hbo
      have c1 := hc1 k (by omega)
      have c2 := hc2 k (by omega)
      have c3 := hc3 k (by omega)
      obtain hno | ⟨_, _, hbo, hd1⟩ := HL.out.1
      · have e : D1.length = 0 := by rw [hno]; rfl
        omega
      cases hbo
      have l1 : b1 < w1.heap.size := World.block_lt_of_cell? w1 _ (hd1 k (by omega))
      obtain hno | ⟨_, _, hbo, hd2⟩ := HL.out.2.1
      · have e : D2.length = 0 := by rw [hno]; rfl
        omega
      cases hbo
      have l2 : b2 < w1.heap.size := World.block_lt_of_cell? w1 _ (hd2 k (by omega))
      obtain hno | ⟨_, _, hbo, hd3⟩ := HL.out.2.2
      · have e : D3.length = 0 := by rw [hno]; rfl
        omega
      cases hbo
      have l3 : b3 < w1.heap.size := World.block_lt_of_cell? w1 _ (hd3 k (by omega))
      have hsz := hbr.size
      have hge : ∀ g, (Value.slice ao k cp).ownBlock = some g → w1.heap.size ≤ g := fun g hg => (World.ownsRow.lt hown g hg).1
      have n1 : (Value.slice ao k cp).ownBlock ≠ some b1 := fun h => by have := hge _ h; omega
      have n2 : (Value.slice ao k cp).ownBlock ≠ some b2 := fun h => by have := hge _ h; omega
      have n3 : (Value.slice ao k cp).ownBlock ≠ some b3 := fun h => by have := hge _ h; omega
      have z1 := hD1.at k
      have z2 := hD2.at k
      have z3 := hD3.at k
      have x12 := u8_xor_nat _ _ z1 z2
      have x123 := u8_xor_nat _ _ (xor256 z1 z2) z3
      have HS : Hid (sums3 D1 D2 D3 (k + 1) = sums3 D1 D2 D3 k ++ [D1[k]?.getD 0 ^^^ D2[k]?.getD 0 ^^^ D3[k]?.getD 0]) := sums3_snoc D1 D2 D3 k (by omega) (by omega) (by omega)
      generalize D1[k]?.getD 0 ^^^ D2[k]?.getD 0 ^^^ D3[k]?.getD 0 = X123 at x123 HS
      generalize D1[k]?.getD 0 ^^^ D2[k]?.getD 0 = X12 at x12 x123
      generalize D1[k]?.getD 0 = X1 at c1 x12
      generalize D2[k]?.getD 0 = X2 at c2 x12
      generalize D3[k]?.getD 0 = X3 at c3 x123
      have HO : Hid (wr.ownsRow w1.heap.size 5 1 (.slice ao k cp) k ((sums3 D1 D2 D3 k).map bv)) := hown
      have HBR : Hid (Below w1.heap.size w1 wr) := hbr
      have i1 : (0 : Int) ≤ (k : Int) := Int.natCast_nonneg _
      have i2 : (k : Int) < (D1.length : Int) := by omega
      have i3 : (k : Int) < (D2.length : Int) := by omega
      have i4 : (k : Int) < (D3.length : Int) := by omega
      have q1 : b1 < wr.heap.size := by omega
      have q2 : b2 < wr.heap.size := by omega
      have q3 : b3 < wr.heap.size := by omega
      clear hc1 hc2 hc3 hd1 hd2 hd3 hge hown hbr z1 z2 z3 HL HB1 HA l1 l2 l3
      go_wp2_with fail
      go_region_held3 (fun w' => w'.cell? ⟨b1, o1 + k, none⟩ = some (.int .u8 (X1 : Int)) ∧ w'.cell? ⟨b2, o2 + k, none⟩ = some (.int .u8 (X2 : Int)) ∧ w'.cell? ⟨b3, o3 + k, none⟩ = some (.int .u8 (X3 : Int)))
        (first
          | go_keep
          | (go_split_ands
             refine ⟨?_, ?_, ?_⟩
             · (rw [hgrow.cell_far _ (by simp; omega) (Ne.symm n1)]; assumption)
             · (rw [hgrow.cell_far _ (by simp; omega) (Ne.symm n2)]; assumption)
             · (rw [hgrow.cell_far _ (by simp; omega) (Ne.symm n3)]; assumption)))
        ((refine step_append_lies _ (by rfl) _ _ _ (by rfl) w1.heap.size 5 i0 _ 1 1 Tryd.underlying22 HI.out.1 HI.out.2.1 HI.out.2.2.1 HI.out.2.2.2 rfl (by omega) (.slice ao k cp) k ((sums3 D1 D2 D3 k).map bv) (by rfl) ((HO.out.alloc _).drew)
            ⟨wr.heap.size, 0, none⟩ 1 1 [.int .u8 (X123 : Int)] (by rfl) (by rfl) (World.news_of_block (cs := #[.int .u8 (X123 : Int)]) (t := 5) (fr := (0, 0)) (heap_alloc_new wr _)) (by simp [Value.oneCell'])
            (by omega) (by unfold maxLen; omega) (by omega) (by simp; omega) (wr.heap.size + 1) (by simp) ?_; intro gg cap w2 hown2 hgrow hat hlt2))
      have hown3 : w2.ownsRow w1.heap.size 5 1 (.slice (some ⟨gg, 0, none⟩) (k + 1) cap) (k + 1) ((sums3 D1 D2 D3 (k + 1)).map bv) := by
        rw [HS.out, List.map_append]; exact hown2
      have hbr2 : Below w1.heap.size w1 w2 := (HBR.out.alloc hsz _).drew.grown hgrow (by simp; omega) (fun g hg => (World.ownsRow.lt HO.out g hg).1)
      have HR : Hid (w2.ownsRow w1.heap.size 5 1 (.slice (some ⟨gg, 0, none⟩) (k + 1) cap) (k + 1) ((sums3 D1 D2 D3 (k + 1)).map bv) ∧ Below w1.heap.size w1 w2) := ⟨hown3, hbr2⟩
      clear hown2 hown3 hgrow hat hlt2 hbr2 x12 x123 c1 c2 c3 n1 n2 n3 q1 q2 q3
      go_wp2
      go_roundw
      case rel => exact ⟨k + 1, cap, some ⟨gg, 0, none⟩, by omega, by go_num, by go_num, HR.out.1, HR.out.2⟩
      case measure => simp [intOf]; omega
    · obtain rfl : k = D3.length := by omega
      obtain ⟨g, hao, hgb, hLd⟩ := lies_owned hown h0
      subst hao
      have hsl := sums3_len D1 D2 D3 D3.length hle1 hle2 hle3
      have hsa : AllB (sums3 D1 D2 D3 D3.length) := xor3_all _ _ _ (hD1.take _) (hD2.take _) (hD3.take _)
      have k1 := crc_at (some ⟨b1, o1, none⟩) (D1.take D3.length) D3.length cap1 _ wr (by rw [List.length_take]; omega) (by omega) (hD1.take _) ((HL.out.1.below hbr).take _) rfl
      have k2 := crc_at (some ⟨b2, o2, none⟩) (D2.take D3.length) D3.length cap2 _ wr (by rw [List.length_take]; omega) (by omega) (hD2.take _) ((HL.out.2.1.below hbr).take _) rfl
      have k3 := crc_at (some ⟨b3, o3, none⟩) (D3.take D3.length) D3.length cap3 _ wr (by rw [List.length_take]; omega) (by omega) (hD3.take _) ((HL.out.2.2.below hbr).take _) rfl
      have k4 := crc_at (some ⟨g, 0, none⟩) (sums3 D1 D2 D3 D3.length) D3.length cp _ wr hsl (by omega) hsa hLd rfl
      have k5 := turned_crc g cp D3.length (sums3 D1 D2 D3 D3.length) at' wr hsa hsl h0 (by omega) HA.out hLd
      have e4 : crcOf (sums3 D1 D2 D3 D3.length) = crcOf (D1.take D3.length) ^^^ crcOf (D2.take D3.length) ^^^ crcOf (D3.take D3.length) := crcOf_three _ _ _ (by rw [List.length_take, List.length_take]; omega) (by rw [List.length_take, List.length_take]; omega)
      have y1 := crcOf_lt (hD1.take D3.length)
      have y2 := crcOf_lt (hD2.take D3.length)
      have y3 := crcOf_lt (hD3.take D3.length)
      have x12 := u32_xor_nat _ _ y1 y2
      have x123 := u32_xor_nat _ _ (xor32 y1 y2) y3
      rw [← e4] at x123
      have HBR : Hid (Below w1.heap.size w1 wr) := hbr
      clear e4 hown hbr hLd hsa hsl HL hgb HI
      generalize crcOf (sums3 D1 D2 D3 D3.length) = Y4 at x123 k4 k5
      generalize crcOf (D1.take D3.length) ^^^ crcOf (D2.take D3.length) = Y12 at x12 x123
      generalize crcOf (D1.take D3.length) = Y1 at x12 k1 y1
      generalize crcOf (D2.take D3.length) = Y2 at x12 k2 y2
      generalize crcOf (D3.take D3.length) = Y3 at x123 k3 y3
      go_wp2_with fail
      refine k1.mono ?_
      rintro e w2 ⟨rfl, rfl⟩
      go_wp2_with fail
      refine k2.mono ?_
      rintro e w2 ⟨rfl, rfl⟩
      go_wp2_with fail
      refine k3.mono ?_
      rintro e w2 ⟨rfl, rfl⟩
      go_wp2_with fail
      refine k4.mono ?_
      rintro e w2 ⟨rfl, rfl⟩
      clear k1 k2 k3 k4
      go_wp2_with fail
      refine k5.mono ?_
      rintro e w5 ⟨TT, g1, c1, g2, c2, hTa, hTl, hTn, rfl, hLT, hb5⟩
      have k6 := crc_at (some ⟨g1, 0, none⟩) TT D3.length c1 _ w5 hTl (by omega) hTa hLT rfl
      have hne : (((crcOf TT : Nat) : Int) != ((Y4 : Nat) : Int)) = true := by rw [bne_iff_ne]; omega
      generalize crcOf TT = Y5 at k6 hne
      have HB5 : Hid (Below wr.heap.size wr w5) := hb5
      clear k5 hTa hTl hTn hLT hb5 x12 x123 y1 y2 y3
      go_wp2_with fail
      refine k6.mono ?_
      rintro e w2 ⟨rfl, rfl⟩
      go_wp2
      go_ret
      have hb01 := HB1.out.trans (HBR.out.mono HB1.out.size)
      refine ⟨?_, hb01.trans (HB5.out.mono hb01.size)⟩
      rfl

set_option maxRecDepth 100000 in
set_option maxHeartbeats 4000000 in
theorem sums_4 (b1 o1 cap1 b2 o2 cap2 b3 o3 cap3 : Nat) (D1 D2 D3 : List Nat) (at' : Int) (w : World) (hD1 : AllB D1) (hD2 : AllB D2) (hD3 : AllB D3)
    (hm1 : D1.length ≤ 140737488351232) (hm2 : D2.length ≤ 140737488351232) (hm3 : D3.length ≤ 140737488351232) (ha : -9223372036854775808 ≤ at' ∧ at' < 9223372036854775808) (hP : Plc w)
    (hL1 : Lies w (some ⟨b1, o1, none⟩) D1) (hL2 : Lies w (some ⟨b2, o2, none⟩) D2) (hL3 : Lies w (some ⟨b3, o3, none⟩) D3) (h0 : 0 < D3.length) (p1 : D1.length ≤ cap1) (p2 : D2.length ≤ cap2) (p3 : D3.length ≤ cap3) (c1 : D2.length < D1.length) (c2 : D3.length < D2.length) :
    Calls Tryd.prog 6 #[.slice (some ⟨b1, o1, none⟩) D1.length cap1, .slice (some ⟨b2, o2, none⟩) D2.length cap2, .slice (some ⟨b3, o3, none⟩) D3.length cap3, .int .i64 at'] w fun e w' => e = .returned (.bool true) ∧ Below w.heap.size w w' := by
  obtain ⟨i0, HI⟩ : ∃ i0, Hid (Tryd.prog.info? 5 = some i0 ∧ i0.zero = some (.int .u8 0) ∧ i0.size = 1 ∧ i0.bytes = 1) := info_parts info5
  have HA : Hid (-9223372036854775808 ≤ at' ∧ at' < 9223372036854775808) := ha
  have hle1 : D3.length ≤ D1.length := by omega
  have hle2 : D3.length ≤ D2.length := by omega
  have hle3 : D3.length ≤ D3.length := by omega
  have hp0 : (((D3.length : Nat) : Int) == 0) = false := by rw [beq_eq_false_iff_ne]; omega
  clear ha
  go_enter Tryd.func6, Tryd.ntmps6
  go_wp2_with fail
  refine (fact_any w hP).mono ?_
  rintro e w1 ⟨rfl, hb1⟩
  replace hL1 := hL1.below hb1
  replace hL2 := hL2.below hb1
  replace hL3 := hL3.below hb1
  have HB1 : Hid (Below w.heap.size w w1) := hb1
  have HL : Hid (Lies w1 (some ⟨b1, o1, none⟩) D1 ∧ Lies w1 (some ⟨b2, o2, none⟩) D2 ∧ Lies w1 (some ⟨b3, o3, none⟩) D3) := ⟨hL1, hL2, hL3⟩
  clear hb1 hP hL1 hL2 hL3
  go_wp2
  go_loopw [11, 12] (fun v j wr => ∃ k cp : Nat, ∃ ao : Option Addr, k ≤ D3.length ∧ j = .int .i64 k ∧ v = .slice ao k cp ∧ wr.ownsRow w1.heap.size 5 1 (.slice ao k cp) k ((sums3 D1 D2 D3 k).map bv) ∧ Below w1.heap.size w1 wr) (fun _ j _ => D3.length - (intOf j).toNat)
  case atStart => exact ⟨0, 0, none, by omega, rfl, rfl, World.ownsRow_nil _ _ _ _, Below.refl _ _⟩
  case round =>
    obtain ⟨k, cp, ao, hk, rfl, rfl, hown, hbr⟩ := hrel
    by_cases hlt : k < D3.length
    · obtain hno | ⟨_, _, hbo, hc1⟩ := HL.out.1.below hbr
      · have e : D1.length = 0 := by rw [hno]; rfl
        omega
      cases hbo
      obtain hno | ⟨_, _, hbo, hc2⟩ := HL.out.2.1.below hbr
      · have e : D2.length = 0 := by rw [hno]; rfl
        omega
      cases hbo
      obtain hno | ⟨_, _, hbo, hc3⟩ := HL.out.2.2.below hbr
      · have e : D3.length = 0 := by rw [hno]; rfl
        omega
      cases hbo
      have c1 := hc1 k (by omega)
      have c2 := hc2 k (by omega)
      have c3 := hc3 k (by omega)
      obtain hno | ⟨_, _, hbo, hd1⟩ := HL.out.1
      · have e : D1.length = 0 := by rw [hno]; rfl
        omega
      cases hbo
      have l1 : b1 < w1.heap.size := World.block_lt_of_cell? w1 _ (hd1 k (by omega))
      obtain hno | ⟨_, _, hbo, hd2⟩ := HL.out.2.1
      · have e : D2.length = 0 := by rw [hno]; rfl
        omega
      cases hbo
      have l2 : b2 < w1.heap.size := World.block_lt_of_cell? w1 _ (hd2 k (by omega))
      obtain hno | ⟨_, _, hbo, hd3⟩ := HL.out.2.2
      · have e : D3.length = 0 := by rw [hno]; rfl
        omega
      cases hbo
      have l3 : b3 < w1.heap.size := World.block_lt_of_cell? w1 _ (hd3 k (by omega))
      have hsz := hbr.size
      have hge : ∀ g, (Value.slice ao k cp).ownBlock = some g → w1.heap.size ≤ g := fun g hg => (World.ownsRow.lt hown g hg).1
      have n1 : (Value.slice ao k cp).ownBlock ≠ some b1 := fun h => by have := hge _ h; omega
      have n2 : (Value.slice ao k cp).ownBlock ≠ some b2 := fun h => by have := hge _ h; omega
      have n3 : (Value.slice ao k cp).ownBlock ≠ some b3 := fun h => by have := hge _ h; omega
      have z1 := hD1.at k
      have z2 := hD2.at k
      have z3 := hD3.at k
      have x12 := u8_xor_nat _ _ z1 z2
      have x123 := u8_xor_nat _ _ (xor256 z1 z2) z3
      have HS : Hid (sums3 D1 D2 D3 (k + 1) = sums3 D1 D2 D3 k ++ [D1[k]?.getD 0 ^^^ D2[k]?.getD 0 ^^^ D3[k]?.getD 0]) := sums3_snoc D1 D2 D3 k (by omega) (by omega) (by omega)
      generalize D1[k]?.getD 0 ^^^ D2[k]?.getD 0 ^^^ D3[k]?.getD 0 = X123 at x123 HS
      generalize D1[k]?.getD 0 ^^^ D2[k]?.getD 0 = X12 at x12 x123
      generalize D1[k]?.getD 0 = X1 at c1 x12
      generalize D2[k]?.getD 0 = X2 at c2 x12
      generalize D3[k]?.getD 0 = X3 at c3 x123
      have HO : Hid (wr.ownsRow w1.heap.size 5 1 (.slice ao k cp) k ((sums3 D1 D2 D3 k).map bv)) := hown
      have HBR : Hid (Below w1.heap.size w1 wr) := hbr
      have i1 : (0 : Int) ≤ (k : Int) := Int.natCast_nonneg _
      have i2 : (k : Int) < (D1.length : Int) := by omega
      have i3 : (k : Int) < (D2.length : Int) := by omega
      have i4 : (k : Int) < (D3.length : Int) := by omega
      have q1 : b1 < wr.heap.size := by omega
      have q2 : b2 < wr.heap.size := by omega
      have q3 : b3 < wr.heap.size := by omega
      clear hc1 hc2 hc3 hd1 hd2 hd3 hge hown hbr z1 z2 z3 HL HB1 HA l1 l2 l3
      go_wp2_with fail
      go_region_held3 (fun w' => w'.cell? ⟨b1, o1 + k, none⟩ = some (.int .u8 (X1 : Int)) ∧ w'.cell? ⟨b2, o2 + k, none⟩ = some (.int .u8 (X2 : Int)) ∧ w'.cell? ⟨b3, o3 + k, none⟩ = some (.int .u8 (X3 : Int)))
        (first
          | go_keep
          | (go_split_ands
             refine ⟨?_, ?_, ?_⟩
             · (rw [hgrow.cell_far _ (by simp; omega) (Ne.symm n1)]; assumption)
             · (rw [hgrow.cell_far _ (by simp; omega) (Ne.symm n2)]; assumption)
             · (rw [hgrow.cell_far _ (by simp; omega) (Ne.symm n3)]; assumption)))
        ((refine step_append_lies _ (by rfl) _ _ _ (by rfl) w1.heap.size 5 i0 _ 1 1 Tryd.underlying22 HI.out.1 HI.out.2.1 HI.out.2.2.1 HI.out.2.2.2 rfl (by omega) (.slice ao k cp) k ((sums3 D1 D2 D3 k).map bv) (by rfl) ((HO.out.alloc _).drew)
            ⟨wr.heap.size, 0, none⟩ 1 1 [.int .u8 (X123 : Int)] (by rfl) (by rfl) (World.news_of_block (cs := #[.int .u8 (X123 : Int)]) (t := 5) (fr := (0, 0)) (heap_alloc_new wr _)) (by simp [Value.oneCell'])
            (by omega) (by unfold maxLen; omega) (by omega) (by simp; omega) (wr.heap.size + 1) (by simp) ?_; intro gg cap w2 hown2 hgrow hat hlt2))
      have hown3 : w2.ownsRow w1.heap.size 5 1 (.slice (some ⟨gg, 0, none⟩) (k + 1) cap) (k + 1) ((sums3 D1 D2 D3 (k + 1)).map bv) := by
        rw [HS.out, List.map_append]; exact hown2
      have hbr2 : Below w1.heap.size w1 w2 := (HBR.out.alloc hsz _).drew.grown hgrow (by simp; omega) (fun g hg => (World.ownsRow.lt HO.out g hg).1)
      have HR : Hid (w2.ownsRow w1.heap.size 5 1 (.slice (some ⟨gg, 0, none⟩) (k + 1) cap) (k + 1) ((sums3 D1 D2 D3 (k + 1)).map bv) ∧ Below w1.heap.size w1 w2) := ⟨hown3, hbr2⟩
      clear hown2 hown3 hgrow hat hlt2 hbr2 x12 x123 c1 c2 c3 n1 n2 n3 q1 q2 q3
      go_wp2
      go_roundw
      case rel => exact ⟨k + 1, cap, some ⟨gg, 0, none⟩, by omega, by go_num, by go_num, HR.out.1, HR.out.2⟩
      case measure => simp [intOf]; omega
    · obtain rfl : k = D3.length := by omega
      obtain ⟨g, hao, hgb, hLd⟩ := lies_owned hown h0
      subst hao
      have hsl := sums3_len D1 D2 D3 D3.length hle1 hle2 hle3
      have hsa : AllB (sums3 D1 D2 D3 D3.length) := xor3_all _ _ _ (hD1.take _) (hD2.take _) (hD3.take _)
      have k1 := crc_at (some ⟨b1, o1, none⟩) (D1.take D3.length) D3.length cap1 _ wr (by rw [List.length_take]; omega) (by omega) (hD1.take _) ((HL.out.1.below hbr).take _) rfl
      have k2 := crc_at (some ⟨b2, o2, none⟩) (D2.take D3.length) D3.length cap2 _ wr (by rw [List.length_take]; omega) (by omega) (hD2.take _) ((HL.out.2.1.below hbr).take _) rfl
      have k3 := crc_at (some ⟨b3, o3, none⟩) (D3.take D3.length) D3.length cap3 _ wr (by rw [List.length_take]; omega) (by omega) (hD3.take _) ((HL.out.2.2.below hbr).take _) rfl
      have k4 := crc_at (some ⟨g, 0, none⟩) (sums3 D1 D2 D3 D3.length) D3.length cp _ wr hsl (by omega) hsa hLd rfl
      have k5 := turned_crc g cp D3.length (sums3 D1 D2 D3 D3.length) at' wr hsa hsl h0 (by omega) HA.out hLd
      have e4 : crcOf (sums3 D1 D2 D3 D3.length) = crcOf (D1.take D3.length) ^^^ crcOf (D2.take D3.length) ^^^ crcOf (D3.take D3.length) := crcOf_three _ _ _ (by rw [List.length_take, List.length_take]; omega) (by rw [List.length_take, List.length_take]; omega)
      have y1 := crcOf_lt (hD1.take D3.length)
      have y2 := crcOf_lt (hD2.take D3.length)
      have y3 := crcOf_lt (hD3.take D3.length)
      have x12 := u32_xor_nat _ _ y1 y2
      have x123 := u32_xor_nat _ _ (xor32 y1 y2) y3
      rw [← e4] at x123
      have HBR : Hid (Below w1.heap.size w1 wr) := hbr
      clear e4 hown hbr hLd hsa hsl HL hgb HI
      generalize crcOf (sums3 D1 D2 D3 D3.length) = Y4 at x123 k4 k5
      generalize crcOf (D1.take D3.length) ^^^ crcOf (D2.take D3.length) = Y12 at x12 x123
      generalize crcOf (D1.take D3.length) = Y1 at x12 k1 y1
      generalize crcOf (D2.take D3.length) = Y2 at x12 k2 y2
      generalize crcOf (D3.take D3.length) = Y3 at x123 k3 y3
      go_wp2_with fail
      refine k1.mono ?_
      rintro e w2 ⟨rfl, rfl⟩
      go_wp2_with fail
      refine k2.mono ?_
      rintro e w2 ⟨rfl, rfl⟩
      go_wp2_with fail
      refine k3.mono ?_
      rintro e w2 ⟨rfl, rfl⟩
      go_wp2_with fail
      refine k4.mono ?_
      rintro e w2 ⟨rfl, rfl⟩
      clear k1 k2 k3 k4
      go_wp2_with fail
      refine k5.mono ?_
      rintro e w5 ⟨TT, g1, c1, g2, c2, hTa, hTl, hTn, rfl, hLT, hb5⟩
      have k6 := crc_at (some ⟨g1, 0, none⟩) TT D3.length c1 _ w5 hTl (by omega) hTa hLT rfl
      have hne : (((crcOf TT : Nat) : Int) != ((Y4 : Nat) : Int)) = true := by rw [bne_iff_ne]; omega
      generalize crcOf TT = Y5 at k6 hne
      have HB5 : Hid (Below wr.heap.size wr w5) := hb5
      clear k5 hTa hTl hTn hLT hb5 x12 x123 y1 y2 y3
      go_wp2_with fail
      refine k6.mono ?_
      rintro e w2 ⟨rfl, rfl⟩
      go_wp2
      go_ret
      have hb01 := HB1.out.trans (HBR.out.mono HB1.out.size)
      refine ⟨?_, hb01.trans (HB5.out.mono hb01.size)⟩
      rfl

set_option maxHeartbeats 1600000 in
theorem sums_z1 (a1 a2 a3 : Option Addr) (cap1 cap2 cap3 n2 n3 : Nat) (at' : Int) (w : World) (hP : Plc w) (hm2 : n2 ≤ 140737488351232) (hm3 : n3 ≤ 140737488351232) :
    Calls Tryd.prog 6 #[.slice a1 0 cap1, .slice a2 n2 cap2, .slice a3 n3 cap3, .int .i64 at'] w fun e w' => e = .returned (.bool true) ∧ Below w.heap.size w w' := by
  have k0 := fun a cap wx => crc_at a [] 0 cap 0 wx rfl (by omega) (fun _ h => by simp at h) (Or.inl rfl) (by decide +kernel)
  have e0 : bits .xor .u32 (0 : Int) 0 = 0 := by decide +kernel
  go_enter Tryd.func6, Tryd.ntmps6
  go_wp2_with fail
  refine (fact_any w hP).mono ?_
  rintro e w1 ⟨rfl, hb1⟩
  go_wp2
  go_loop [11, 12] (fun v j => v = .slice none 0 0 ∧ j = .int .i64 0) (fun _ _ => 0)
  case atStart => exact ⟨rfl, rfl⟩
  case round =>
    obtain ⟨rfl, rfl⟩ := hrel
    go_wp2_with fail
    refine (k0 _ _ _).mono ?_
    rintro e w2 ⟨rfl, rfl⟩
    go_wp2_with fail
    refine (k0 _ _ _).mono ?_
    rintro e w2 ⟨rfl, rfl⟩
    go_wp2_with fail
    refine (k0 _ _ _).mono ?_
    rintro e w2 ⟨rfl, rfl⟩
    go_wp2_with fail
    refine (k0 _ _ _).mono ?_
    rintro e w2 ⟨rfl, rfl⟩
    go_wp2
    go_ret
    exact ⟨rfl, hb1⟩

set_option maxHeartbeats 1600000 in
theorem sums_z2 (a1 a2 a3 : Option Addr) (cap1 cap2 cap3 n1 n3 : Nat) (at' : Int) (w : World) (hP : Plc w) (hm1 : n1 ≤ 140737488351232) (hm3 : n3 ≤ 140737488351232) (h1 : 0 < n1) :
    Calls Tryd.prog 6 #[.slice a1 n1 cap1, .slice a2 0 cap2, .slice a3 n3 cap3, .int .i64 at'] w fun e w' => e = .returned (.bool true) ∧ Below w.heap.size w w' := by
  have k0 := fun a cap wx => crc_at a [] 0 cap 0 wx rfl (by omega) (fun _ h => by simp at h) (Or.inl rfl) (by decide +kernel)
  have e0 : bits .xor .u32 (0 : Int) 0 = 0 := by decide +kernel
  go_enter Tryd.func6, Tryd.ntmps6
  go_wp2_with fail
  refine (fact_any w hP).mono ?_
  rintro e w1 ⟨rfl, hb1⟩
  go_wp2
  go_loop [11, 12] (fun v j => v = .slice none 0 0 ∧ j = .int .i64 0) (fun _ _ => 0)
  case atStart => exact ⟨rfl, rfl⟩
  case round =>
    obtain ⟨rfl, rfl⟩ := hrel
    go_wp2_with fail
    refine (k0 _ _ _).mono ?_
    rintro e w2 ⟨rfl, rfl⟩
    go_wp2_with fail
    refine (k0 _ _ _).mono ?_
    rintro e w2 ⟨rfl, rfl⟩
    go_wp2_with fail
    refine (k0 _ _ _).mono ?_
    rintro e w2 ⟨rfl, rfl⟩
    go_wp2_with fail
    refine (k0 _ _ _).mono ?_
    rintro e w2 ⟨rfl, rfl⟩
    go_wp2
    go_ret
    exact ⟨rfl, hb1⟩

set_option maxHeartbeats 1600000 in
theorem sums_z3 (a1 a2 a3 : Option Addr) (cap1 cap2 cap3 n1 n2 : Nat) (at' : Int) (w : World) (hP : Plc w) (hm1 : n1 ≤ 140737488351232) (hm2 : n2 ≤ 140737488351232) (h1 : n2 < n1) (h2 : 0 < n2) :
    Calls Tryd.prog 6 #[.slice a1 n1 cap1, .slice a2 n2 cap2, .slice a3 0 cap3, .int .i64 at'] w fun e w' => e = .returned (.bool true) ∧ Below w.heap.size w w' := by
  have k0 := fun a cap wx => crc_at a [] 0 cap 0 wx rfl (by omega) (fun _ h => by simp at h) (Or.inl rfl) (by decide +kernel)
  have e0 : bits .xor .u32 (0 : Int) 0 = 0 := by decide +kernel
  go_enter Tryd.func6, Tryd.ntmps6
  go_wp2_with fail
  refine (fact_any w hP).mono ?_
  rintro e w1 ⟨rfl, hb1⟩
  go_wp2
  go_loop [11, 12] (fun v j => v = .slice none 0 0 ∧ j = .int .i64 0) (fun _ _ => 0)
  case atStart => exact ⟨rfl, rfl⟩
  case round =>
    obtain ⟨rfl, rfl⟩ := hrel
    go_wp2_with fail
    refine (k0 _ _ _).mono ?_
    rintro e w2 ⟨rfl, rfl⟩
    go_wp2_with fail
    refine (k0 _ _ _).mono ?_
    rintro e w2 ⟨rfl, rfl⟩
    go_wp2_with fail
    refine (k0 _ _ _).mono ?_
    rintro e w2 ⟨rfl, rfl⟩
    go_wp2_with fail
    refine (k0 _ _ _).mono ?_
    rintro e w2 ⟨rfl, rfl⟩
    go_wp2
    go_ret
    exact ⟨rfl, hb1⟩

set_option maxHeartbeats 1600000 in
theorem sums_z4 (a1 a2 a3 : Option Addr) (cap1 cap2 cap3 n1 n2 : Nat) (at' : Int) (w : World) (hP : Plc w) (hm1 : n1 ≤ 140737488351232) (hm2 : n2 ≤ 140737488351232) (h1 : ¬ n2 < n1) (h2 : 0 < n1) :
    Calls Tryd.prog 6 #[.slice a1 n1 cap1, .slice a2 n2 cap2, .slice a3 0 cap3, .int .i64 at'] w fun e w' => e = .returned (.bool true) ∧ Below w.heap.size w w' := by
  have k0 := fun a cap wx => crc_at a [] 0 cap 0 wx rfl (by omega) (fun _ h => by simp at h) (Or.inl rfl) (by decide +kernel)
  have e0 : bits .xor .u32 (0 : Int) 0 = 0 := by decide +kernel
  go_enter Tryd.func6, Tryd.ntmps6
  go_wp2_with fail
  refine (fact_any w hP).mono ?_
  rintro e w1 ⟨rfl, hb1⟩
  go_wp2
  go_loop [11, 12] (fun v j => v = .slice none 0 0 ∧ j = .int .i64 0) (fun _ _ => 0)
  case atStart => exact ⟨rfl, rfl⟩
  case round =>
    obtain ⟨rfl, rfl⟩ := hrel
    go_wp2_with fail
    refine (k0 _ _ _).mono ?_
    rintro e w2 ⟨rfl, rfl⟩
    go_wp2_with fail
    refine (k0 _ _ _).mono ?_
    rintro e w2 ⟨rfl, rfl⟩
    go_wp2_with fail
    refine (k0 _ _ _).mono ?_
    rintro e w2 ⟨rfl, rfl⟩
    go_wp2_with fail
    refine (k0 _ _ _).mono ?_
    rintro e w2 ⟨rfl, rfl⟩
    go_wp2
    go_ret
    exact ⟨rfl, hb1⟩

theorem sums_any (a1 a2 a3 : Option Addr) (cap1 cap2 cap3 : Nat) (D1 D2 D3 : List Nat) (at' : Int) (w : World) (hD1 : AllB D1) (hD2 : AllB D2) (hD3 : AllB D3)
    (hm1 : D1.length ≤ 140737488351232) (hm2 : D2.length ≤ 140737488351232) (hm3 : D3.length ≤ 140737488351232) (ha : -9223372036854775808 ≤ at' ∧ at' < 9223372036854775808) (hP : Plc w)
    (hL1 : Lies w a1 D1) (hL2 : Lies w a2 D2) (hL3 : Lies w a3 D3) (p1 : D1.length ≤ cap1) (p2 : D2.length ≤ cap2) (p3 : D3.length ≤ cap3) :
    Calls Tryd.prog 6 #[.slice a1 D1.length cap1, .slice a2 D2.length cap2, .slice a3 D3.length cap3, .int .i64 at'] w fun e w' => e = .returned (.bool true) ∧ Below w.heap.size w w' := by
  by_cases z1 : D1.length = 0
  · rw [z1]; exact sums_z1 a1 a2 a3 cap1 cap2 cap3 _ _ at' w hP hm2 hm3
  by_cases z2 : D2.length = 0
  · rw [z2]; exact sums_z2 a1 a2 a3 cap1 cap2 cap3 _ _ at' w hP hm1 hm3 (by omega)
  by_cases z3 : D3.length = 0
  · rw [z3]
    by_cases h : D2.length < D1.length
    · exact sums_z3 a1 a2 a3 cap1 cap2 cap3 _ _ at' w hP hm1 hm2 h (by omega)
    · exact sums_z4 a1 a2 a3 cap1 cap2 cap3 _ _ at' w hP hm1 hm2 h (by omega)
  have hL1' := hL1
  have hL2' := hL2
  have hL3' := hL3
  rcases hL1' with h | ⟨b1, o1, rfl, _⟩
  · rw [h] at z1; exact absurd rfl z1
  rcases hL2' with h | ⟨b2, o2, rfl, _⟩
  · rw [h] at z2; exact absurd rfl z2
  rcases hL3' with h | ⟨b3, o3, rfl, _⟩
  · rw [h] at z3; exact absurd rfl z3
  by_cases h : D2.length < D1.length
  · by_cases h2 : D3.length < D2.length
    · exact sums_4 b1 o1 cap1 b2 o2 cap2 b3 o3 cap3 D1 D2 D3 at' w hD1 hD2 hD3 hm1 hm2 hm3 ha hP hL1 hL2 hL3 (by omega) p1 p2 p3 h h2
    · exact sums_2 b1 o1 cap1 b2 o2 cap2 b3 o3 cap3 D1 D2 D3 at' w hD1 hD2 hD3 hm1 hm2 hm3 ha hP hL1 hL2 hL3 (by omega) p1 p2 p3 h h2
  · by_cases h2 : D3.length < D1.length
    · exact sums_3 b1 o1 cap1 b2 o2 cap2 b3 o3 cap3 D1 D2 D3 at' w hD1 hD2 hD3 hm1 hm2 hm3 ha hP hL1 hL2 hL3 (by omega) p1 p2 p3 h h2
    · exact sums_1 b1 o1 cap1 b2 o2 cap2 b3 o3 cap3 D1 D2 D3 at' w hD1 hD2 hD3 hm1 hm2 hm3 ha hP hL1 hL2 hL3 (by omega) p1 p2 p3 h h2
end Go.Proofs.YtgflkfbddiccaaaDoor

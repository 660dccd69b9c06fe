/- Part of the proof. -/
import Derived.Test.YtobpjijdebnaoaaDoorQ2
namespace Go.Proofs.YtobpjijdebnaoaaDoorQ
open Go.Proofs.YtobpjijdebnaoaaDoorM
open Go.RowKit
set_option linter.unusedVariables false
theorem alloc_below' (w : World) (o : Obj) : Below w.heap.size w (w.alloc o) := (Below.refl _ _).alloc (Nat.le_refl _) o
/-- Bytes of the call's own come back. -/
def ClonePost (w w' : World) (e : Ending) (ys : List Nat) : Prop := ∃ a cap, e = .returned (.slice a ys.length cap) ∧ OwnA w' w.heap.size a cap ys ∧ Below w.heap.size w w'
set_option maxRecDepth 20000 in
set_option maxHeartbeats 800000 in
theorem clone_any (x : Addr) (c : Nat) (ys : List Nat) (w : World) (hm : ys.length ≤ 1048576) (hL : Lies w (some x) ys) :
    Calls (Al.progOf Tryd.prog) 37 #[.slice (some x) ys.length c] w fun e w' => ClonePost w w' e ys := by
  have he : ∀ w : World, (binOp .eql 22 (.slice (some x) ys.length c) (.slice none 0 0)).run (Al.progOf Tryd.prog) w = .ok (.bool false) w := fun _ => rfl
  have HA : Hid (Below w.heap.size w (w.alloc (.cells #[] 5)) ∧ Lies (w.alloc (.cells #[] 5)) (some x) ys) := ⟨alloc_below' w _, hL.below (alloc_below' w _)⟩
  have HM : Hid (ys.length ≤ 1048576) := hm
  clear hL hm
  go_enter Al.func37, Tryd.ntmps37
  go_wp2_with (at_builtin; refine app_step rfl (.tmp 5) (.tmp 6) rfl w.heap.size (some ⟨w.heap.size, 0, none⟩) 0 [] (by rfl) (own_new w w.heap.size [] (Nat.le_refl _) (by simp) _ rfl) (some x) c ys (by rfl) (fun e => by cases e) HA.out.2 ys rfl HM.out HA.out.1.size ?_)
  intro a1 c1 w1 hO hK
  have HR : Hid (OwnA w1 w.heap.size a1 c1 ys ∧ Below w.heap.size w w1) := ⟨hO, HA.out.1.trans (hK.below HA.out.1.size (fun b hb => by obtain ⟨x, e, rfl⟩ := hb; cases e; exact Nat.le_refl _))⟩
  clear hO hK HA
  go_wp2
  go_ret
  exact ⟨a1, c1, rfl, HR.out⟩
theorem cutL_len {p : List Nat} {o k : Nat} (h : o + k ≤ p.length) : (cutL p o k).length = k := by unfold cutL; rw [List.length_take, List.length_drop]; omega
theorem cutL_all {p : List Nat} {o k : Nat} (h : AllB p) : AllB (cutL p o k) := fun x hx => h x (List.mem_of_mem_drop (List.mem_of_mem_take hx))
theorem cut_cells {w : World} {b off : Nat} {p : List Nat} (hc : ∀ i, i < p.length → w.cell? ⟨b, off + i, none⟩ = some (.int .u8 ((p[i]?.getD 0 : Nat) : Int))) (o k : Nat) (h : o + k ≤ p.length) : ∀ i, i < (cutL p o k).length → w.cell? ⟨b, off + o + i, none⟩ = some (.int .u8 (((cutL p o k)[i]?.getD 0 : Nat) : Int)) := fun i hi => by
  rw [cutL_len h] at hi
  have e : (cutL p o k)[i]?.getD 0 = p[o + i]?.getD 0 := by unfold cutL; rw [List.getElem?_take, if_pos hi, List.getElem?_drop]
  rw [e, Nat.add_assoc]
  exact hc (o + i) (by omega)
theorem Lies.some_of {w : World} {a : Option Addr} {p : List Nat} (h : Lies w a p) (h0 : 0 < p.length) : ∃ b off, a = some ⟨b, off, none⟩ ∧ ∀ i, i < p.length → w.cell? ⟨b, off + i, none⟩ = some (.int .u8 ((p[i]?.getD 0 : Nat) : Int)) := by
  rcases h with h | h
  · rw [h] at h0; exact absurd h0 (Nat.not_lt_zero _)
  · exact h
theorem far {w : World} {b o b' o' : Nat} (u : Value) (h : ¬ (b = b' ∧ o = o')) : (w.setCell ⟨b, o, none⟩ u).cell? ⟨b', o', none⟩ = w.cell? ⟨b', o', none⟩ :=
  World.cell?_setCell_other w _ _ u (fun e => h (by cases e; exact ⟨rfl, rfl⟩))
theorem box_set {w : World} {b : Nat} {k l s : Int} {a : Option Addr} {m c : Nat} (h : BoxAt w b k l s a m c) (u0 u1 u2 u3 : Value) :
    (w.setCell ⟨b, 0, none⟩ u0).cell? ⟨b, 0, none⟩ = some u0 ∧ ((w.setCell ⟨b, 0, none⟩ u0).setCell ⟨b, 1, none⟩ u1).cell? ⟨b, 1, none⟩ = some u1 ∧
    (((w.setCell ⟨b, 0, none⟩ u0).setCell ⟨b, 1, none⟩ u1).setCell ⟨b, 2, none⟩ u2).cell? ⟨b, 2, none⟩ = some u2 ∧
    ((((w.setCell ⟨b, 0, none⟩ u0).setCell ⟨b, 1, none⟩ u1).setCell ⟨b, 2, none⟩ u2).setCell ⟨b, 3, none⟩ u3).cell? ⟨b, 3, none⟩ = some u3 := by
  refine ⟨World.cell?_setCell_same _ _ _ h.c0, World.cell?_setCell_same _ _ _ (u := .int .i64 l) ?_, World.cell?_setCell_same _ _ _ (u := .int .i64 s) ?_, World.cell?_setCell_same _ _ _ (u := .slice a m c) ?_⟩
  · rw [far _ (by omega)]; exact h.c1
  · rw [far _ (by omega), far _ (by omega)]; exact h.c2
  · rw [far _ (by omega), far _ (by omega), far _ (by omega)]; exact h.c3
/-- The zero frame. -/
abbrev F0 : Value := FV 0 0 0 none 0 0
set_option maxHeartbeats 800000 in
theorem unpack_size (a : Option Addr) (n cap : Nat) (w : World) (h : ¬ (24 ≤ (n : Int) ∧ (n : Int) ≤ 4096)) :
    Calls (Al.progOf Tryd.prog) 22 #[.slice a n cap] w fun e w' => e = .returned (.tuple #[F0, .bool false]) ∧ Below w.heap.size w w' := by
  have HB : Hid (∀ o, Below w.heap.size w (w.alloc o)) := fun o => alloc_below' w o
  have hs := fun wx => isSize_any (n : Int) wx
  rw [size_no h] at hs
  clear h
  go_enter Al.func22, Tryd.ntmps22
  go_wp2_with fail
  refine (hs _).mono ?_
  rintro e w1 ⟨rfl, rfl⟩
  go_wp2_with fail
  refine bodyPost_ret (v := .tuple #[F0, .bool false]) (by simp [results, Tryd.results22, go_sem]) rfl ?_
  exact ⟨rfl, HB.out _⟩
set_option maxHeartbeats 800000 in
theorem unpack_long (a : Option Addr) (p : List Nat) (cap : Nat) (w : World) (h1 : 24 ≤ p.length) (h2 : p.length ≤ 4096) (hcap : p.length ≤ cap) (hA : AllB p) (hL : Lies w a p) (h : ¬ longP p + 21 ≤ p.length) :
    Calls (Al.progOf Tryd.prog) 22 #[.slice a p.length cap] w fun e w' => e = .returned (.tuple #[F0, .bool false]) ∧ Below w.heap.size w w' := by
  obtain ⟨b, off, rfl, hc⟩ := hL.some_of (by omega)
  have HB : Hid (∀ o, Below w.heap.size w (w.alloc o)) := fun o => alloc_below' w o
  have hs := fun wx => isSize_any (p.length : Int) wx
  rw [size_yes (by omega)] at hs
  have hlt := num_lt (cutL p 14 2) (cutL_all hA)
  rw [cutL_len (by omega)] at hlt
  have hlt' : longP p < 65536 := hlt
  have hnum : ∀ o c, Calls (Al.progOf Tryd.prog) 36 #[.slice (some ⟨b, off + 14, none⟩) 2 c] (w.alloc o) fun e w' => e = .returned (.int .i64 (longP p : Nat)) ∧ w' = w.alloc o := fun o c => by
    have := number_any b (off + 14) (cutL p 14 2) c (w.alloc o) (by rw [cutL_len (by omega)]; omega) (cutL_all hA) (fun i hi => by
      have e := cut_cells hc 14 2 (by omega) i hi
      rw [(HB.out o).cell (p := ⟨b, off + 14 + i, none⟩) (World.block_lt_of_cell? w _ e)]
      exact e)
    rw [cutL_len (by omega), wr_small (by omega)] at this
    exact this
  have l16 : (16 : Int) ≤ (cap : Int) := by omega
  have n14 : ¬ cap = 14 := by omega
  generalize longP p = L at *
  have hl : (p.length : Int) - 21 < (L : Int) := by omega
  clear hc hL hlt h
  go_enter Al.func22, Tryd.ntmps22
  go_wp2_with fail
  refine (hs _).mono ?_
  rintro e w1 ⟨rfl, rfl⟩
  go_wp2_with fail
  refine (hnum _ _).mono ?_
  rintro e w1 ⟨rfl, rfl⟩
  go_wp2_with fail
  refine bodyPost_ret (v := .tuple #[F0, .bool false]) (by simp [results, Tryd.results22, go_sem]) rfl ?_
  exact ⟨rfl, HB.out _⟩
/-- What unpack tells of a page. -/
def UnPost (w w' : World) (e : Ending) (p : List Nat) : Prop := ∃ a c, e = .returned (.tuple #[FV (kindP p : Nat) (lbaP p : Nat) (wr (seqP p)) a (longP p) c, .bool true]) ∧ OwnA w' w.heap.size a c (dataP p) ∧ Below w.heap.size w w'
set_option maxHeartbeats 3200000 in
theorem unpack_some (a : Option Addr) (p : List Nat) (cap : Nat) (w : World) (h1 : 24 ≤ p.length) (h2 : p.length ≤ 4096) (hcap : p.length ≤ cap) (hA : AllB p) (hL : Lies w a p) (h : longP p + 21 ≤ p.length) :
    Calls (Al.progOf Tryd.prog) 22 #[.slice a p.length cap] w fun e w' => UnPost w w' e p := by
  obtain ⟨b, off, rfl, hc⟩ := hL.some_of (by omega)
  have HB : Hid (∀ o, Below w.heap.size w (w.alloc o)) := fun o => alloc_below' w o
  have hs := fun wx => isSize_any (p.length : Int) wx
  rw [size_yes (by omega)] at hs
  have HN : Hid (∀ wx, Below w.heap.size w wx → ∀ o k c, o + k ≤ p.length → k ≤ 8 → Calls (Al.progOf Tryd.prog) 36 #[.slice (some ⟨b, off + o, none⟩) k c] wx fun e w' => e = .returned (.int .i64 (wr (num (cutL p o k)))) ∧ w' = wx) := fun wx hb o k c ho hk => by
    have := number_any b (off + o) (cutL p o k) c wx (by rw [cutL_len ho]; omega) (cutL_all hA) (fun i hi => by
      have e := cut_cells hc o k ho i hi
      rw [hb.cell (p := ⟨b, off + o + i, none⟩) (World.block_lt_of_cell? w _ e)]
      exact e)
    rw [cutL_len ho] at this
    exact this
  have HCl : Hid (∀ wx, Below w.heap.size w wx → ∀ c, Calls (Al.progOf Tryd.prog) 37 #[.slice (some ⟨b, off + 20, none⟩) (longP p) c] wx fun e w' => ClonePost wx w' e (dataP p)) := fun wx hb c => by
    have hL' : Lies wx (some ⟨b, off + 20, none⟩) (dataP p) := (show Lies w (some ⟨b, off + 20, none⟩) (dataP p) from Or.inr ⟨b, off + 20, rfl, cut_cells hc 20 (longP p) (by omega)⟩).below hb
    have := clone_any ⟨b, off + 20, none⟩ c (dataP p) wx (by rw [dataP_len h]; omega) hL'
    rw [dataP_len h] at this
    exact this
  have hlt := num_lt (cutL p 14 2) (cutL_all hA)
  rw [cutL_len (by omega)] at hlt
  have hlt' : longP p < 65536 := hlt
  have HBd : Hid (wr (num (cutL p 14 2)) = (longP p : Nat) ∧ wr (num (cutL p 2 4)) = (lbaP p : Nat) ∧ (dataP p).length = longP p) := ⟨wr_small (by show longP p < _; omega), wr_small (by
    have := num_lt (cutL p 2 4) (cutL_all hA)
    rw [cutL_len (by omega)] at this
    show lbaP p < _
    have e : lbaP p < 4294967296 := this
    omega), dataP_len h⟩
  have hc1 := fun o => ((HB.out o).cell (p := ⟨b, off + 1, none⟩) (World.block_lt_of_cell? w _ (hc 1 (by omega)))).trans (hc 1 (by omega))
  have hk : p[1]?.getD 0 = kindP p := rfl
  rw [hk] at hc1
  have hk8 : kindP p < 256 := hA.at 1
  have hbw : b < w.heap.size := World.block_lt_of_cell? w ⟨b, off + 1, none⟩ (hc 1 (by omega))
  have hne1 : ¬ b = w.heap.size := by omega
  have hne2 : ¬ w.heap.size = b := by omega
  obtain ⟨NV, HNV⟩ : ∃ NV : Nat → Nat → Int, Hid (∀ o k, wr (num (cutL p o k)) = NV o k) := ⟨_, fun _ _ => rfl⟩
  have HN2 : Hid (∀ wx, Below w.heap.size w wx → ∀ o k c, o + k ≤ p.length → k ≤ 8 → Calls (Al.progOf Tryd.prog) 36 #[.slice (some ⟨b, off + o, none⟩) k c] wx fun e w' => e = .returned (.int .i64 (NV o k)) ∧ w' = wx) := fun wx hb o k c ho hk => by
    have := HN.out wx hb o k c ho hk
    rw [HNV.out] at this
    exact this
  obtain ⟨D, HDD⟩ : ∃ D, Hid (dataP p = D) := ⟨_, rfl⟩
  have HU : Hid (∀ w' a1 c1, OwnA w' w.heap.size a1 c1 D → Below w.heap.size w w' → UnPost w w' (.returned (.tuple #[FV (kindP p : Nat) (NV 2 4) (NV 6 8) a1 D.length c1, .bool true])) p) := fun w' a1 c1 hO hB => by
    rw [← HDD.out] at hO
    refine ⟨a1, c1, ?_, hO, hB⟩
    rw [← HNV.out, ← HNV.out, HBd.out.2.1, ← HDD.out, HBd.out.2.2]
    rfl
  have HNL : Hid (NV 14 2 = (longP p : Nat)) := by
    have := HBd.out.1
    rw [HNV.out] at this
    exact this
  have HCl2 : Hid (∀ wx, Below w.heap.size w wx → ∀ c, Calls (Al.progOf Tryd.prog) 37 #[.slice (some ⟨b, off + 20, none⟩) (longP p) c] wx fun e w' => ClonePost wx w' e D) := by
    rw [← HDD.out]
    exact HCl.out
  clear HBd HN HNV HCl HDD
  generalize longP p = L at *
  generalize kindP p = KK at *
  have l1 : (1 : Int) < (p.length : Int) := by omega
  have l6 : (6 : Int) ≤ (cap : Int) := by omega
  have l14 : (14 : Int) ≤ (cap : Int) := by omega
  have l16 : (16 : Int) ≤ (cap : Int) := by omega
  have n2 : ¬ cap = 2 := by omega
  have n6 : ¬ cap = 6 := by omega
  have n14 : ¬ cap = 14 := by omega
  have n20 : ¬ cap = 20 := by omega
  have hl : ¬ (p.length : Int) - 21 < (L : Int) := by omega
  have w20 : IntKind.i64.wrap (20 + (L : Int)) = 20 + (L : Int) := by rw [IntKind.wrap_i64]; omega
  have l20 : (20 : Int) ≤ 20 + (L : Int) := by omega
  have m20 : 20 + (L : Int) ≤ (cap : Int) := by omega
  have t20 : (20 + (L : Int)).toNat = 20 + L := by omega
  clear hc hL hlt h hA
  go_enter Al.func22, Tryd.ntmps22
  go_wp2_with fail
  refine (hs _).mono ?_
  rintro e w1 ⟨rfl, rfl⟩
  go_wp2_with fail
  refine (HN2.out _ (HB.out _) 14 2 _ (by omega) (by omega)).mono ?_
  rintro e w1 ⟨rfl, rfl⟩
  rw [HNL.out]
  have HZ : Hid (∀ w', Below (w.alloc (.cells #[.int .i64 0, .int .i64 0, .int .i64 0, .slice none 0 0] 24)).heap.size (w.alloc (.cells #[.int .i64 0, .int .i64 0, .int .i64 0, .slice none 0 0] 24)) w' → BoxAt w' w.heap.size 0 0 0 none 0 0 ∧ (∀ i, w'.frozen? ⟨w.heap.size, i, none⟩ = false)) := fun w' hb => by
    have hh : (w.alloc (.cells #[.int .i64 0, .int .i64 0, .int .i64 0, .slice none 0 0] 24)).heap[w.heap.size]? = some (.cells #[.int .i64 0, .int .i64 0, .int .i64 0, .slice none 0 0] 24 (0, 0)) := heap_alloc_new w _
    refine ⟨(box_new w 0 0 0 none 0 0).below hb, fun i => ?_⟩
    have e := hb.block w.heap.size (heap_lt hh)
    rw [hh] at e
    exact row_free e i
  have hcA := hc1 (.cells #[.int .i64 0, .int .i64 0, .int .i64 0, .slice none 0 0] 24)
  have HD : Hid (Below w.heap.size w (w.alloc (.cells #[.int .i64 0, .int .i64 0, .int .i64 0, .slice none 0 0] 24))) := HB.out _
  have hnA := HN2.out _ HD.out.drew
  have hcl := HCl2.out _ HD.out.drew (cap - 20)
  have HC1 : Hid (∀ w', Below (w.alloc (.cells #[.int .i64 0, .int .i64 0, .int .i64 0, .slice none 0 0] 24)).drew.heap.size (w.alloc (.cells #[.int .i64 0, .int .i64 0, .int .i64 0, .slice none 0 0] 24)).drew w' → w'.cell? ⟨b, off + 1, none⟩ = some (.int .u8 (KK : Int))) := fun w' hb => by
    have := hb.cell (p := ⟨b, off + 1, none⟩) (World.block_lt_of_cell? _ _ (show (w.alloc (.cells #[.int .i64 0, .int .i64 0, .int .i64 0, .slice none 0 0] 24)).drew.cell? ⟨b, off + 1, none⟩ = _ from hcA))
    exact this.trans hcA
  have HQ : Hid (∀ w' a1 c1, OwnA w' (w.alloc (.cells #[.int .i64 0, .int .i64 0, .int .i64 0, .slice none 0 0] 24)).drew.heap.size a1 c1 D → Below (w.alloc (.cells #[.int .i64 0, .int .i64 0, .int .i64 0, .slice none 0 0] 24)).drew.heap.size (w.alloc (.cells #[.int .i64 0, .int .i64 0, .int .i64 0, .slice none 0 0] 24)).drew w' → Hid (BoxAt w' w.heap.size 0 0 0 none 0 0 ∧ (∀ i, w'.frozen? ⟨w.heap.size, i, none⟩ = false) ∧ OwnA w' (w.heap.size + 1) a1 c1 D ∧ Below w.heap.size w w')) := fun w' a1 c1 hO hB => by
    have hz := HZ.out w' (((Below.refl _ _).drew).trans hB)
    refine ⟨hz.1, hz.2, ?_, HD.out.drew.trans (hB.mono HD.out.drew.size)⟩
    have e : (w.alloc (.cells #[.int .i64 0, .int .i64 0, .int .i64 0, .slice none 0 0] 24)).drew.heap.size = w.heap.size + 1 := by simp
    rw [e] at hO
    exact hO
  have HKs : Hid (∀ (w' : World) (u0 u1 u2 u3 : Value), Keep (fun q => q = w.heap.size) w' ((((w'.setCell ⟨w.heap.size, 0, none⟩ u0).setCell ⟨w.heap.size, 1, none⟩ u1).setCell ⟨w.heap.size, 2, none⟩ u2).setCell ⟨w.heap.size, 3, none⟩ u3)) := fun w' u0 u1 u2 u3 =>
    ((((Keep.refl (fun q => q = w.heap.size) w').set (p := ⟨w.heap.size, 0, none⟩) rfl u0).set (p := ⟨w.heap.size, 1, none⟩) rfl u1).set (p := ⟨w.heap.size, 2, none⟩) rfl u2).set (p := ⟨w.heap.size, 3, none⟩) rfl u3
  have HKp : Hid (∀ (w' : World) (u0 u1 u2 u3 : Value), w'.cell? ⟨b, off + 1, none⟩ = some (.int .u8 (KK : Int)) → ((((w'.setCell ⟨w.heap.size, 0, none⟩ u0).setCell ⟨w.heap.size, 1, none⟩ u1).setCell ⟨w.heap.size, 2, none⟩ u2).setCell ⟨w.heap.size, 3, none⟩ u3).cell? ⟨b, off + 1, none⟩ = some (.int .u8 (KK : Int))) := fun w' u0 u1 u2 u3 hw => by
    have hk : Keep (fun q => q = w.heap.size) w' ((((w'.setCell ⟨w.heap.size, 0, none⟩ u0).setCell ⟨w.heap.size, 1, none⟩ u1).setCell ⟨w.heap.size, 2, none⟩ u2).setCell ⟨w.heap.size, 3, none⟩ u3) := ((((Keep.refl (fun q => q = w.heap.size) w').set (p := ⟨w.heap.size, 0, none⟩) rfl u0).set (p := ⟨w.heap.size, 1, none⟩) rfl u1).set (p := ⟨w.heap.size, 2, none⟩) rfl u2).set (p := ⟨w.heap.size, 3, none⟩) rfl u3
    rw [hk.cell (p := ⟨b, off + 1, none⟩) (World.block_lt_of_cell? _ _ hw) hne1]
    exact hw
  have hKw : IntKind.i64.wrap (KK : Int) = (KK : Int) := by rw [IntKind.wrap_i64]; omega
  clear hs hc1 HN2 HCl2 HZ
  go_upto_region 6 with fail
  go_region_held3 (fun w' => w'.cell? ⟨b, off + 1, none⟩ = some (.int .u8 (KK : Int))) (first | exact hcA | assumption | exact HKp.out _ _ _ _ _ (by assumption) | go_keep) (first | (go_at_call 36; refine (hnA _ _ _ (by omega) (by omega)).mono ?_; rintro e w' ⟨rfl, rfl⟩) | (go_at_call 37; refine hcl.mono ?_; rintro e w' ⟨a1, c1, rfl, hO, hB⟩; have hcw := HC1.out w' hB; have HR := HQ.out w' a1 c1 hO hB; have q0 := HR.out.1.c0; have q1 := HR.out.1.c1; have q2 := HR.out.1.c2; have q3 := HR.out.1.c3; have f0 := HR.out.2.1 0; have f1 := HR.out.2.1 1; have f2 := HR.out.2.1 2; have f3 := HR.out.2.1 3; clear hO hB))
  go_wp2_with fail
  have hz := box_set HR.out.1 (.int .i64 (KK : Int)) (.int .i64 (NV 2 4)) (.int .i64 (NV 6 8)) (.slice a1 D.length c1)
  refine bodyPost_ret (v := .tuple #[FV (KK : Nat) (NV 2 4) (NV 6 8) a1 D.length c1, .bool true]) (by simp [results, Tryd.results22, go_sem, hz.1, hz.2.1, hz.2.2.1, hz.2.2.2]) rfl ?_
  exact HU.out _ _ _ ((HR.out.2.2.1.keep (HKs.out w' _ _ _ _) (fun q hq e => by have := (HR.out.2.2.1.ge hq).1; omega)).base (by omega)) (HR.out.2.2.2.trans ((HKs.out w' _ _ _ _).below HR.out.2.2.2.size (fun q hq => by have e : q = w.heap.size := hq; omega)))
end Go.Proofs.YtobpjijdebnaoaaDoorQ

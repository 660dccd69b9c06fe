/- Part of the proof. -/
import Derived.Test.YtobpjijdebnaoaaDoorFUnpack
import Derived.Test.YtobpjijdebnaoaaDoorMMath
namespace Go.Proofs.YtobpjijdebnaoaaDoorF
open Go.Proofs.YtobpjijdebnaoaaDoorM
open Go.RowKit
set_option linter.unusedVariables false
/-- The zero frame's block. -/
abbrev zeroF : Obj := .cells #[.int .i64 0, .int .i64 0, .int .i64 0, .slice none 0 0] 24
theorem zero_at {w w' : World} (hb : Below (w.alloc zeroF).heap.size (w.alloc zeroF) w') : BoxAt w' w.heap.size 0 0 0 none 0 0 ∧ (∀ i, w'.frozen? ⟨w.heap.size, i, none⟩ = false) ∧ Below w.heap.size w w' := by
  have hh : (w.alloc zeroF).heap[w.heap.size]? = some (.cells #[.int .i64 0, .int .i64 0, .int .i64 0, .slice none 0 0] 24 (0, 0)) := heap_alloc_new w _
  refine ⟨(box_new w 0 0 0 none 0 0).below hb, fun i => ?_, (alloc_below' w _).trans (hb.mono (alloc_below' w _).size)⟩
  have e := hb.block w.heap.size (heap_lt hh)
  rw [hh] at e
  exact row_free e i
/-- Four stores into one block. -/
theorem keep_four (w : World) (b : Nat) (u0 u1 u2 u3 : Value) : Keep (fun q => q = b) w ((((w.setCell ⟨b, 0, none⟩ u0).setCell ⟨b, 1, none⟩ u1).setCell ⟨b, 2, none⟩ u2).setCell ⟨b, 3, none⟩ u3) :=
  ((((Keep.refl (fun q => q = b) w).set (p := ⟨b, 0, none⟩) rfl u0).set (p := ⟨b, 1, none⟩) rfl u1).set (p := ⟨b, 2, none⟩) rfl u2).set (p := ⟨b, 3, none⟩) rfl u3
theorem below_four {w w' : World} (h : Below w.heap.size w w') (u0 u1 u2 u3 : Value) : Below w.heap.size w ((((w'.setCell ⟨w.heap.size, 0, none⟩ u0).setCell ⟨w.heap.size, 1, none⟩ u1).setCell ⟨w.heap.size, 2, none⟩ u2).setCell ⟨w.heap.size, 3, none⟩ u3) :=
  h.trans ((keep_four w' w.heap.size u0 u1 u2 u3).below h.size (fun q hq => by have e : q = w.heap.size := hq; omega))
set_option maxHeartbeats 1600000 in
theorem open_erased (a : Option Addr) (p : List Nat) (cap : Nat) (w : World) (hm : p.length ≤ 9223372036854775807) (hL : Lies w a p) (h : ErasedP p) :
    Calls Tryd.prog 9 #[.slice a p.length cap] w fun e w' => e = .returned (.tuple #[F0, .int .i64 1]) ∧ Below w.heap.size w w' := by
  have HB : Hid (∀ o, Below w.heap.size w (w.alloc o)) := fun o => alloc_below' w o
  have he := fun wx hx => isErased_any true a p cap wx ⟨fun _ => h, fun _ => rfl⟩ hm hx
  have HLA : Hid (∀ o, Lies (w.alloc o) a p) := fun o => hL.below (alloc_below' w o)
  clear h hL
  go_enter Tryd.func9, Tryd.ntmps9
  go_wp2_with fail
  refine (he _ (HLA.out _)).mono ?_
  rintro e w1 ⟨rfl, rfl⟩
  go_wp2_with fail
  refine bodyPost_ret (v := .tuple #[F0, .int .i64 1]) (by simp [results, Tryd.results9, go_sem]) rfl ?_
  exact ⟨rfl, HB.out _⟩
set_option maxHeartbeats 1600000 in
theorem open_bad (a : Option Addr) (p : List Nat) (cap : Nat) (w : World) (hm : p.length ≤ 9223372036854775807) (hL : Lies w a p) (h : ¬ ErasedP p)
    (hU : ∀ wx, Lies wx a p → Calls Tryd.prog 22 #[.slice a p.length cap] wx fun e w' => e = .returned (.tuple #[F0, .bool false]) ∧ Below wx.heap.size wx w') :
    Calls Tryd.prog 9 #[.slice a p.length cap] w fun e w' => e = .returned (.tuple #[F0, .int .i64 3]) ∧ Below w.heap.size w w' := by
  have he := fun wx hx => isErased_any false a p cap wx ⟨(fun e => by cases e), fun e => absurd e h⟩ hm hx
  have HLA : Hid (∀ o, Lies (w.alloc o) a p) := fun o => hL.below (alloc_below' w o)
  clear h hL
  go_enter Tryd.func9, Tryd.ntmps9
  go_wp2_with fail
  refine (he _ (HLA.out _)).mono ?_
  rintro e w1 ⟨rfl, rfl⟩
  go_wp2_with fail
  refine (hU _ (HLA.out _)).mono ?_
  rintro e w2 ⟨rfl, hb2⟩
  have H3 : Hid (∀ o, Below (w.alloc zeroF).heap.size (w.alloc zeroF) (w2.alloc o)) := fun o => hb2.alloc hb2.size o
  have H4 : Hid (∀ o, BoxAt (w2.alloc o) w.heap.size 0 0 0 none 0 0 ∧ (∀ i, (w2.alloc o).frozen? ⟨w.heap.size, i, none⟩ = false) ∧ Below w.heap.size w (w2.alloc o)) := fun o => zero_at (H3.out o)
  clear hb2 hU he H3
  have q0 := fun o => (H4.out o).1.c0
  have q1 := fun o => (H4.out o).1.c1
  have q2 := fun o => (H4.out o).1.c2
  have q3 := fun o => (H4.out o).1.c3
  have f0 := fun o => (H4.out o).2.1 0
  have f1 := fun o => (H4.out o).2.1 1
  have f2 := fun o => (H4.out o).2.1 2
  have f3 := fun o => (H4.out o).2.1 3
  go_wp2_with fail
  have hz := box_set (H4.out (boxF 0 0 0 none 0 0)).1 (.int .i64 0) (.int .i64 0) (.int .i64 0) (.slice none 0 0)
  refine bodyPost_ret (v := .tuple #[F0, .int .i64 3]) (by simp [results, Tryd.results9, go_sem, hz.1, hz.2.1, hz.2.2.1, hz.2.2.2]) rfl ?_
  exact ⟨rfl, below_four (H4.out _).2.2 _ _ _ _⟩
set_option maxHeartbeats 3200000 in
theorem open_name (a : Option Addr) (p : List Nat) (cap : Nat) (w : World) (h1 : 24 ≤ p.length) (h2 : p.length ≤ 4096) (hcap : p.length ≤ cap) (hA : AllB p) (hL : Lies w a p) (hE : ¬ ErasedP p) (h3 : longP p + 21 ≤ p.length) (hn : ¬ Named (kindP p : Nat) (lbaP p : Nat) (wr (seqP p))) :
    Calls Tryd.prog 9 #[.slice a p.length cap] w fun e w' => e = .returned (.tuple #[F0, .int .i64 3]) ∧ Below w.heap.size w w' := by
  have hL24 := h1
  obtain ⟨b, off, rfl, hc⟩ := hL.some_of (by omega)
  have hnE : ¬ ErasedP p := hE
  have he := fun wx hx => isErased_any false (some ⟨b, off, none⟩) p cap wx ⟨(fun e => by cases e), fun e => absurd e hnE⟩ (by omega) hx
  have HLA : Hid (Lies (w.alloc zeroF) (some ⟨b, off, none⟩) p) := hL.below (alloc_below' w zeroF)
  have HU := unpack_some (some ⟨b, off, none⟩) p cap (w.alloc zeroF) h1 h2 hcap hA HLA.out h3
  have HPA : Hid (AllB p) := hA
  have HDL : Hid ((dataP p).length = longP p ∧ AllB (dataP p)) := ⟨dataP_len h3, cutL_all hA⟩
  have hP := fun wx a1 c1 => pack_name (p.length : Int) (kindP p : Nat) (lbaP p : Nat) (wr (seqP p)) a1 (longP p) c1 wx (by omega) hn
  clear hn
  clear hE hnE hL hc h3
  go_enter Tryd.func9, Tryd.ntmps9
  go_wp2_with fail
  refine (he _ HLA.out).mono ?_
  rintro e w1 ⟨rfl, rfl⟩
  go_wp2_with fail
  refine HU.mono ?_
  rintro e w2 ⟨a1, c1, rfl, hO, hb2⟩
  have HI2 : Hid (Below (w.alloc zeroF).heap.size (w.alloc zeroF) (w2.alloc (boxF (kindP p : Nat) (lbaP p : Nat) (wr (seqP p)) a1 (longP p) c1)) ∧ BoxAt (w2.alloc (boxF (kindP p : Nat) (lbaP p : Nat) (wr (seqP p)) a1 (longP p) c1)) w2.heap.size (kindP p : Nat) (lbaP p : Nat) (wr (seqP p)) a1 (longP p) c1 ∧ OwnA (w2.alloc (boxF (kindP p : Nat) (lbaP p : Nat) (wr (seqP p)) a1 (longP p) c1)) (w.alloc zeroF).heap.size a1 c1 (dataP p) ∧ (w.alloc zeroF).heap.size ≤ w2.heap.size) :=
    ⟨hb2.alloc hb2.size _, box_new w2 _ _ _ _ _ _, hO.below (alloc_below' w2 _), hb2.size⟩
  clear hO hb2 HU he
  generalize kindP p = KK at *
  generalize lbaP p = LL at *
  generalize wr (seqP p) = SS at *
  generalize longP p = DD at *
  go_wp2_with fail
  refine (hP _ _ _).mono ?_
  rintro e w3 ⟨rfl, hb3⟩
  have H4 : Hid (BoxAt w3 w.heap.size 0 0 0 none 0 0 ∧ (∀ i, w3.frozen? ⟨w.heap.size, i, none⟩ = false) ∧ Below w.heap.size w w3) := zero_at (HI2.out.1.trans (hb3.mono HI2.out.1.size))
  clear hb3 HI2 hP
  have q0 := H4.out.1.c0
  have q1 := H4.out.1.c1
  have q2 := H4.out.1.c2
  have q3 := H4.out.1.c3
  have f0 := H4.out.2.1 0
  have f1 := H4.out.2.1 1
  have f2 := H4.out.2.1 2
  have f3 := H4.out.2.1 3
  go_wp2_with fail
  have hz := box_set H4.out.1 (.int .i64 0) (.int .i64 0) (.int .i64 0) (.slice none 0 0)
  refine bodyPost_ret (v := .tuple #[F0, .int .i64 3]) (by simp [results, Tryd.results9, go_sem, hz.1, hz.2.1, hz.2.2.1, hz.2.2.2]) rfl ?_
  exact ⟨rfl, below_four H4.out.2.2 _ _ _ _⟩
set_option maxHeartbeats 3200000 in
theorem open_uneq (a : Option Addr) (p : List Nat) (cap : Nat) (w : World) (h1 : 24 ≤ p.length) (h2 : p.length ≤ 4096) (hcap : p.length ≤ cap) (hA : AllB p) (hL : Lies w a p) (hE : ¬ ErasedP p) (h3 : longP p + 21 ≤ p.length) (hF : FOk p.length (kindP p) (lbaP p) (seqP p) (longP p)) (hne : packL p.length (kindP p) (lbaP p) (seqP p) (dataP p) ≠ p) :
    Calls Tryd.prog 9 #[.slice a p.length cap] w fun e w' => e = .returned (.tuple #[F0, .int .i64 3]) ∧ Below w.heap.size w w' := by
  have hL24 := h1
  obtain ⟨b, off, rfl, hc⟩ := hL.some_of (by omega)
  have hnE : ¬ ErasedP p := hE
  have he := fun wx hx => isErased_any false (some ⟨b, off, none⟩) p cap wx ⟨(fun e => by cases e), fun e => absurd e hnE⟩ (by omega) hx
  have HLA : Hid (Lies (w.alloc zeroF) (some ⟨b, off, none⟩) p) := hL.below (alloc_below' w zeroF)
  have HU := unpack_some (some ⟨b, off, none⟩) p cap (w.alloc zeroF) h1 h2 hcap hA HLA.out h3
  have HPA : Hid (AllB p) := hA
  have HDL : Hid ((dataP p).length = longP p ∧ AllB (dataP p)) := ⟨dataP_len h3, cutL_all hA⟩
  have hsq : wr (seqP p) = (seqP p : Nat) := wr_small (by have := hF.s1; omega)
  have HU2 : Calls Tryd.prog 22 #[.slice (some ⟨b, off, none⟩) p.length cap] (w.alloc zeroF) fun e w' => ∃ a c, e = .returned (.tuple #[FV (kindP p : Nat) (lbaP p : Nat) (seqP p : Nat) a (longP p) c, .bool true]) ∧ OwnA w' (w.alloc zeroF).heap.size a c (dataP p) ∧ Below (w.alloc zeroF).heap.size (w.alloc zeroF) w' := HU.mono fun e w' h => by
    obtain ⟨a, c, h4, h5⟩ := h
    rw [hsq] at h4
    exact ⟨a, c, h4, h5⟩
  have hP : ∀ wx a1 c1, Lies wx a1 (dataP p) → Calls Tryd.prog 5 #[.int .i64 p.length, FV (kindP p : Nat) (lbaP p : Nat) (seqP p : Nat) a1 (longP p) c1] wx fun e w' => ∃ g, e = .returned (.tuple #[.slice (some ⟨g, 0, none⟩) p.length p.length, .nilIface]) ∧ wx.heap.size ≤ g ∧ Row w' g (packL p.length (kindP p) (lbaP p) (seqP p) (dataP p)) ∧ Below wx.heap.size wx w' := fun wx a1 c1 hx => by
    have := pack_good p.length (kindP p) (lbaP p) (seqP p) a1 c1 (dataP p) wx (by rw [HDL.out.1]; exact hF) HDL.out.2 hx
    rw [HDL.out.1] at this
    exact this
  have HPK : Hid ((packL p.length (kindP p) (lbaP p) (seqP p) (dataP p)).length = p.length ∧ AllB (packL p.length (kindP p) (lbaP p) (seqP p) (dataP p))) := ⟨packL_len _ _ _ _ _ (by rw [HDL.out.1]; exact h3), packL_all _ _ _ _ _ (by have := hF.k1; omega) HDL.out.2⟩
  have HCp : Hid (∀ w', Below (w.alloc zeroF).heap.size (w.alloc zeroF) w' → ∀ i, i < p.length → w'.cell? ⟨b, off + i, none⟩ = some (.int .u8 ((p[i]?.getD 0 : Nat) : Int))) := fun w' hb i hi => by
    have e : (w.alloc zeroF).cell? ⟨b, off + i, none⟩ = some (.int .u8 ((p[i]?.getD 0 : Nat) : Int)) := by rw [(alloc_below' w zeroF).cell (p := ⟨b, off + i, none⟩) (World.block_lt_of_cell? w _ (hc i hi))]; exact hc i hi
    rw [hb.cell (p := ⟨b, off + i, none⟩) (World.block_lt_of_cell? _ _ e)]
    exact e
  obtain ⟨PG, HPG⟩ : ∃ L, Hid (packL p.length (kindP p) (lbaP p) (seqP p) (dataP p) = L) := ⟨_, rfl⟩
  have HNE : Hid (PG ≠ p) := by rw [← HPG.out]; exact hne
  clear hne
  rw [HPG.out] at hP
  have HPK2 : Hid (PG.length = p.length ∧ AllB PG) := by rw [← HPG.out]; exact HPK.out
  clear HU HPK HPG hsq hF
  clear hE hnE hL hc h3
  go_enter Tryd.func9, Tryd.ntmps9
  go_wp2_with fail
  refine (he _ HLA.out).mono ?_
  rintro e w1 ⟨rfl, rfl⟩
  go_wp2_with fail
  refine HU2.mono ?_
  rintro e w2 ⟨a1, c1, rfl, hO, hb2⟩
  have HI2 : Hid (Below (w.alloc zeroF).heap.size (w.alloc zeroF) (w2.alloc (boxF (kindP p : Nat) (lbaP p : Nat) (seqP p : Nat) a1 (longP p) c1)) ∧ BoxAt (w2.alloc (boxF (kindP p : Nat) (lbaP p : Nat) (seqP p : Nat) a1 (longP p) c1)) w2.heap.size (kindP p : Nat) (lbaP p : Nat) (seqP p : Nat) a1 (longP p) c1 ∧ OwnA (w2.alloc (boxF (kindP p : Nat) (lbaP p : Nat) (seqP p : Nat) a1 (longP p) c1)) (w.alloc zeroF).heap.size a1 c1 (dataP p) ∧ (w.alloc zeroF).heap.size ≤ w2.heap.size) :=
    ⟨hb2.alloc hb2.size _, box_new w2 _ _ _ _ _ _, hO.below (alloc_below' w2 _), hb2.size⟩
  clear hO hb2 HU2 he
  generalize kindP p = KK at *
  generalize lbaP p = LL at *
  generalize seqP p = SS at *
  generalize longP p = DD at *
  generalize dataP p = DT at *
  go_wp2_with fail
  refine (hP _ _ _ HI2.out.2.2.1.lies).mono ?_
  rintro e w3 ⟨g, rfl, hg, hr, hb3⟩
  have H4 : Hid (BoxAt w3 w.heap.size 0 0 0 none 0 0 ∧ (∀ i, w3.frozen? ⟨w.heap.size, i, none⟩ = false) ∧ Below w.heap.size w w3) := zero_at (HI2.out.1.trans (hb3.mono HI2.out.1.size))
  have H5 : Hid (BoxAt w3 w2.heap.size KK LL SS a1 DD c1 ∧ OwnA w3 (w.alloc zeroF).heap.size a1 c1 DT ∧ (w.alloc zeroF).heap.size ≤ w2.heap.size) := ⟨HI2.out.2.1.below hb3, HI2.out.2.2.1.below hb3, HI2.out.2.2.2⟩
  have heq : Calls Tryd.prog 23 #[.slice (some ⟨g, 0, none⟩) p.length p.length, .slice (some ⟨b, off, none⟩) p.length cap] w3 fun e w' => e = .returned (.bool (decide (PG = p))) ∧ w' = w3 := by
    have := equal_any g 0 PG p.length b off p cap w3 HPK2.out.2 HPA.out (fun i hi => by rw [Nat.zero_add]; exact row_cell hr i hi) (HCp.out w3 (HI2.out.1.trans (hb3.mono HI2.out.1.size)))
    rw [show (Value.slice (some ⟨g, 0, none⟩) PG.length p.length) = .slice (some ⟨g, 0, none⟩) p.length p.length by rw [HPK2.out.1]] at this
    exact this
  clear hb3 hr hg HI2 hP HCp
  rw [decide_eq_false HNE.out] at heq
  clear H5
  have q0 := H4.out.1.c0
  have q1 := H4.out.1.c1
  have q2 := H4.out.1.c2
  have q3 := H4.out.1.c3
  have f0 := H4.out.2.1 0
  have f1 := H4.out.2.1 1
  have f2 := H4.out.2.1 2
  have f3 := H4.out.2.1 3
  go_wp2_with fail
  refine heq.mono ?_
  rintro e w4 ⟨rfl, rfl⟩
  go_wp2_with fail
  have hz := box_set H4.out.1 (.int .i64 0) (.int .i64 0) (.int .i64 0) (.slice none 0 0)
  refine bodyPost_ret (v := .tuple #[F0, .int .i64 3]) (by simp [results, Tryd.results9, go_sem, hz.1, hz.2.1, hz.2.2.1, hz.2.2.2]) rfl ?_
  exact ⟨rfl, below_four H4.out.2.2 _ _ _ _⟩
/-- What Open tells of a page that is a frame's. -/
def ValidPost (w w' : World) (e : Ending) (p : List Nat) : Prop := ∃ a c, e = .returned (.tuple #[FV (kindP p : Nat) (lbaP p : Nat) (seqP p : Nat) a (longP p) c, .int .i64 2]) ∧ OwnA w' w.heap.size a c (dataP p) ∧ Below w.heap.size w w'
set_option maxHeartbeats 3200000 in
theorem open_eq (a : Option Addr) (p : List Nat) (cap : Nat) (w : World) (h1 : 24 ≤ p.length) (h2 : p.length ≤ 4096) (hcap : p.length ≤ cap) (hA : AllB p) (hL : Lies w a p) (hE : ¬ ErasedP p) (h3 : longP p + 21 ≤ p.length) (hF : FOk p.length (kindP p) (lbaP p) (seqP p) (longP p)) (heq0 : packL p.length (kindP p) (lbaP p) (seqP p) (dataP p) = p) :
    Calls Tryd.prog 9 #[.slice a p.length cap] w fun e w' => ValidPost w w' e p := by
  have hL24 := h1
  obtain ⟨b, off, rfl, hc⟩ := hL.some_of (by omega)
  have hnE : ¬ ErasedP p := hE
  have he := fun wx hx => isErased_any false (some ⟨b, off, none⟩) p cap wx ⟨(fun e => by cases e), fun e => absurd e hnE⟩ (by omega) hx
  have HLA : Hid (Lies (w.alloc zeroF) (some ⟨b, off, none⟩) p) := hL.below (alloc_below' w zeroF)
  have HU := unpack_some (some ⟨b, off, none⟩) p cap (w.alloc zeroF) h1 h2 hcap hA HLA.out h3
  have HPA : Hid (AllB p) := hA
  have HDL : Hid ((dataP p).length = longP p ∧ AllB (dataP p)) := ⟨dataP_len h3, cutL_all hA⟩
  have hsq : wr (seqP p) = (seqP p : Nat) := wr_small (by have := hF.s1; omega)
  have HU2 : Calls Tryd.prog 22 #[.slice (some ⟨b, off, none⟩) p.length cap] (w.alloc zeroF) fun e w' => ∃ a c, e = .returned (.tuple #[FV (kindP p : Nat) (lbaP p : Nat) (seqP p : Nat) a (longP p) c, .bool true]) ∧ OwnA w' (w.alloc zeroF).heap.size a c (dataP p) ∧ Below (w.alloc zeroF).heap.size (w.alloc zeroF) w' := HU.mono fun e w' h => by
    obtain ⟨a, c, h4, h5⟩ := h
    rw [hsq] at h4
    exact ⟨a, c, h4, h5⟩
  have hP : ∀ wx a1 c1, Lies wx a1 (dataP p) → Calls Tryd.prog 5 #[.int .i64 p.length, FV (kindP p : Nat) (lbaP p : Nat) (seqP p : Nat) a1 (longP p) c1] wx fun e w' => ∃ g, e = .returned (.tuple #[.slice (some ⟨g, 0, none⟩) p.length p.length, .nilIface]) ∧ wx.heap.size ≤ g ∧ Row w' g (packL p.length (kindP p) (lbaP p) (seqP p) (dataP p)) ∧ Below wx.heap.size wx w' := fun wx a1 c1 hx => by
    have := pack_good p.length (kindP p) (lbaP p) (seqP p) a1 c1 (dataP p) wx (by rw [HDL.out.1]; exact hF) HDL.out.2 hx
    rw [HDL.out.1] at this
    exact this
  have HPK : Hid ((packL p.length (kindP p) (lbaP p) (seqP p) (dataP p)).length = p.length ∧ AllB (packL p.length (kindP p) (lbaP p) (seqP p) (dataP p))) := ⟨packL_len _ _ _ _ _ (by rw [HDL.out.1]; exact h3), packL_all _ _ _ _ _ (by have := hF.k1; omega) HDL.out.2⟩
  have HCp : Hid (∀ w', Below (w.alloc zeroF).heap.size (w.alloc zeroF) w' → ∀ i, i < p.length → w'.cell? ⟨b, off + i, none⟩ = some (.int .u8 ((p[i]?.getD 0 : Nat) : Int))) := fun w' hb i hi => by
    have e : (w.alloc zeroF).cell? ⟨b, off + i, none⟩ = some (.int .u8 ((p[i]?.getD 0 : Nat) : Int)) := by rw [(alloc_below' w zeroF).cell (p := ⟨b, off + i, none⟩) (World.block_lt_of_cell? w _ (hc i hi))]; exact hc i hi
    rw [hb.cell (p := ⟨b, off + i, none⟩) (World.block_lt_of_cell? _ _ e)]
    exact e
  obtain ⟨PG, HPG⟩ : ∃ L, Hid (packL p.length (kindP p) (lbaP p) (seqP p) (dataP p) = L) := ⟨_, rfl⟩
  have HNE : Hid (PG = p) := by rw [← HPG.out]; exact heq0
  clear heq0
  have HV : Hid (∀ w' a c, OwnA w' w.heap.size a c (dataP p) → Below w.heap.size w w' → ValidPost w w' (.returned (.tuple #[FV (kindP p : Nat) (lbaP p : Nat) (seqP p : Nat) a (longP p) c, .int .i64 2])) p) := fun w' a c h6 h7 => ⟨a, c, rfl, h6, h7⟩
  rw [HPG.out] at hP
  have HPK2 : Hid (PG.length = p.length ∧ AllB PG) := by rw [← HPG.out]; exact HPK.out
  clear HU HPK HPG hsq hF
  clear hE hnE hL hc h3
  go_enter Tryd.func9, Tryd.ntmps9
  go_wp2_with fail
  refine (he _ HLA.out).mono ?_
  rintro e w1 ⟨rfl, rfl⟩
  go_wp2_with fail
  refine HU2.mono ?_
  rintro e w2 ⟨a1, c1, rfl, hO, hb2⟩
  have HI2 : Hid (Below (w.alloc zeroF).heap.size (w.alloc zeroF) (w2.alloc (boxF (kindP p : Nat) (lbaP p : Nat) (seqP p : Nat) a1 (longP p) c1)) ∧ BoxAt (w2.alloc (boxF (kindP p : Nat) (lbaP p : Nat) (seqP p : Nat) a1 (longP p) c1)) w2.heap.size (kindP p : Nat) (lbaP p : Nat) (seqP p : Nat) a1 (longP p) c1 ∧ OwnA (w2.alloc (boxF (kindP p : Nat) (lbaP p : Nat) (seqP p : Nat) a1 (longP p) c1)) (w.alloc zeroF).heap.size a1 c1 (dataP p) ∧ (w.alloc zeroF).heap.size ≤ w2.heap.size) :=
    ⟨hb2.alloc hb2.size _, box_new w2 _ _ _ _ _ _, hO.below (alloc_below' w2 _), hb2.size⟩
  clear hO hb2 HU2 he
  generalize kindP p = KK at *
  generalize lbaP p = LL at *
  generalize seqP p = SS at *
  generalize longP p = DD at *
  generalize dataP p = DT at *
  go_wp2_with fail
  refine (hP _ _ _ HI2.out.2.2.1.lies).mono ?_
  rintro e w3 ⟨g, rfl, hg, hr, hb3⟩
  have H4 : Hid (BoxAt w3 w.heap.size 0 0 0 none 0 0 ∧ (∀ i, w3.frozen? ⟨w.heap.size, i, none⟩ = false) ∧ Below w.heap.size w w3) := zero_at (HI2.out.1.trans (hb3.mono HI2.out.1.size))
  have H5 : Hid (BoxAt w3 w2.heap.size KK LL SS a1 DD c1 ∧ OwnA w3 (w.alloc zeroF).heap.size a1 c1 DT ∧ (w.alloc zeroF).heap.size ≤ w2.heap.size) := ⟨HI2.out.2.1.below hb3, HI2.out.2.2.1.below hb3, HI2.out.2.2.2⟩
  have heq : Calls Tryd.prog 23 #[.slice (some ⟨g, 0, none⟩) p.length p.length, .slice (some ⟨b, off, none⟩) p.length cap] w3 fun e w' => e = .returned (.bool (decide (PG = p))) ∧ w' = w3 := by
    have := equal_any g 0 PG p.length b off p cap w3 HPK2.out.2 HPA.out (fun i hi => by rw [Nat.zero_add]; exact row_cell hr i hi) (HCp.out w3 (HI2.out.1.trans (hb3.mono HI2.out.1.size)))
    rw [show (Value.slice (some ⟨g, 0, none⟩) PG.length p.length) = .slice (some ⟨g, 0, none⟩) p.length p.length by rw [HPK2.out.1]] at this
    exact this
  clear hb3 hr hg HI2 hP HCp
  rw [decide_eq_true HNE.out] at heq
  have q0 := H4.out.1.c0
  have q1 := H4.out.1.c1
  have q2 := H4.out.1.c2
  have q3 := H4.out.1.c3
  have f0 := H4.out.2.1 0
  have f1 := H4.out.2.1 1
  have f2 := H4.out.2.1 2
  have f3 := H4.out.2.1 3
  have r0 := H5.out.1.c0
  have r1 := H5.out.1.c1
  have r2 := H5.out.1.c2
  have r3 := H5.out.1.c3
  go_wp2_with fail
  refine heq.mono ?_
  rintro e w4 ⟨rfl, rfl⟩
  clear heq
  go_wp2_with fail
  have hz := box_set H4.out.1 (.int .i64 (KK : Int)) (.int .i64 (LL : Int)) (.int .i64 (SS : Int)) (.slice a1 DD c1)
  refine bodyPost_ret (v := .tuple #[FV (KK : Nat) (LL : Nat) (SS : Nat) a1 DD c1, .int .i64 2]) (by simp [results, Tryd.results9, go_sem, hz.1, hz.2.1, hz.2.2.1, hz.2.2.2]) rfl ?_
  exact HV.out _ _ _ ((H5.out.2.1.keep (keep_four _ w.heap.size _ _ _ _) (fun q hq e => by have h6 := (H5.out.2.1.ge hq).1; simp at h6; omega)).base (by simp)) (below_four H4.out.2.2 _ _ _ _)
/-- ANY BYTES: erased, a frame's, or broken. -/
theorem open_any (a : Option Addr) (p : List Nat) (cap : Nat) (w : World) (hA : AllB p) (hL : Lies w a p) (hcap : p.length ≤ cap) (hm : p.length ≤ 9223372036854775807) :
    Calls Tryd.prog 9 #[.slice a p.length cap] w fun e w' => (ErasedP p ∧ e = .returned (.tuple #[F0, .int .i64 1]) ∧ Below w.heap.size w w') ∨ (¬ ErasedP p ∧ ValidP p ∧ ValidPost w w' e p) ∨ (¬ ErasedP p ∧ ¬ ValidP p ∧ e = .returned (.tuple #[F0, .int .i64 3]) ∧ Below w.heap.size w w') := by
  by_cases hE : ErasedP p
  · exact (open_erased a p cap w hm hL hE).mono fun e w' ⟨h1, h2⟩ => Or.inl ⟨hE, h1, h2⟩
  by_cases h1 : 24 ≤ p.length ∧ p.length ≤ 4096
  case neg => exact (open_bad a p cap w hm hL hE (fun wx _ => unpack_size a p.length cap wx (by omega))).mono fun e w' ⟨h2, h3⟩ => Or.inr (Or.inr ⟨hE, fun hv => h1 ⟨hv.1.n0, hv.1.n1⟩, h2, h3⟩)
  obtain ⟨h1, h2⟩ := h1
  by_cases h3 : longP p + 21 ≤ p.length
  case neg => exact (open_bad a p cap w hm hL hE (fun wx hx => unpack_long a p cap wx h1 h2 hcap hA hx h3)).mono fun e w' ⟨h4, h5⟩ => Or.inr (Or.inr ⟨hE, fun hv => h3 hv.1.d1, h4, h5⟩)
  have hs64 : seqP p < 18446744073709551616 := by
    have := num_lt (cutL p 6 8) (cutL_all hA)
    rw [cutL_len (by omega)] at this
    exact this
  by_cases hn : Named (kindP p : Nat) (lbaP p : Nat) (wr (seqP p))
  case neg =>
    refine (open_name a p cap w h1 h2 hcap hA hL hE h3 hn).mono fun e w' ⟨h4, h5⟩ => Or.inr (Or.inr ⟨hE, fun hv => hn ?_, h4, h5⟩)
    have hq := hv.1
    refine ⟨⟨by have := hq.k0; omega, by have := hq.k1; omega⟩, ⟨by omega, by have := hq.l1; omega⟩, ?_⟩
    rw [wr_small (by have := hq.s1; omega)]
    exact ⟨by omega, by have := hq.s1; omega⟩
  have hsm : seqP p < 9223372036854775808 := by
    by_cases hb : seqP p < 9223372036854775808
    · exact hb
    · have := wr_neg (by omega : 9223372036854775808 ≤ seqP p) hs64
      have := hn.2.2.1
      omega
  rw [show wr (seqP p) = (seqP p : Nat) from wr_small hsm] at hn
  have hF : FOk p.length (kindP p) (lbaP p) (seqP p) (longP p) := ⟨h1, h2, by have := hn.1.1; omega, by have := hn.1.2; omega, by have := hn.2.1.2; omega, by have := hn.2.2.2; omega, h3⟩
  by_cases he : packL p.length (kindP p) (lbaP p) (seqP p) (dataP p) = p
  · exact (open_eq a p cap w h1 h2 hcap hA hL hE h3 hF he).mono fun e w' h => Or.inr (Or.inl ⟨hE, ⟨hF, he⟩, h⟩)
  · exact (open_uneq a p cap w h1 h2 hcap hA hL hE h3 hF he).mono fun e w' ⟨h4, h5⟩ => Or.inr (Or.inr ⟨hE, fun hv => he hv.2, h4, h5⟩)
end Go.Proofs.YtobpjijdebnaoaaDoorF
namespace Go.Proofs.YtobpjijdebnaoaaDoorF
open Go.Proofs.YtobpjijdebnaoaaDoorM
open Go.RowKit
def SightPost (w w' : World) (e : Ending) (p : List Nat) : Prop := ∃ a d c, e = .returned (.tuple #[FV (kdP p : Nat) (lbP p : Nat) (sqP p : Nat) a d c, .int .i64 (stP p : Nat)]) ∧ Below w.heap.size w w'
theorem open_sight (a : Option Addr) (p : List Nat) (cap : Nat) (w : World) (hA : AllB p) (hL : Lies w a p) (hcap : p.length ≤ cap) (hm : p.length ≤ 9223372036854775807) :
    Calls Tryd.prog 9 #[.slice a p.length cap] w fun e w' => SightPost w w' e p := by
  refine (open_any a p cap w hA hL hcap hm).mono ?_
  rintro e w' (⟨h1, rfl, h2⟩ | ⟨h1, h2, a', c', rfl, _, h3⟩ | ⟨h1, h2, rfl, h3⟩)
  · obtain ⟨e1, e2, e3, e4⟩ := tell_erased h1
    exact ⟨none, 0, 0, by rw [e1, e2, e3, e4]; rfl, h2⟩
  · obtain ⟨e1, e2, e3, e4⟩ := tell_valid h1 h2
    exact ⟨a', _, c', by rw [e1, e2, e3, e4]; rfl, h3⟩
  · obtain ⟨e1, e2, e3, e4⟩ := tell_broken h1 h2
    exact ⟨none, 0, 0, by rw [e1, e2, e3, e4]; rfl, h3⟩
end Go.Proofs.YtobpjijdebnaoaaDoorF

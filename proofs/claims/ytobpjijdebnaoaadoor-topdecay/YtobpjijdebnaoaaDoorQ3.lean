/- Part of the proof. -/
import Derived.Test.YtobpjijdebnaoaaDoorQUnpack
import Derived.Test.YtobpjijdebnaoaaDoorMMath
import Derived.Laws.MakeOwn
namespace Go.Proofs.YtobpjijdebnaoaaDoorQ
open Go.Proofs.YtobpjijdebnaoaaDoorM
open Go.RowKit
set_option linter.unusedVariables false
/-- The zero frame's block. -/
abbrev zeroF : Obj := .cells #[.int .i64 0, .int .i64 0, .int .i64 0, .slice none 0 0] 24
theorem zero_at {w w' : World} (hb : Below (w.alloc zeroF).heap.size (w.alloc zeroF) w') : BoxAt w' w.heap.size 0 0 0 none 0 0 ∧ (∀ i, w'.frozen? ⟨w.heap.size, i, none⟩ = false) ∧ Below w.heap.size w w' := by
  have hh : (w.alloc zeroF).heap[w.heap.size]? = some (.cells #[.int .i64 0, .int .i64 0, .int .i64 0, .slice none 0 0] 24 (0, 0)) := heap_alloc_new w _
  refine ⟨(box_new w 0 0 0 none 0 0).below hb, fun i => ?_, (alloc_below' w _).trans (hb.mono (alloc_below' w _).size)⟩
  have e := hb.block w.heap.size (heap_lt hh)
  rw [hh] at e
  exact row_free e i
/-- Four stores into one block. -/
theorem keep_four (w : World) (b : Nat) (u0 u1 u2 u3 : Value) : Keep (fun q => q = b) w ((((w.setCell ⟨b, 0, none⟩ u0).setCell ⟨b, 1, none⟩ u1).setCell ⟨b, 2, none⟩ u2).setCell ⟨b, 3, none⟩ u3) :=
  ((((Keep.refl (fun q => q = b) w).set (p := ⟨b, 0, none⟩) rfl u0).set (p := ⟨b, 1, none⟩) rfl u1).set (p := ⟨b, 2, none⟩) rfl u2).set (p := ⟨b, 3, none⟩) rfl u3
theorem below_four {w w' : World} (h : Below w.heap.size w w') (u0 u1 u2 u3 : Value) : Below w.heap.size w ((((w'.setCell ⟨w.heap.size, 0, none⟩ u0).setCell ⟨w.heap.size, 1, none⟩ u1).setCell ⟨w.heap.size, 2, none⟩ u2).setCell ⟨w.heap.size, 3, none⟩ u3) :=
  h.trans ((keep_four w' w.heap.size u0 u1 u2 u3).below h.size (fun q hq => by have e : q = w.heap.size := hq; omega))
set_option maxHeartbeats 1600000 in
theorem open_erased (a : Option Addr) (p : List Nat) (cap : Nat) (w : World) (hm : p.length ≤ 9223372036854775807) (hL : Lies w a p) (h : ErasedP p) :
    Calls (Al.progOf Tryd.prog) 9 #[.slice a p.length cap] w fun e w' => e = .returned (.tuple #[F0, .int .i64 1]) ∧ Below w.heap.size w w' := by
  have HB : Hid (∀ o, Below w.heap.size w (w.alloc o)) := fun o => alloc_below' w o
  have he := fun wx hx => isErased_any true a p cap wx ⟨fun _ => h, fun _ => rfl⟩ hm hx
  have HLA : Hid (∀ o, Lies (w.alloc o) a p) := fun o => hL.below (alloc_below' w o)
  clear h hL
  go_enter Al.func9, Tryd.ntmps9
  go_wp2_with fail
  refine (he _ (HLA.out _)).mono ?_
  rintro e w1 ⟨rfl, rfl⟩
  go_wp2_with fail
  refine bodyPost_ret (v := .tuple #[F0, .int .i64 1]) (by simp [results, Tryd.results9, go_sem]) rfl ?_
  exact ⟨rfl, HB.out _⟩
set_option maxHeartbeats 1600000 in
theorem open_bad (a : Option Addr) (p : List Nat) (cap : Nat) (w : World) (hm : p.length ≤ 9223372036854775807) (hL : Lies w a p) (h : ¬ ErasedP p)
    (hU : ∀ wx, Lies wx a p → Calls (Al.progOf Tryd.prog) 22 #[.slice a p.length cap] wx fun e w' => e = .returned (.tuple #[F0, .bool false]) ∧ Below wx.heap.size wx w') :
    Calls (Al.progOf Tryd.prog) 9 #[.slice a p.length cap] w fun e w' => e = .returned (.tuple #[F0, .int .i64 3]) ∧ Below w.heap.size w w' := by
  have he := fun wx hx => isErased_any false a p cap wx ⟨(fun e => by cases e), fun e => absurd e h⟩ hm hx
  have HLA : Hid (∀ o, Lies (w.alloc o) a p) := fun o => hL.below (alloc_below' w o)
  clear h hL
  go_enter Al.func9, Tryd.ntmps9
  go_wp2_with fail
  refine (he _ (HLA.out _)).mono ?_
  rintro e w1 ⟨rfl, rfl⟩
  go_wp2_with fail
  refine (hU _ (HLA.out _)).mono ?_
  rintro e w2 ⟨rfl, hb2⟩
  have H3 : Hid (∀ o, Below (w.alloc zeroF).heap.size (w.alloc zeroF) (w2.alloc o)) := fun o => hb2.alloc hb2.size o
  have H4 : Hid (∀ o, BoxAt (w2.alloc o) w.heap.size 0 0 0 none 0 0 ∧ (∀ i, (w2.alloc o).frozen? ⟨w.heap.size, i, none⟩ = false) ∧ Below w.heap.size w (w2.alloc o)) := fun o => zero_at (H3.out o)
  clear hb2 hU he H3
  have q0 := fun o => (H4.out o).1.c0
  have q1 := fun o => (H4.out o).1.c1
  have q2 := fun o => (H4.out o).1.c2
  have q3 := fun o => (H4.out o).1.c3
  have f0 := fun o => (H4.out o).2.1 0
  have f1 := fun o => (H4.out o).2.1 1
  have f2 := fun o => (H4.out o).2.1 2
  have f3 := fun o => (H4.out o).2.1 3
  go_wp2_with fail
  have hz := box_set (H4.out (boxF 0 0 0 none 0 0)).1 (.int .i64 0) (.int .i64 0) (.int .i64 0) (.slice none 0 0)
  refine bodyPost_ret (v := .tuple #[F0, .int .i64 3]) (by simp [results, Tryd.results9, go_sem, hz.1, hz.2.1, hz.2.2.1, hz.2.2.2]) rfl ?_
  exact ⟨rfl, below_four (H4.out _).2.2 _ _ _ _⟩
set_option maxHeartbeats 3200000 in
theorem open_name (a : Option Addr) (p : List Nat) (cap : Nat) (w : World) (h1 : 24 ≤ p.length) (h2 : p.length ≤ 4096) (hcap : p.length ≤ cap) (hA : AllB p) (hL : Lies w a p) (hE : ¬ ErasedP p) (h3 : longP p + 21 ≤ p.length) (hn : ¬ Named (kindP p : Nat) (lbaP p : Nat) (wr (seqP p))) :
    Calls (Al.progOf Tryd.prog) 9 #[.slice a p.length cap] w fun e w' => e = .returned (.tuple #[F0, .int .i64 3]) ∧ Below w.heap.size w w' := by
  have hL24 := h1
  obtain ⟨b, off, rfl, hc⟩ := hL.some_of (by omega)
  have hnE : ¬ ErasedP p := hE
  have he := fun wx hx => isErased_any false (some ⟨b, off, none⟩) p cap wx ⟨(fun e => by cases e), fun e => absurd e hnE⟩ (by omega) hx
  have HLA : Hid (Lies (w.alloc zeroF) (some ⟨b, off, none⟩) p) := hL.below (alloc_below' w zeroF)
  have HU := unpack_some (some ⟨b, off, none⟩) p cap (w.alloc zeroF) h1 h2 hcap hA HLA.out h3
  have HPA : Hid (AllB p) := hA
  have HDL : Hid ((dataP p).length = longP p ∧ AllB (dataP p)) := ⟨dataP_len h3, cutL_all hA⟩
  have hP := fun wx a1 c1 => pack_name (p.length : Int) (kindP p : Nat) (lbaP p : Nat) (wr (seqP p)) a1 (longP p) c1 wx (by omega) hn
  clear hn
  clear hE hnE hL hc h3
  go_enter Al.func9, Tryd.ntmps9
  go_wp2_with fail
  refine (he _ HLA.out).mono ?_
  rintro e w1 ⟨rfl, rfl⟩
  go_wp2_with fail
  refine HU.mono ?_
  rintro e w2 ⟨a1, c1, rfl, hO, hb2⟩
  have HI2 : Hid (Below (w.alloc zeroF).heap.size (w.alloc zeroF) (w2.alloc (boxF (kindP p : Nat) (lbaP p : Nat) (wr (seqP p)) a1 (longP p) c1)) ∧ BoxAt (w2.alloc (boxF (kindP p : Nat) (lbaP p : Nat) (wr (seqP p)) a1 (longP p) c1)) w2.heap.size (kindP p : Nat) (lbaP p : Nat) (wr (seqP p)) a1 (longP p) c1 ∧ OwnA (w2.alloc (boxF (kindP p : Nat) (lbaP p : Nat) (wr (seqP p)) a1 (longP p) c1)) (w.alloc zeroF).heap.size a1 c1 (dataP p) ∧ (w.alloc zeroF).heap.size ≤ w2.heap.size) :=
    ⟨hb2.alloc hb2.size _, box_new w2 _ _ _ _ _ _, hO.below (alloc_below' w2 _), hb2.size⟩
  clear hO hb2 HU he
  generalize kindP p = KK at *
  generalize lbaP p = LL at *
  generalize wr (seqP p) = SS at *
  generalize longP p = DD at *
  go_wp2_with fail
  refine (hP _ _ _).mono ?_
  rintro e w3 ⟨rfl, hb3⟩
  have H4 : Hid (BoxAt w3 w.heap.size 0 0 0 none 0 0 ∧ (∀ i, w3.frozen? ⟨w.heap.size, i, none⟩ = false) ∧ Below w.heap.size w w3) := zero_at (HI2.out.1.trans (hb3.mono HI2.out.1.size))
  clear hb3 HI2 hP
  have q0 := H4.out.1.c0
  have q1 := H4.out.1.c1
  have q2 := H4.out.1.c2
  have q3 := H4.out.1.c3
  have f0 := H4.out.2.1 0
  have f1 := H4.out.2.1 1
  have f2 := H4.out.2.1 2
  have f3 := H4.out.2.1 3
  go_wp2_with fail
  have hz := box_set H4.out.1 (.int .i64 0) (.int .i64 0) (.int .i64 0) (.slice none 0 0)
  refine bodyPost_ret (v := .tuple #[F0, .int .i64 3]) (by simp [results, Tryd.results9, go_sem, hz.1, hz.2.1, hz.2.2.1, hz.2.2.2]) rfl ?_
  exact ⟨rfl, below_four H4.out.2.2 _ _ _ _⟩
set_option maxHeartbeats 3200000 in
theorem open_uneq (a : Option Addr) (p : List Nat) (cap : Nat) (w : World) (h1 : 24 ≤ p.length) (h2 : p.length ≤ 4096) (hcap : p.length ≤ cap) (hA : AllB p) (hL : Lies w a p) (hE : ¬ ErasedP p) (h3 : longP p + 21 ≤ p.length) (hF : FOk p.length (kindP p) (lbaP p) (seqP p) (longP p)) (hne : packL p.length (kindP p) (lbaP p) (seqP p) (dataP p) ≠ p) :
    Calls (Al.progOf Tryd.prog) 9 #[.slice a p.length cap] w fun e w' => e = .returned (.tuple #[F0, .int .i64 3]) ∧ Below w.heap.size w w' := by
  have hL24 := h1
  obtain ⟨b, off, rfl, hc⟩ := hL.some_of (by omega)
  have hnE : ¬ ErasedP p := hE
  have he := fun wx hx => isErased_any false (some ⟨b, off, none⟩) p cap wx ⟨(fun e => by cases e), fun e => absurd e hnE⟩ (by omega) hx
  have HLA : Hid (Lies (w.alloc zeroF) (some ⟨b, off, none⟩) p) := hL.below (alloc_below' w zeroF)
  have HU := unpack_some (some ⟨b, off, none⟩) p cap (w.alloc zeroF) h1 h2 hcap hA HLA.out h3
  have HPA : Hid (AllB p) := hA
  have HDL : Hid ((dataP p).length = longP p ∧ AllB (dataP p)) := ⟨dataP_len h3, cutL_all hA⟩
  have hsq : wr (seqP p) = (seqP p : Nat) := wr_small (by have := hF.s1; omega)
  have HU2 : Calls (Al.progOf Tryd.prog) 22 #[.slice (some ⟨b, off, none⟩) p.length cap] (w.alloc zeroF) fun e w' => ∃ a c, e = .returned (.tuple #[FV (kindP p : Nat) (lbaP p : Nat) (seqP p : Nat) a (longP p) c, .bool true]) ∧ OwnA w' (w.alloc zeroF).heap.size a c (dataP p) ∧ Below (w.alloc zeroF).heap.size (w.alloc zeroF) w' := HU.mono fun e w' h => by
    obtain ⟨a, c, h4, h5⟩ := h
    rw [hsq] at h4
    exact ⟨a, c, h4, h5⟩
  have hP : ∀ wx a1 c1, Lies wx a1 (dataP p) → Calls (Al.progOf Tryd.prog) 5 #[.int .i64 p.length, FV (kindP p : Nat) (lbaP p : Nat) (seqP p : Nat) a1 (longP p) c1] wx fun e w' => ∃ g, e = .returned (.tuple #[.slice (some ⟨g, 0, none⟩) p.length p.length, .nilIface]) ∧ wx.heap.size ≤ g ∧ Row w' g (packL p.length (kindP p) (lbaP p) (seqP p) (dataP p)) ∧ Below wx.heap.size wx w' := fun wx a1 c1 hx => by
    have := pack_good p.length (kindP p) (lbaP p) (seqP p) a1 c1 (dataP p) wx (by rw [HDL.out.1]; exact hF) HDL.out.2 hx
    rw [HDL.out.1] at this
    exact this
  have HPK : Hid ((packL p.length (kindP p) (lbaP p) (seqP p) (dataP p)).length = p.length ∧ AllB (packL p.length (kindP p) (lbaP p) (seqP p) (dataP p))) := ⟨packL_len _ _ _ _ _ (by rw [HDL.out.1]; exact h3), packL_all _ _ _ _ _ (by have := hF.k1; omega) HDL.out.2⟩
  have HCp : Hid (∀ w', Below (w.alloc zeroF).heap.size (w.alloc zeroF) w' → ∀ i, i < p.length → w'.cell? ⟨b, off + i, none⟩ = some (.int .u8 ((p[i]?.getD 0 : Nat) : Int))) := fun w' hb i hi => by
    have e : (w.alloc zeroF).cell? ⟨b, off + i, none⟩ = some (.int .u8 ((p[i]?.getD 0 : Nat) : Int)) := by rw [(alloc_below' w zeroF).cell (p := ⟨b, off + i, none⟩) (World.block_lt_of_cell? w _ (hc i hi))]; exact hc i hi
    rw [hb.cell (p := ⟨b, off + i, none⟩) (World.block_lt_of_cell? _ _ e)]
    exact e
  obtain ⟨PG, HPG⟩ : ∃ L, Hid (packL p.length (kindP p) (lbaP p) (seqP p) (dataP p) = L) := ⟨_, rfl⟩
  have HNE : Hid (PG ≠ p) := by rw [← HPG.out]; exact hne
  clear hne
  rw [HPG.out] at hP
  have HPK2 : Hid (PG.length = p.length ∧ AllB PG) := by rw [← HPG.out]; exact HPK.out
  clear HU HPK HPG hsq hF
  clear hE hnE hL hc h3
  go_enter Al.func9, Tryd.ntmps9
  go_wp2_with fail
  refine (he _ HLA.out).mono ?_
  rintro e w1 ⟨rfl, rfl⟩
  go_wp2_with fail
  refine HU2.mono ?_
  rintro e w2 ⟨a1, c1, rfl, hO, hb2⟩
  have HI2 : Hid (Below (w.alloc zeroF).heap.size (w.alloc zeroF) (w2.alloc (boxF (kindP p : Nat) (lbaP p : Nat) (seqP p : Nat) a1 (longP p) c1)) ∧ BoxAt (w2.alloc (boxF (kindP p : Nat) (lbaP p : Nat) (seqP p : Nat) a1 (longP p) c1)) w2.heap.size (kindP p : Nat) (lbaP p : Nat) (seqP p : Nat) a1 (longP p) c1 ∧ OwnA (w2.alloc (boxF (kindP p : Nat) (lbaP p : Nat) (seqP p : Nat) a1 (longP p) c1)) (w.alloc zeroF).heap.size a1 c1 (dataP p) ∧ (w.alloc zeroF).heap.size ≤ w2.heap.size) :=
    ⟨hb2.alloc hb2.size _, box_new w2 _ _ _ _ _ _, hO.below (alloc_below' w2 _), hb2.size⟩
  clear hO hb2 HU2 he
  generalize kindP p = KK at *
  generalize lbaP p = LL at *
  generalize seqP p = SS at *
  generalize longP p = DD at *
  generalize dataP p = DT at *
  go_wp2_with fail
  refine (hP _ _ _ HI2.out.2.2.1.lies).mono ?_
  rintro e w3 ⟨g, rfl, hg, hr, hb3⟩
  have H4 : Hid (BoxAt w3 w.heap.size 0 0 0 none 0 0 ∧ (∀ i, w3.frozen? ⟨w.heap.size, i, none⟩ = false) ∧ Below w.heap.size w w3) := zero_at (HI2.out.1.trans (hb3.mono HI2.out.1.size))
  have H5 : Hid (BoxAt w3 w2.heap.size KK LL SS a1 DD c1 ∧ OwnA w3 (w.alloc zeroF).heap.size a1 c1 DT ∧ (w.alloc zeroF).heap.size ≤ w2.heap.size) := ⟨HI2.out.2.1.below hb3, HI2.out.2.2.1.below hb3, HI2.out.2.2.2⟩
  have heq : Calls (Al.progOf Tryd.prog) 23 #[.slice (some ⟨g, 0, none⟩) p.length p.length, .slice (some ⟨b, off, none⟩) p.length cap] w3 fun e w' => e = .returned (.bool (decide (PG = p))) ∧ w' = w3 := by
    have := equal_any g 0 PG p.length b off p cap w3 HPK2.out.2 HPA.out (fun i hi => by rw [Nat.zero_add]; exact row_cell hr i hi) (HCp.out w3 (HI2.out.1.trans (hb3.mono HI2.out.1.size)))
    rw [show (Value.slice (some ⟨g, 0, none⟩) PG.length p.length) = .slice (some ⟨g, 0, none⟩) p.length p.length by rw [HPK2.out.1]] at this
    exact this
  clear hb3 hr hg HI2 hP HCp
  rw [decide_eq_false HNE.out] at heq
  clear H5
  have q0 := H4.out.1.c0
  have q1 := H4.out.1.c1
  have q2 := H4.out.1.c2
  have q3 := H4.out.1.c3
  have f0 := H4.out.2.1 0
  have f1 := H4.out.2.1 1
  have f2 := H4.out.2.1 2
  have f3 := H4.out.2.1 3
  go_wp2_with fail
  refine heq.mono ?_
  rintro e w4 ⟨rfl, rfl⟩
  go_wp2_with fail
  have hz := box_set H4.out.1 (.int .i64 0) (.int .i64 0) (.int .i64 0) (.slice none 0 0)
  refine bodyPost_ret (v := .tuple #[F0, .int .i64 3]) (by simp [results, Tryd.results9, go_sem, hz.1, hz.2.1, hz.2.2.1, hz.2.2.2]) rfl ?_
  exact ⟨rfl, below_four H4.out.2.2 _ _ _ _⟩
/-- What Open tells of a page that is a frame's. -/
def ValidPost (w w' : World) (e : Ending) (p : List Nat) : Prop := ∃ a c, e = .returned (.tuple #[FV (kindP p : Nat) (lbaP p : Nat) (seqP p : Nat) a (longP p) c, .int .i64 2]) ∧ OwnA w' w.heap.size a c (dataP p) ∧ Below w.heap.size w w'
set_option maxHeartbeats 3200000 in
theorem open_eq (a : Option Addr) (p : List Nat) (cap : Nat) (w : World) (h1 : 24 ≤ p.length) (h2 : p.length ≤ 4096) (hcap : p.length ≤ cap) (hA : AllB p) (hL : Lies w a p) (hE : ¬ ErasedP p) (h3 : longP p + 21 ≤ p.length) (hF : FOk p.length (kindP p) (lbaP p) (seqP p) (longP p)) (heq0 : packL p.length (kindP p) (lbaP p) (seqP p) (dataP p) = p) :
    Calls (Al.progOf Tryd.prog) 9 #[.slice a p.length cap] w fun e w' => ValidPost w w' e p := by
  have hL24 := h1
  obtain ⟨b, off, rfl, hc⟩ := hL.some_of (by omega)
  have hnE : ¬ ErasedP p := hE
  have he := fun wx hx => isErased_any false (some ⟨b, off, none⟩) p cap wx ⟨(fun e => by cases e), fun e => absurd e hnE⟩ (by omega) hx
  have HLA : Hid (Lies (w.alloc zeroF) (some ⟨b, off, none⟩) p) := hL.below (alloc_below' w zeroF)
  have HU := unpack_some (some ⟨b, off, none⟩) p cap (w.alloc zeroF) h1 h2 hcap hA HLA.out h3
  have HPA : Hid (AllB p) := hA
  have HDL : Hid ((dataP p).length = longP p ∧ AllB (dataP p)) := ⟨dataP_len h3, cutL_all hA⟩
  have hsq : wr (seqP p) = (seqP p : Nat) := wr_small (by have := hF.s1; omega)
  have HU2 : Calls (Al.progOf Tryd.prog) 22 #[.slice (some ⟨b, off, none⟩) p.length cap] (w.alloc zeroF) fun e w' => ∃ a c, e = .returned (.tuple #[FV (kindP p : Nat) (lbaP p : Nat) (seqP p : Nat) a (longP p) c, .bool true]) ∧ OwnA w' (w.alloc zeroF).heap.size a c (dataP p) ∧ Below (w.alloc zeroF).heap.size (w.alloc zeroF) w' := HU.mono fun e w' h => by
    obtain ⟨a, c, h4, h5⟩ := h
    rw [hsq] at h4
    exact ⟨a, c, h4, h5⟩
  have hP : ∀ wx a1 c1, Lies wx a1 (dataP p) → Calls (Al.progOf Tryd.prog) 5 #[.int .i64 p.length, FV (kindP p : Nat) (lbaP p : Nat) (seqP p : Nat) a1 (longP p) c1] wx fun e w' => ∃ g, e = .returned (.tuple #[.slice (some ⟨g, 0, none⟩) p.length p.length, .nilIface]) ∧ wx.heap.size ≤ g ∧ Row w' g (packL p.length (kindP p) (lbaP p) (seqP p) (dataP p)) ∧ Below wx.heap.size wx w' := fun wx a1 c1 hx => by
    have := pack_good p.length (kindP p) (lbaP p) (seqP p) a1 c1 (dataP p) wx (by rw [HDL.out.1]; exact hF) HDL.out.2 hx
    rw [HDL.out.1] at this
    exact this
  have HPK : Hid ((packL p.length (kindP p) (lbaP p) (seqP p) (dataP p)).length = p.length ∧ AllB (packL p.length (kindP p) (lbaP p) (seqP p) (dataP p))) := ⟨packL_len _ _ _ _ _ (by rw [HDL.out.1]; exact h3), packL_all _ _ _ _ _ (by have := hF.k1; omega) HDL.out.2⟩
  have HCp : Hid (∀ w', Below (w.alloc zeroF).heap.size (w.alloc zeroF) w' → ∀ i, i < p.length → w'.cell? ⟨b, off + i, none⟩ = some (.int .u8 ((p[i]?.getD 0 : Nat) : Int))) := fun w' hb i hi => by
    have e : (w.alloc zeroF).cell? ⟨b, off + i, none⟩ = some (.int .u8 ((p[i]?.getD 0 : Nat) : Int)) := by rw [(alloc_below' w zeroF).cell (p := ⟨b, off + i, none⟩) (World.block_lt_of_cell? w _ (hc i hi))]; exact hc i hi
    rw [hb.cell (p := ⟨b, off + i, none⟩) (World.block_lt_of_cell? _ _ e)]
    exact e
  obtain ⟨PG, HPG⟩ : ∃ L, Hid (packL p.length (kindP p) (lbaP p) (seqP p) (dataP p) = L) := ⟨_, rfl⟩
  have HNE : Hid (PG = p) := by rw [← HPG.out]; exact heq0
  clear heq0
  have HV : Hid (∀ w' a c, OwnA w' w.heap.size a c (dataP p) → Below w.heap.size w w' → ValidPost w w' (.returned (.tuple #[FV (kindP p : Nat) (lbaP p : Nat) (seqP p : Nat) a (longP p) c, .int .i64 2])) p) := fun w' a c h6 h7 => ⟨a, c, rfl, h6, h7⟩
  rw [HPG.out] at hP
  have HPK2 : Hid (PG.length = p.length ∧ AllB PG) := by rw [← HPG.out]; exact HPK.out
  clear HU HPK HPG hsq hF
  clear hE hnE hL hc h3
  go_enter Al.func9, Tryd.ntmps9
  go_wp2_with fail
  refine (he _ HLA.out).mono ?_
  rintro e w1 ⟨rfl, rfl⟩
  go_wp2_with fail
  refine HU2.mono ?_
  rintro e w2 ⟨a1, c1, rfl, hO, hb2⟩
  have HI2 : Hid (Below (w.alloc zeroF).heap.size (w.alloc zeroF) (w2.alloc (boxF (kindP p : Nat) (lbaP p : Nat) (seqP p : Nat) a1 (longP p) c1)) ∧ BoxAt (w2.alloc (boxF (kindP p : Nat) (lbaP p : Nat) (seqP p : Nat) a1 (longP p) c1)) w2.heap.size (kindP p : Nat) (lbaP p : Nat) (seqP p : Nat) a1 (longP p) c1 ∧ OwnA (w2.alloc (boxF (kindP p : Nat) (lbaP p : Nat) (seqP p : Nat) a1 (longP p) c1)) (w.alloc zeroF).heap.size a1 c1 (dataP p) ∧ (w.alloc zeroF).heap.size ≤ w2.heap.size) :=
    ⟨hb2.alloc hb2.size _, box_new w2 _ _ _ _ _ _, hO.below (alloc_below' w2 _), hb2.size⟩
  clear hO hb2 HU2 he
  generalize kindP p = KK at *
  generalize lbaP p = LL at *
  generalize seqP p = SS at *
  generalize longP p = DD at *
  generalize dataP p = DT at *
  go_wp2_with fail
  refine (hP _ _ _ HI2.out.2.2.1.lies).mono ?_
  rintro e w3 ⟨g, rfl, hg, hr, hb3⟩
  have H4 : Hid (BoxAt w3 w.heap.size 0 0 0 none 0 0 ∧ (∀ i, w3.frozen? ⟨w.heap.size, i, none⟩ = false) ∧ Below w.heap.size w w3) := zero_at (HI2.out.1.trans (hb3.mono HI2.out.1.size))
  have H5 : Hid (BoxAt w3 w2.heap.size KK LL SS a1 DD c1 ∧ OwnA w3 (w.alloc zeroF).heap.size a1 c1 DT ∧ (w.alloc zeroF).heap.size ≤ w2.heap.size) := ⟨HI2.out.2.1.below hb3, HI2.out.2.2.1.below hb3, HI2.out.2.2.2⟩
  have heq : Calls (Al.progOf Tryd.prog) 23 #[.slice (some ⟨g, 0, none⟩) p.length p.length, .slice (some ⟨b, off, none⟩) p.length cap] w3 fun e w' => e = .returned (.bool (decide (PG = p))) ∧ w' = w3 := by
    have := equal_any g 0 PG p.length b off p cap w3 HPK2.out.2 HPA.out (fun i hi => by rw [Nat.zero_add]; exact row_cell hr i hi) (HCp.out w3 (HI2.out.1.trans (hb3.mono HI2.out.1.size)))
    rw [show (Value.slice (some ⟨g, 0, none⟩) PG.length p.length) = .slice (some ⟨g, 0, none⟩) p.length p.length by rw [HPK2.out.1]] at this
    exact this
  clear hb3 hr hg HI2 hP HCp
  rw [decide_eq_true HNE.out] at heq
  have q0 := H4.out.1.c0
  have q1 := H4.out.1.c1
  have q2 := H4.out.1.c2
  have q3 := H4.out.1.c3
  have f0 := H4.out.2.1 0
  have f1 := H4.out.2.1 1
  have f2 := H4.out.2.1 2
  have f3 := H4.out.2.1 3
  have r0 := H5.out.1.c0
  have r1 := H5.out.1.c1
  have r2 := H5.out.1.c2
  have r3 := H5.out.1.c3
  go_wp2_with fail
  refine heq.mono ?_
  rintro e w4 ⟨rfl, rfl⟩
  clear heq
  go_wp2_with fail
  have hz := box_set H4.out.1 (.int .i64 (KK : Int)) (.int .i64 (LL : Int)) (.int .i64 (SS : Int)) (.slice a1 DD c1)
  refine bodyPost_ret (v := .tuple #[FV (KK : Nat) (LL : Nat) (SS : Nat) a1 DD c1, .int .i64 2]) (by simp [results, Tryd.results9, go_sem, hz.1, hz.2.1, hz.2.2.1, hz.2.2.2]) rfl ?_
  exact HV.out _ _ _ ((H5.out.2.1.keep (keep_four _ w.heap.size _ _ _ _) (fun q hq e => by have h6 := (H5.out.2.1.ge hq).1; simp at h6; omega)).base (by simp)) (below_four H4.out.2.2 _ _ _ _)
/-- ANY BYTES: erased, a frame's, or broken. -/
theorem open_any (a : Option Addr) (p : List Nat) (cap : Nat) (w : World) (hA : AllB p) (hL : Lies w a p) (hcap : p.length ≤ cap) (hm : p.length ≤ 9223372036854775807) :
    Calls (Al.progOf Tryd.prog) 9 #[.slice a p.length cap] w fun e w' => (ErasedP p ∧ e = .returned (.tuple #[F0, .int .i64 1]) ∧ Below w.heap.size w w') ∨ (¬ ErasedP p ∧ ValidP p ∧ ValidPost w w' e p) ∨ (¬ ErasedP p ∧ ¬ ValidP p ∧ e = .returned (.tuple #[F0, .int .i64 3]) ∧ Below w.heap.size w w') := by
  by_cases hE : ErasedP p
  · exact (open_erased a p cap w hm hL hE).mono fun e w' ⟨h1, h2⟩ => Or.inl ⟨hE, h1, h2⟩
  by_cases h1 : 24 ≤ p.length ∧ p.length ≤ 4096
  case neg => exact (open_bad a p cap w hm hL hE (fun wx _ => unpack_size a p.length cap wx (by omega))).mono fun e w' ⟨h2, h3⟩ => Or.inr (Or.inr ⟨hE, fun hv => h1 ⟨hv.1.n0, hv.1.n1⟩, h2, h3⟩)
  obtain ⟨h1, h2⟩ := h1
  by_cases h3 : longP p + 21 ≤ p.length
  case neg => exact (open_bad a p cap w hm hL hE (fun wx hx => unpack_long a p cap wx h1 h2 hcap hA hx h3)).mono fun e w' ⟨h4, h5⟩ => Or.inr (Or.inr ⟨hE, fun hv => h3 hv.1.d1, h4, h5⟩)
  have hs64 : seqP p < 18446744073709551616 := by
    have := num_lt (cutL p 6 8) (cutL_all hA)
    rw [cutL_len (by omega)] at this
    exact this
  by_cases hn : Named (kindP p : Nat) (lbaP p : Nat) (wr (seqP p))
  case neg =>
    refine (open_name a p cap w h1 h2 hcap hA hL hE h3 hn).mono fun e w' ⟨h4, h5⟩ => Or.inr (Or.inr ⟨hE, fun hv => hn ?_, h4, h5⟩)
    have hq := hv.1
    refine ⟨⟨by have := hq.k0; omega, by have := hq.k1; omega⟩, ⟨by omega, by have := hq.l1; omega⟩, ?_⟩
    rw [wr_small (by have := hq.s1; omega)]
    exact ⟨by omega, by have := hq.s1; omega⟩
  have hsm : seqP p < 9223372036854775808 := by
    by_cases hb : seqP p < 9223372036854775808
    · exact hb
    · have := wr_neg (by omega : 9223372036854775808 ≤ seqP p) hs64
      have := hn.2.2.1
      omega
  rw [show wr (seqP p) = (seqP p : Nat) from wr_small hsm] at hn
  have hF : FOk p.length (kindP p) (lbaP p) (seqP p) (longP p) := ⟨h1, h2, by have := hn.1.1; omega, by have := hn.1.2; omega, by have := hn.2.1.2; omega, by have := hn.2.2.2; omega, h3⟩
  by_cases he : packL p.length (kindP p) (lbaP p) (seqP p) (dataP p) = p
  · exact (open_eq a p cap w h1 h2 hcap hA hL hE h3 hF he).mono fun e w' h => Or.inr (Or.inl ⟨hE, ⟨hF, he⟩, h⟩)
  · exact (open_uneq a p cap w h1 h2 hcap hA hL hE h3 hF he).mono fun e w' ⟨h4, h5⟩ => Or.inr (Or.inr ⟨hE, fun hv => he hv.2, h4, h5⟩)
end Go.Proofs.YtobpjijdebnaoaaDoorQ
namespace Go.Proofs.YtobpjijdebnaoaaDoorQ
open Go.Proofs.YtobpjijdebnaoaaDoorM
open Go.RowKit
def SightPost (w w' : World) (e : Ending) (p : List Nat) : Prop := ∃ a d c, e = .returned (.tuple #[FV (kdP p : Nat) (lbP p : Nat) (sqP p : Nat) a d c, .int .i64 (stP p : Nat)]) ∧ Below w.heap.size w w'
theorem open_sight (a : Option Addr) (p : List Nat) (cap : Nat) (w : World) (hA : AllB p) (hL : Lies w a p) (hcap : p.length ≤ cap) (hm : p.length ≤ 9223372036854775807) :
    Calls (Al.progOf Tryd.prog) 9 #[.slice a p.length cap] w fun e w' => SightPost w w' e p := by
  refine (open_any a p cap w hA hL hcap hm).mono ?_
  rintro e w' (⟨h1, rfl, h2⟩ | ⟨h1, h2, a', c', rfl, _, h3⟩ | ⟨h1, h2, rfl, h3⟩)
  · obtain ⟨e1, e2, e3, e4⟩ := tell_erased h1
    exact ⟨none, 0, 0, by rw [e1, e2, e3, e4]; rfl, h2⟩
  · obtain ⟨e1, e2, e3, e4⟩ := tell_valid h1 h2
    exact ⟨a', _, c', by rw [e1, e2, e3, e4]; rfl, h3⟩
  · obtain ⟨e1, e2, e3, e4⟩ := tell_broken h1 h2
    exact ⟨none, 0, 0, by rw [e1, e2, e3, e4]; rfl, h3⟩
end Go.Proofs.YtobpjijdebnaoaaDoorQ
namespace Go.Proofs.YtobpjijdebnaoaaDoorQ
open Go.Proofs.YtobpjijdebnaoaaDoorM
open Go.RowKit
set_option linter.unusedVariables false
/-- A page: where its bytes lie, the bytes, the room. -/
structure Pg where
  a : Option Addr
  p : List Nat
  c : Nat
abbrev pg0 : Pg := ⟨none, [], 0⟩
def gP (L : List Pg) (i : Nat) : Pg := L[i]?.getD pg0
structure PgAt (w : World) (g : Pg) : Prop where
  all : AllB g.p
  lies : Lies w g.a g.p
  cap : g.p.length ≤ g.c
  most : g.p.length ≤ 9223372036854775807
def PagesAt (w : World) (b off : Nat) (L : List Pg) : Prop := ∀ i, i < L.length → w.cell? ⟨b, off + i, none⟩ = some (.slice (gP L i).a (gP L i).p.length (gP L i).c) ∧ PgAt w (gP L i)
theorem lies_cell {w w' : World} {x : Addr} {v : Value} (hb : Below w.heap.size w w') (h : w.cell? x = some v) : w'.cell? x = some v := by
  have hlt : x.block < w.heap.size := by
    unfold World.cell? at h
    cases hh : w.heap[x.block]? with
    | none => rw [hh] at h; cases h
    | some o => exact (Array.getElem?_eq_some_iff.1 hh).1
  rw [hb.cell hlt]
  exact h
theorem PagesAt.below {w w' : World} {b off : Nat} {L : List Pg} (h : PagesAt w b off L) (hb : Below w.heap.size w w') : PagesAt w' b off L := fun i hi => by
  obtain ⟨h1, h2⟩ := h i hi
  exact ⟨lies_cell hb h1, ⟨h2.all, h2.lies.below hb, h2.cap, h2.most⟩⟩
/-- What stands in the row of one page. -/
structure SAt (cs : Array Value) (i : Nat) (p : List Nat) : Prop where
  c0 : cs[5 * i]? = some (.int .i64 (stP p : Nat))
  c1 : cs[5 * i + 1]? = some (.int .i64 (lbP p : Nat))
  c2 : cs[5 * i + 2]? = some (.int .i64 (i : Nat))
  c3 : cs[5 * i + 3]? = some (.int .i64 (sqP p : Nat))
  c4 : cs[5 * i + 4]? = some (.int .i64 (kdP p : Nat))
structure RS (w wr : World) (L : List Pg) (k : Nat) : Prop where
  bel : Below w.heap.size w wr
  row : ∃ cs, wr.heap[w.heap.size]? = some (.cells cs 66 (0, 0)) ∧ cs.size = 5 * L.length ∧ ∀ i, i < k → SAt cs i (gP L i).p
def LookPost (w w' : World) (e : Ending) (L : List Pg) : Prop := e = .returned (.tuple #[.slice (some ⟨w.heap.size, 0, none⟩) L.length L.length, .nilIface]) ∧ RS w w' L L.length
def WS (w wr : World) : Prop := wr = w
theorem lookq_range (a : Option Addr) (l c : Nat) (n : Int) (w : World) (h : n < 1 ∨ n > 8) : Calls (Al.progOf Tryd.prog) 25 #[.slice a l c, .int .i64 n] w fun e w' => e = .returned (.tuple #[.slice none 0 0, .iface 47 (.int .i64 1)]) ∧ w' = w := by
  by_cases h1 : n < 1
  · go_enter Al.func25, Al.ntmps25
    unfold Al.lookB
    go_wp2
    go_ret2
    exact ⟨rfl, rfl⟩
  · have h2 : n > 8 := by omega
    go_enter Al.func25, Al.ntmps25
    unfold Al.lookB
    go_wp2
    go_ret2
    exact ⟨rfl, rfl⟩
theorem lookq_full (a : Option Addr) (l c : Nat) (n : Int) (w : World) (h0 : ¬ n < 1) (h8 : ¬ n > 8) (h : (l : Int) > 4096) : Calls (Al.progOf Tryd.prog) 25 #[.slice a l c, .int .i64 n] w fun e w' => e = .returned (.tuple #[.slice none 0 0, .iface 47 (.int .i64 3)]) ∧ w' = w := by
  go_enter Al.func25, Al.ntmps25
  unfold Al.lookB
  go_wp2
  go_ret2
  exact ⟨rfl, rfl⟩
/-- A row of noughts. -/
theorem zero_row (n : Nat) (hn : n ≤ 4096) : ∃ z : Value, ∀ wx : World, (Instr.makeSlice 62 (.int .i64 (n : Int)) (.int .i64 (n : Int))).run (Al.progOf Tryd.prog) wx = .ok (.slice (some ⟨wx.heap.size, 0, none⟩) n n) (wx.alloc (.cells (madeCells z.cells (n * 5)) 66)) := by
  refine ⟨.agg #[.int .i64 0, .int .i64 0, .int .i64 0, .int .i64 0, .int .i64 0], fun wx => ?_⟩
  have hb : ((((Al.progOf Tryd.prog).info? 66).getD default).bytes : Int) ≤ 1024 := Int.ofNat_le.2 (Nat.le_of_ble_eq_true (by kernel_rfl))
  have hs : (((Al.progOf Tryd.prog).info? 66).getD default).size = 5 := by kernel_rfl
  have hbn : ((((Al.progOf Tryd.prog).info? 66).getD default).bytes : Int) * n ≤ 1024 * 4096 := Int.mul_le_mul hb (by omega) (by omega) (by omega)
  have hr := run_make (P := (Al.progOf Tryd.prog)) wx 62 66 (((Al.progOf Tryd.prog).info? 66).getD default) (.agg #[.int .i64 0, .int .i64 0, .int .i64 0, .int .i64 0, .int .i64 0]) (by kernel_rfl) (by kernel_rfl) (by kernel_rfl) .i64 .i64 (n : Int) (n : Int) (by omega) (by omega) (by omega) (by omega)
  rw [Int.toNat_natCast, hs] at hr
  exact hr
theorem keep_five (w : World) (b o0 o1 o2 o3 o4 : Nat) (u0 u1 u2 u3 u4 : Value) : Keep (fun q => q = b) w (((((w.setCell ⟨b, o0, none⟩ u0).setCell ⟨b, o1, none⟩ u1).setCell ⟨b, o2, none⟩ u2).setCell ⟨b, o3, none⟩ u3).setCell ⟨b, o4, none⟩ u4) :=
  (((((Keep.refl (fun q => q = b) w).set (p := ⟨b, o0, none⟩) rfl u0).set (p := ⟨b, o1, none⟩) rfl u1).set (p := ⟨b, o2, none⟩) rfl u2).set (p := ⟨b, o3, none⟩) rfl u3).set (p := ⟨b, o4, none⟩) rfl u4
/-- Five cells of the row. -/
theorem RS.put {w wr : World} {L : List Pg} {k : Nat} (h : RS w wr L k) (hk : k < L.length) {w2 : World} (hb : Below wr.heap.size wr w2) :
    (∀ j, j < 5 → (∃ v, w2.cell? ⟨w.heap.size, 5 * k + j, none⟩ = some v) ∧ w2.frozen? ⟨w.heap.size, 5 * k + j, none⟩ = false) ∧
    RS w (((((w2.setCell ⟨w.heap.size, 5 * k, none⟩ (.int .i64 (stP (gP L k).p : Nat))).setCell ⟨w.heap.size, 5 * k + 1, none⟩ (.int .i64 (lbP (gP L k).p : Nat))).setCell ⟨w.heap.size, 5 * k + 2, none⟩ (.int .i64 (k : Nat))).setCell ⟨w.heap.size, 5 * k + 3, none⟩ (.int .i64 (sqP (gP L k).p : Nat))).setCell ⟨w.heap.size, 5 * k + 4, none⟩ (.int .i64 (kdP (gP L k).p : Nat))) L (k + 1) := by
  obtain ⟨cs, hcs, hsz, hat⟩ := h.row
  have hlt : w.heap.size < wr.heap.size := (Array.getElem?_eq_some_iff.1 hcs).1
  have h2 : w2.heap[w.heap.size]? = some (.cells cs 66 (0, 0)) := (hb.block _ hlt).trans hcs
  have key : ∀ (wx : World) (cx : Array Value) (o : Nat) (v : Value), wx.heap[w.heap.size]? = some (.cells cx 66 (0, 0)) → (wx.setCell ⟨w.heap.size, o, none⟩ v).heap[w.heap.size]? = some (.cells (cx.setIfInBounds o v) 66 (0, 0)) ∧ (wx.setCell ⟨w.heap.size, o, none⟩ v).heap.size = wx.heap.size ∧ ∀ q, q ≠ w.heap.size → (wx.setCell ⟨w.heap.size, o, none⟩ v).heap[q]? = wx.heap[q]? := fun wx cx o v hx => by
    have hl : w.heap.size < wx.heap.size := (Array.getElem?_eq_some_iff.1 hx).1
    have hv : wx.heap[w.heap.size] = .cells cx 66 (0, 0) := (Array.getElem?_eq_some_iff.1 hx).2
    refine ⟨?_, by simp [World.setCell], fun q hq => by simp [World.setCell, Array.getElem?_modify, Ne.symm hq]⟩
    simp [World.setCell, Array.getElem?_modify, hx]
  refine ⟨fun j hj => ⟨?_, by simp [World.frozen?, h2]⟩, ?_⟩
  · have : 5 * k + j < cs.size := by omega
    exact ⟨cs[5 * k + j], by simp [World.cell?, h2, this]⟩
  · have k0 := key w2 cs (5 * k) (.int .i64 (stP (gP L k).p : Nat)) h2
    have k1 := key _ _ (5 * k + 1) (.int .i64 (lbP (gP L k).p : Nat)) k0.1
    have k2 := key _ _ (5 * k + 2) (.int .i64 (k : Nat)) k1.1
    have k3 := key _ _ (5 * k + 3) (.int .i64 (sqP (gP L k).p : Nat)) k2.1
    have k4 := key _ _ (5 * k + 4) (.int .i64 (kdP (gP L k).p : Nat)) k3.1
    refine ⟨?_, _, k4.1, by simp [hsz], fun i hi => ?_⟩
    · have hk : Keep (fun q => q = w.heap.size) w2 _ := keep_five w2 w.heap.size (5 * k) (5 * k + 1) (5 * k + 2) (5 * k + 3) (5 * k + 4) (.int .i64 (stP (gP L k).p : Nat)) (.int .i64 (lbP (gP L k).p : Nat)) (.int .i64 (k : Nat)) (.int .i64 (sqP (gP L k).p : Nat)) (.int .i64 (kdP (gP L k).p : Nat))
      exact (h.bel.trans (hb.mono h.bel.size)).trans (hk.below (h.bel.trans (hb.mono h.bel.size)).size (fun q hq => by have e : q = w.heap.size := hq; omega))
    · by_cases e : i = k
      · subst e
        constructor <;> (simp only [Array.getElem?_setIfInBounds, Array.size_setIfInBounds]; repeat (first | rw [if_pos (by omega)] | rw [if_neg (by omega)])) <;> simp <;> omega
      · obtain ⟨c0, c1, c2, c3, c4⟩ := hat i (by omega)
        constructor <;> (simp only [Array.getElem?_setIfInBounds, Array.size_setIfInBounds]; repeat rw [if_neg (by omega)]) <;> assumption
set_option maxRecDepth 20000 in
set_option maxHeartbeats 4000000 in
theorem lookq_main (b off pc : Nat) (L : List Pg) (n : Int) (w : World) (h0 : ¬ n < 1) (h8 : ¬ n > 8) (hpos : 0 < L.length) (hl : L.length ≤ 4096) (hp : PagesAt w b off L) :
    Calls (Al.progOf Tryd.prog) 25 #[.slice (some ⟨b, off, none⟩) L.length pc, .int .i64 n] w fun e w' => LookPost w w' e L := by
  have HL : ¬ (L.length : Int) > 4096 := by omega
  have he : ∀ w : World, (binOp .eql 42 (.slice (some ⟨b, off, none⟩) L.length pc) (.slice none 0 0)).run (Al.progOf Tryd.prog) w = .ok (.bool false) w := fun _ => rfl
  have heS : ∀ (x : Addr) (l c : Nat) (w : World), (binOp .eql 22 (.slice (some x) l c) (.slice none 0 0)).run (Al.progOf Tryd.prog) w = .ok (.bool false) w := fun _ _ _ _ => rfl
  have heN : ∀ (l c : Nat) (w : World), (binOp .eql 22 (.slice none l c) (.slice none 0 0)).run (Al.progOf Tryd.prog) w = .ok (.bool true) w := fun _ _ _ => rfl
  have HP : Hid (PagesAt w b off L) := hp
  have HO : Hid (∀ wr, Below w.heap.size w wr → PagesAt wr b off L) := fun wr hb => hp.below hb
  obtain ⟨z, hz⟩ := zero_row L.length hl
  generalize z.cells = zc at hz
  have HZ : Hid (∀ cs : Array Value, RS w (w.alloc (.cells (madeCells cs (L.length * 5)) 66)) L 0) := fun cs => ⟨alloc_below' w _, _, heap_alloc_new w _, by simp [madeCells]; omega, fun i hi => absurd hi (Nat.not_lt_zero _)⟩
  have fi0 : ∀ (k l s : Int) (a : Option Addr) (d c : Nat) (w : World), (Instr.field 24 (FV k l s a d c) 0).run (Al.progOf Tryd.prog) w = .ok (.int .i64 k) w := fun _ _ _ _ _ _ _ => by kernel_rfl
  have fi1 : ∀ (k l s : Int) (a : Option Addr) (d c : Nat) (w : World), (Instr.field 24 (FV k l s a d c) 1).run (Al.progOf Tryd.prog) w = .ok (.int .i64 l) w := fun _ _ _ _ _ _ _ => by kernel_rfl
  have fi2 : ∀ (k l s : Int) (a : Option Addr) (d c : Nat) (w : World), (Instr.field 24 (FV k l s a d c) 2).run (Al.progOf Tryd.prog) w = .ok (.int .i64 s) w := fun _ _ _ _ _ _ _ => by kernel_rfl
  clear hp
  go_enter Al.func25, Al.ntmps25
  unfold Al.lookB
  go_wp2
  go_loopw [11] (fun j wr => ∃ k : Nat, k ≤ L.length ∧ j = .int .i64 k ∧ Hid (WS w wr)) (fun j _ => L.length - (intOf j).toNat)
  case atStart => exact ⟨0, Nat.zero_le _, rfl, rfl⟩
  case round =>
    obtain ⟨k, hk, rfl, hR⟩ := hrel
    have hwr : w = wr := hR.out.symm
    subst hwr
    clear hR
    by_cases hlt : k < L.length
    · obtain ⟨hc, hg⟩ := HP.out k hlt
      have k0 : (0 : Int) ≤ (k : Int) := by omega
      have k1 : (k : Int) < (L.length : Int) := by omega
      generalize gP L k = gg at hc hg
      obtain ⟨ga, gp, gc⟩ := gg
      have HG : Hid (AllB gp ∧ Lies w ga gp) := ⟨hg.all, hg.lies⟩
      have g1 : ¬ (gp.length : Int) > (gc : Int) := by have := hg.cap; simp only at this; omega
      have g2 : ¬ (gp.length : Int) > 9223372036854775807 := by have := hg.most; simp only at this; omega
      simp only at hc
      clear hg
      rcases Classical.em (gp = []) with hnil | hne
      · subst hnil
        cases ga with
        | none =>
          go_wp2
          go_loopw [17] (fun j wx => j = .int .i64 0 ∧ Hid (WS w wx)) (fun _ _ => 0)
          case atStart => exact ⟨rfl, rfl⟩
          case round =>
            obtain ⟨rfl, hX⟩ := hrel
            have hwx : w = wr := hX.out.symm
            subst hwx
            go_wp2
            exact ⟨⟨k + 1, by omega, by go_num, rfl⟩, by simp [intOf]; omega⟩
        | some x =>
          go_wp2
          go_loopw [17] (fun j wx => j = .int .i64 0 ∧ Hid (WS w wx)) (fun _ _ => 0)
          case atStart => exact ⟨rfl, rfl⟩
          case round =>
            obtain ⟨rfl, hX⟩ := hrel
            have hwx : w = wr := hX.out.symm
            subst hwx
            go_wp2
            exact ⟨⟨k + 1, by omega, by go_num, rfl⟩, by simp [intOf]; omega⟩
      · obtain ⟨bb, oo, rfl, hby⟩ : ∃ bb oo, ga = some ⟨bb, oo, none⟩ ∧ ∀ i, i < gp.length → w.cell? ⟨bb, oo + i, none⟩ = some (.int .u8 ((gp[i]?.getD 0 : Nat) : Int)) := HG.out.2.resolve_left hne
        have hall : Hid (∀ i : Nat, ¬ ((gp[i]?.getD 0 : Nat) : Int) > 255) := fun i => by
          have := HG.out.1
          cases hi : gp[i]? with
          | none => simp
          | some x => have := this x (List.mem_of_getElem? hi); simp; omega
        have HB : Hid (∀ i, i < gp.length → w.cell? ⟨bb, oo + i, none⟩ = some (.int .u8 ((gp[i]?.getD 0 : Nat) : Int))) := hby
        clear hby hne HG
        go_wp2
        go_loopw [17] (fun j wx => ∃ q : Nat, q ≤ gp.length ∧ j = .int .i64 q ∧ Hid (WS w wx)) (fun j _ => gp.length - (intOf j).toNat)
        case atStart => exact ⟨0, Nat.zero_le _, rfl, rfl⟩
        case round =>
          obtain ⟨q, hq, rfl, hX⟩ := hrel
          have hwx : w = wr := hX.out.symm
          subst hwx
          clear hX
          by_cases hqt : q < gp.length
          · have q0 : (0 : Int) ≤ (q : Int) := by omega
            have q1 : (q : Int) < (gp.length : Int) := by omega
            have hcell := HB.out q hqt
            have hsm := hall.out q
            generalize gp[q]?.getD 0 = zz at hcell hsm
            have hz0 : ¬ ((zz : Nat) : Int) < 0 := by omega
            go_wp2
            exact ⟨⟨q + 1, by omega, by go_num, rfl⟩, by simp [intOf]; omega⟩
          · obtain rfl : q = gp.length := by omega
            clear hqt
            go_wp2
            exact ⟨⟨k + 1, by omega, by go_num, rfl⟩, by simp [intOf]; omega⟩
    · obtain rfl : k = L.length := by omega
      clear hlt
      go_wp2
      go_loopw [26] (fun j wr => ∃ k : Nat, k ≤ L.length ∧ j = .int .i64 k ∧ Hid (RS w wr L k)) (fun j _ => L.length - (intOf j).toNat)
      case atStart => exact ⟨0, Nat.zero_le _, rfl, HZ.out _⟩
      case round =>
        obtain ⟨k, hk, rfl, hR⟩ := hrel
        by_cases hlt : k < L.length
        · obtain ⟨hc, hg⟩ := HO.out wr hR.out.bel k hlt
          have k0 : (0 : Int) ≤ (k : Int) := by omega
          have k1 : (k : Int) < (L.length : Int) := by omega
          have HPut : Hid (∀ w2, Below wr.heap.size wr w2 → (∀ j, j < 5 → (∃ v, w2.cell? ⟨w.heap.size, 5 * k + j, none⟩ = some v) ∧ w2.frozen? ⟨w.heap.size, 5 * k + j, none⟩ = false) ∧
            RS w (((((w2.setCell ⟨w.heap.size, 5 * k, none⟩ (.int .i64 (stP (gP L k).p : Nat))).setCell ⟨w.heap.size, 5 * k + 1, none⟩ (.int .i64 (lbP (gP L k).p : Nat))).setCell ⟨w.heap.size, 5 * k + 2, none⟩ (.int .i64 (k : Nat))).setCell ⟨w.heap.size, 5 * k + 3, none⟩ (.int .i64 (sqP (gP L k).p : Nat))).setCell ⟨w.heap.size, 5 * k + 4, none⟩ (.int .i64 (kdP (gP L k).p : Nat))) L (k + 1)) := fun w2 hb => hR.out.put hlt hb
          have HS : Hid (Calls (Al.progOf Tryd.prog) 9 #[.slice (gP L k).a (gP L k).p.length (gP L k).c] wr fun e w' => ∃ a d c, e = .returned (.tuple #[FV (kdP (gP L k).p : Nat) (lbP (gP L k).p : Nat) (sqP (gP L k).p : Nat) a d c, .int .i64 (stP (gP L k).p : Nat)]) ∧ Below wr.heap.size wr w') := open_sight _ _ _ wr hg.all hg.lies hg.cap hg.most
          clear hR hg
          generalize gP L k = gg at *
          obtain ⟨ga, gp, gc⟩ := gg
          generalize stP gp = ST at *
          generalize lbP gp = LB at *
          generalize sqP gp = SQ at *
          generalize kdP gp = KD at *
          simp only at hc HS
          go_wp2_with fail
          refine HS.out.mono ?_
          rintro e w2 ⟨fa, fd, fc, rfl, hb⟩
          have em : 5 * k = k * 5 := Nat.mul_comm 5 k
          have hP2 := HPut.out w2 hb
          rw [em] at hP2
          obtain ⟨hcs, hRS⟩ := hP2
          clear em
          obtain ⟨⟨v0, c0⟩, f0⟩ := hcs 0 (by omega)
          rw [Nat.add_zero] at c0 f0
          obtain ⟨⟨v1, c1⟩, f1⟩ := hcs 1 (by omega)
          obtain ⟨⟨v2, c2⟩, f2⟩ := hcs 2 (by omega)
          obtain ⟨⟨v3, c3⟩, f3⟩ := hcs 3 (by omega)
          obtain ⟨⟨v4, c4⟩, f4⟩ := hcs 4 (by omega)
          have HRS : Hid (RS w _ L (k + 1)) := hRS
          clear hcs hRS HPut hb HS
          go_wp2
          exact ⟨⟨k + 1, by omega, by go_num, HRS.out⟩, by simp [intOf]; omega⟩
        · obtain rfl : k = L.length := by omega
          clear hlt
          go_wp2
          go_ret2
          exact ⟨rfl, hR.out⟩
set_option maxRecDepth 20000 in
set_option maxHeartbeats 2000000 in
theorem lookq_nil (pa : Option Addr) (pc : Nat) (n : Int) (w : World) (h0 : ¬ n < 1) (h8 : ¬ n > 8) :
    Calls (Al.progOf Tryd.prog) 25 #[.slice pa 0 pc, .int .i64 n] w fun e w' => LookPost w w' e [] := by
  have heS : ∀ (x : Addr) (l c : Nat) (w : World), (binOp .eql 42 (.slice (some x) l c) (.slice none 0 0)).run (Al.progOf Tryd.prog) w = .ok (.bool false) w := fun _ _ _ _ => rfl
  have heN : ∀ (l c : Nat) (w : World), (binOp .eql 42 (.slice none l c) (.slice none 0 0)).run (Al.progOf Tryd.prog) w = .ok (.bool true) w := fun _ _ _ => rfl
  obtain ⟨z, hz⟩ := zero_row 0 (by omega)
  generalize z.cells = zc at hz
  have hz' : ∀ wx : World, (Instr.makeSlice 62 (.int .i64 0) (.int .i64 0)).run (Al.progOf Tryd.prog) wx = .ok (.slice (some ⟨wx.heap.size, 0, none⟩) 0 0) (wx.alloc (.cells (madeCells zc (0 * 5)) 66)) := hz
  have HZ : Hid (∀ cs : Array Value, RS w (w.alloc (.cells (madeCells cs (0 * 5)) 66)) [] 0) := fun cs => ⟨alloc_below' w _, _, heap_alloc_new w _, by simp [madeCells], fun i hi => absurd hi (Nat.not_lt_zero _)⟩
  clear hz
  cases pa with
  | none =>
    go_enter Al.func25, Al.ntmps25
    unfold Al.lookB
    go_wp2
    go_loopw [11] (fun j wr => j = .int .i64 0 ∧ Hid (WS w wr)) (fun _ _ => 0)
    case atStart => exact ⟨rfl, rfl⟩
    case round =>
      obtain ⟨rfl, hX⟩ := hrel
      have hwx : w = wr := hX.out.symm
      subst hwx
      clear hX
      go_wp2
      go_loopw [26] (fun j wr => j = .int .i64 0 ∧ Hid (RS w wr [] 0)) (fun _ _ => 0)
      case atStart => exact ⟨rfl, HZ.out _⟩
      case round =>
        obtain ⟨rfl, hX⟩ := hrel
        go_wp2
        go_ret2
        exact ⟨rfl, hX.out⟩
  | some x =>
    go_enter Al.func25, Al.ntmps25
    unfold Al.lookB
    go_wp2
    go_loopw [11] (fun j wr => j = .int .i64 0 ∧ Hid (WS w wr)) (fun _ _ => 0)
    case atStart => exact ⟨rfl, rfl⟩
    case round =>
      obtain ⟨rfl, hX⟩ := hrel
      have hwx : w = wr := hX.out.symm
      subst hwx
      clear hX
      go_wp2
      go_loopw [26] (fun j wr => j = .int .i64 0 ∧ Hid (RS w wr [] 0)) (fun _ _ => 0)
      case atStart => exact ⟨rfl, HZ.out _⟩
      case round =>
        obtain ⟨rfl, hX⟩ := hrel
        go_wp2
        go_ret2
        exact ⟨rfl, hX.out⟩
/-- Pages that lie anywhere, none among them. -/
def Pgs (w : World) (pa : Option Addr) (L : List Pg) : Prop := L = [] ∨ ∃ b off, pa = some ⟨b, off, none⟩ ∧ PagesAt w b off L
theorem lookq_any (pa : Option Addr) (pc : Nat) (L : List Pg) (n : Int) (w : World) (h0 : ¬ n < 1) (h8 : ¬ n > 8) (hl : L.length ≤ 4096) (hp : Pgs w pa L) :
    Calls (Al.progOf Tryd.prog) 25 #[.slice pa L.length pc, .int .i64 n] w fun e w' => LookPost w w' e L := by
  by_cases h : L = []
  · subst h
    exact lookq_nil pa pc n w h0 h8
  · obtain ⟨b, off, rfl, hq⟩ := hp.resolve_left h
    exact lookq_main b off pc L n w h0 h8 (List.length_pos_iff.2 h) hl hq
end Go.Proofs.YtobpjijdebnaoaaDoorQ

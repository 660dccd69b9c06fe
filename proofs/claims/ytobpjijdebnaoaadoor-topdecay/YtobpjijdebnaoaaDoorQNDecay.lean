/- Part of the proof. -/
import Derived.Test.YtobpjijdebnaoaaDoorQNOneT
import Derived.Test.YtobpjijdebnaoaaDoorQC2
import Derived.Test.YtobpjijdebnaoaaDoorQLawT
namespace Go.Proofs.YtobpjijdebnaoaaDoorQ
open Go.Proofs.YtobpjijdebnaoaaDoorM
open Go.RowKit
set_option linter.unusedVariables false
/-- Numbers that came in. -/
structure AtIn (w : World) (pa : Option Addr) (ps : List Int) : Prop where
  cell : ∀ i, i < ps.length → ∃ b o, pa = some ⟨b, o, none⟩ ∧ w.cell? ⟨b, o + i, none⟩ = some (.int .i64 (ps[i]?.getD 0))
  ok : ∀ i, i < ps.length → -9223372036854775808 ≤ ps[i]?.getD 0 ∧ ps[i]?.getD 0 < 9223372036854775808
theorem AtIn.below {w w' : World} {pa : Option Addr} {ps : List Int} (h : AtIn w pa ps) (hb : Below w.heap.size w w') : AtIn w' pa ps :=
  ⟨fun i hi => by
    obtain ⟨b, o, e, hc⟩ := h.cell i hi
    exact ⟨b, o, e, (hb.cell (p := ⟨b, o + i, none⟩) (World.block_lt_of_cell? w _ hc)).trans hc⟩, h.ok⟩
set_option maxRecDepth 100000 in
set_option maxHeartbeats 3200000 in
/-- Where nothing is packed, or not whole words. -/
theorem decay_bad (q : Nat) (n k l s : Int) (a : Option Addr) (m cap : Nat) (v : Value) (w : World) (hPl : YtobpjijdebnaoaaDoorQC.Plc w)
    (hP : ∀ wx, Calls (Al.progOf Tryd.prog) 5 #[.int .i64 n, FV k l s a m cap] wx fun e w' => e = .returned (.tuple #[.slice none 0 0, .iface 47 (.int .i64 (q : Int))]) ∧ Below wx.heap.size wx w') :
    Calls (Al.progOf Tryd.prog) 3 #[.int .i64 n, FV k l s a m cap, v] w fun e w' => e = .returned (.bool true) ∧ Below w.heap.size w w' := by
  have hb0 := alloc_below' w (boxF k l s a m cap)
  have HO : Hid (Calls (Al.progOf Tryd.prog) 4 #[] (w.alloc (boxF k l s a m cap)) fun e w' => e = .returned (.bool true) ∧ Below w.heap.size w w' ∧ BoxAt w' w.heap.size k l s a m cap) := by
    refine (one_any _ (Plc_below hPl hb0 (Plc_pos hPl))).mono ?_
    rintro e w' ⟨rfl, hb⟩
    exact ⟨rfl, hb0.trans (hb.mono hb0.size), (box_new w k l s a m cap).below hb⟩
  clear hPl hb0
  go_enter Al.func3, Tryd.ntmps3
  go_wp2_with fail
  refine HO.out.mono ?_
  rintro e w1 ⟨rfl, hb1, hx1⟩
  have c0 := hx1.c0
  have c1 := hx1.c1
  have c2 := hx1.c2
  have c3 := hx1.c3
  have HP1 := hP w1
  have H1 : Hid (Below w.heap.size w w1) := hb1
  clear HO hb1 hx1 hP
  go_wp2_with fail
  refine HP1.mono ?_
  rintro e w2 ⟨rfl, hb2⟩
  have H2 : Hid (Below w.heap.size w w2) := H1.out.trans (hb2.mono H1.out.size)
  clear HP1 c0 c1 c2 c3 hb2 H1
  go_wp2
  go_ret
  exact ⟨rfl, H2.out⟩
theorem Keep.drewND {S : Nat → Prop} {a w : World} (h : Keep S a w) (q : Nat) : Keep S a (w.drewN q) := h.trans (Keep.of_below (below_drewN (Below.refl _ _) q))
theorem Keep.setD {g : Nat} {a w : World} (h : Keep (fun b => b = g) a w) (o : Nat) (u : Value) : Keep (fun b => b = g) a (w.setCell ⟨g, o, none⟩ u) := by
  have hb : Below 0 w (w.setCell ⟨g, o, none⟩ u) := (Below.refl _ _).setCell (Nat.zero_le _) u
  exact ⟨hb.os.trans h.os, hb.tape.trans h.tape, hb.output.trans h.output, Nat.le_trans h.size hb.size, fun k hk hs => by
    rw [Below.heap_setCell _ _ _ _ (fun e => hs (by rw [e]))]; exact h.block k hk hs⟩
/-- What lies there while bits are turned. -/
structure DS (w wx : World) (ga ca gb cb g : Nat) (k l s : Int) (a : Option Addr) (md cap : Nat) (PG xs cs : List Nat) : Prop where
  bel : Below w.heap.size w wx
  oa : Owns wx w.heap.size ga ca xs
  ob : Owns wx w.heap.size gb cb cs
  row : Row wx g PG
  box : BoxAt wx w.heap.size k l s a md cap
  ab : ga ≠ gb
  ag : g ≠ ga ∧ g ≠ gb
  ax : w.heap.size ≠ ga ∧ w.heap.size ≠ gb
theorem BoxAt.keepD {S : Nat → Prop} {w w' : World} {b : Nat} {k l s : Int} {a : Option Addr} {m c : Nat} (h : BoxAt w b k l s a m c) (hk : Keep S w w') (hs : ¬ S b) : BoxAt w' b k l s a m c :=
  have hl : b < w.heap.size := World.block_lt_of_cell? w _ h.c0
  ⟨(hk.cell (p := ⟨b, 0, none⟩) hl hs).trans h.c0, (hk.cell (p := ⟨b, 1, none⟩) hl hs).trans h.c1, (hk.cell (p := ⟨b, 2, none⟩) hl hs).trans h.c2, (hk.cell (p := ⟨b, 3, none⟩) hl hs).trans h.c3⟩
theorem Owns.drewN {w : World} {base g cap : Nat} {ys : List Nat} (h : Owns w base g cap ys) : ∀ q, Owns (w.drewN q) base g cap ys := fun q => h.below (below_drewN (Below.refl w.heap.size w) q) h.le.2
theorem DS.setA {w wx : World} {ga ca gb cb g : Nat} {k l s : Int} {a : Option Addr} {md cap : Nat} {PG xs cs : List Nat} (h : DS w wx ga ca gb cb g k l s a md cap PG xs cs) (q j y : Nat) : DS w ((wx.drewN q).setCell ⟨ga, j, none⟩ (.int .u8 (y : Int))) ga ca gb cb g k l s a md cap PG (xs.set j y) cs :=
  have hk : Keep (fun b => b = ga) wx ((wx.drewN q).setCell ⟨ga, j, none⟩ (.int .u8 (y : Int))) := ((Keep.refl _ _).drewND q).setD _ _
  ⟨h.bel.trans (hk.below h.bel.size (fun b hb => by have := h.oa.le.1; omega)), (h.oa.drewN q).set j y, (h.ob.drewN q).other (fun e => h.ab e.symm) _, h.row.keep hk h.ag.1, h.box.keepD hk h.ax.1, h.ab, h.ag, h.ax⟩
theorem DS.setB {w wx : World} {ga ca gb cb g : Nat} {k l s : Int} {a : Option Addr} {md cap : Nat} {PG xs cs : List Nat} (h : DS w wx ga ca gb cb g k l s a md cap PG xs cs) (q j y : Nat) : DS w ((wx.drewN q).setCell ⟨gb, j, none⟩ (.int .u8 (y : Int))) ga ca gb cb g k l s a md cap PG xs (cs.set j y) :=
  have hk : Keep (fun b => b = gb) wx ((wx.drewN q).setCell ⟨gb, j, none⟩ (.int .u8 (y : Int))) := ((Keep.refl _ _).drewND q).setD _ _
  ⟨h.bel.trans (hk.below h.bel.size (fun b hb => by have := h.ob.le.1; omega)), (h.oa.drewN q).other (fun e => h.ab e) _, (h.ob.drewN q).set j y, h.row.keep hk h.ag.2, h.box.keepD hk h.ax.2, h.ab, h.ag, h.ax⟩
theorem DS.below {w wx wy : World} {ga ca gb cb g : Nat} {k l s : Int} {a : Option Addr} {md cap : Nat} {PG xs cs : List Nat} (h : DS w wx ga ca gb cb g k l s a md cap PG xs cs) (hb : Below wx.heap.size wx wy) : DS w wy ga ca gb cb g k l s a md cap PG xs cs :=
  ⟨h.bel.trans (hb.mono h.bel.size), h.oa.below hb h.oa.le.2, h.ob.below hb h.ob.le.2, h.row.below hb, h.box.below hb, h.ab, h.ag, h.ax⟩
/-- The bits are turned: one round. -/
theorem DS.cellA {w wx : World} {ga ca gb cb g : Nat} {k l s : Int} {a : Option Addr} {md cap : Nat} {PG xs cs : List Nat} (h : DS w wx ga ca gb cb g k l s a md cap PG xs cs) (j : Nat) (hj : j < xs.length) : wx.cell? ⟨ga, j, none⟩ = some (.int .u8 ((xs[j]?.getD 0 : Nat) : Int)) := h.oa.cell j hj
theorem DS.cellB {w wx : World} {ga ca gb cb g : Nat} {k l s : Int} {a : Option Addr} {md cap : Nat} {PG xs cs : List Nat} (h : DS w wx ga ca gb cb g k l s a md cap PG xs cs) (j : Nat) (hj : j < cs.length) : wx.cell? ⟨gb, j, none⟩ = some (.int .u8 ((cs[j]?.getD 0 : Nat) : Int)) := h.ob.cell j hj
theorem own_owns {w : World} {base cap : Nat} {a : Option Addr} {ys : List Nat} (h : OwnA w base a cap ys) (h0 : 0 < ys.length) : ∃ g, a = some ⟨g, 0, none⟩ ∧ Owns w base g cap ys := by
  rcases h.parts with ⟨_, _, e⟩ | ⟨g, cur, e, _⟩
  · rw [e] at h0; simp at h0
  · subst e
    exact ⟨g, rfl, h⟩
theorem Owns.capD {w : World} {base g cap : Nat} {ys : List Nat} (h : Owns w base g cap ys) : ys.length ≤ cap := by
  have h' : OwnA w base (some ⟨g, 0, none⟩) cap ys := h
  rcases h'.parts with ⟨e, _⟩ | ⟨g', cur, e1, _, e3, e4, _⟩
  · cases e
  · exact e4
set_option maxRecDepth 100000 in
set_option maxHeartbeats 800000 in
theorem decay_good (N m k l s : Nat) (a : Option Addr) (cap : Nat) (data : List Nat) (pa : Option Addr) (pc : Nat) (ps : List Int) (w : World) (hPl : YtobpjijdebnaoaaDoorQC.Plc w) (h : FOk N k l s data.length) (hA : AllB data) (hL : Lies w a data) (hI : AtIn w pa ps) (hN : N = 8 * m) (hps : ps.length ≤ 9223372036854775807) :
    Calls (Al.progOf Tryd.prog) 3 #[.int .i64 N, FV k l s a data.length cap, .slice pa ps.length pc] w fun e w' => e = .returned (.bool true) ∧ Below w.heap.size w w' := by
  have hb0 := alloc_below' w (boxF k l s a data.length cap)
  have HO : Hid (Calls (Al.progOf Tryd.prog) 4 #[] (w.alloc (boxF k l s a data.length cap)) fun e w' => e = .returned (.bool true) ∧ Below w.heap.size w w' ∧ BoxAt w' w.heap.size k l s a data.length cap) := by
    refine (one_any _ (Plc_below hPl hb0 (Plc_pos hPl))).mono ?_
    rintro e w' ⟨rfl, hb⟩
    exact ⟨rfl, hb0.trans (hb.mono hb0.size), (box_new w k l s a data.length cap).below hb⟩
  have hn0 := h.n0
  have hn1 := h.n1
  have HOld : Hid (∀ wz, Below w.heap.size w wz → YtobpjijdebnaoaaDoorQC.Plc wz ∧ AtIn wz pa ps ∧ Lies wz a data) := fun wz hz => ⟨Plc_below hPl hz (Plc_pos hPl), hI.below hz, hL.below hz⟩
  have HF : Hid (FOk N k l s data.length ∧ AllB data) := ⟨h, hA⟩
  have HPL : Hid ((packL N k l s data).length = N ∧ AllB (packL N k l s data) ∧ ValidP (packL N k l s data) ∧ (packL N k l s data)[0]?.getD 0 = 165) := ⟨packL_len N k l s data h.d1, packL_all N k l s data (by have := h.k1; omega) hA, valid_pack h, pack_first N k l s data⟩
  have HPk : Hid (∀ wx, Lies wx a data → Calls (Al.progOf Tryd.prog) 5 #[.int .i64 N, FV k l s a data.length cap] wx fun e w' => ∃ g, e = .returned (.tuple #[.slice (some ⟨g, 0, none⟩) N N, .nilIface]) ∧ wx.heap.size ≤ g ∧ Row w' g (packL N k l s data) ∧ Below wx.heap.size wx w') := fun wx hx => pack_good N k l s a cap data wx h hA hx
  have HOp : Hid (∀ wx g, Row wx g (packL N k l s data) → Calls (Al.progOf Tryd.prog) 9 #[.slice (some ⟨g, 0, none⟩) N N] wx fun e w' => ∃ a c, e = .returned (.tuple #[FV k l s a data.length c, .int .i64 2]) ∧ OwnA w' wx.heap.size a c data ∧ Below wx.heap.size wx w') := fun wx g hr => open_packed N k l s data g wx h hA hr
  obtain ⟨PG, HPG⟩ : ∃ PG, Hid (packL N k l s data = PG) := ⟨_, rfl⟩
  rw [HPG.out] at HPL HPk HOp
  have hmod : ((((N : Nat) : Int) % 8) != 0) = false := by rw [bne_eq_false_iff_eq]; omega
  have HN8 : Hid (N = 8 * m ∧ m ≤ 512) := ⟨hN, by omega⟩
  have HLn : Hid ((((m : Nat) : Int) != ((N : Nat) : Int) / 8) = false) := by show _ = _; rw [bne_eq_false_iff_eq]; omega
  clear h hA hL hI hPl hb0 HPG hN
  go_enter Al.func3, Tryd.ntmps3
  go_wp2_with fail
  refine HO.out.mono ?_
  rintro e w1 ⟨rfl, hb1, hx1⟩
  have c0 := hx1.c0
  have c1 := hx1.c1
  have c2 := hx1.c2
  have c3 := hx1.c3
  have HP1 := HPk.out w1 (HOld.out w1 hb1).2.2
  have H1 : Hid (Below w.heap.size w w1 ∧ BoxAt w1 w.heap.size k l s a data.length cap) := ⟨hb1, hx1⟩
  clear HO hb1 hx1 HPk
  go_wp2_with fail
  refine HP1.mono ?_
  rintro e w2 ⟨g, rfl, hg2, hr2, hb2⟩
  have H2 : Hid (Below w.heap.size w w2 ∧ BoxAt w2 w.heap.size k l s a data.length cap ∧ Row w2 g PG ∧ w.heap.size < g) := ⟨H1.out.1.trans (hb2.mono H1.out.1.size), H1.out.2.below hb2, hr2, Nat.lt_of_lt_of_le (show w.heap.size < w1.heap.size from World.block_lt_of_cell? w1 _ H1.out.2.c0) hg2⟩
  have HPr : Hid (Calls (Al.progOf Tryd.prog) 6 #[.slice (some ⟨g, 0, none⟩) N N] w2 fun e w' => e = .returned (.tuple #[.slice (some ⟨w2.heap.size, 0, none⟩) m m, .nilIface]) ∧ Lies w' (some ⟨w2.heap.size, 0, none⟩) (YtobpjijdebnaoaaDoorQC.chks PG m) ∧ Below w2.heap.size w2 w') := by
    have := YtobpjijdebnaoaaDoorQC.protect_any (some ⟨g, 0, none⟩) N m PG w2 HPL.out.2.1 (by rw [HPL.out.1]; exact HN8.out.1) HN8.out.2 (HOld.out w2 H2.out.1).1 (row_lies hr2)
    rw [HPL.out.1] at this
    exact this.mono fun e w' ⟨q1, q2, q3⟩ => ⟨q1, YtobpjijdebnaoaaDoorQC.Owns.lies q2, q3⟩
  have hlen := HLn.out
  clear HP1 hg2 hr2 hb2 H1 c0 c1 c2 c3
  go_wp2_with fail
  refine HPr.out.mono ?_
  rintro e w3 ⟨rfl, hl3, hb3⟩
  obtain ⟨CK, HCK⟩ : ∃ CK, Hid (YtobpjijdebnaoaaDoorQC.chks PG m = CK) := ⟨_, rfl⟩
  rw [HCK.out] at hl3
  have HCKl : Hid (CK.length = m ∧ 0 < CK.length) := by
    have e : CK.length = m := by rw [← HCK.out]; exact YtobpjijdebnaoaaDoorQC.chks_len PG m
    exact ⟨e, by have := HN8.out.1; omega⟩
  have H3 : Hid (Below w.heap.size w w3 ∧ BoxAt w3 w.heap.size k l s a data.length cap ∧ Row w3 g PG ∧ w.heap.size < g ∧ g < w3.heap.size ∧ Lies w3 (some ⟨w2.heap.size, 0, none⟩) CK ∧ w.heap.size < w3.heap.size) := ⟨H2.out.1.trans (hb3.mono H2.out.1.size), H2.out.2.1.below hb3, H2.out.2.2.1.below hb3, H2.out.2.2.2, Nat.lt_of_lt_of_le (heap_lt H2.out.2.2.1) hb3.size, hl3, Nat.lt_trans H2.out.2.2.2 (Nat.lt_of_lt_of_le (heap_lt H2.out.2.2.1) hb3.size)⟩
  clear HPr hl3 hb3
  have HA3 : Hid (OwnA (w3.alloc (.cells #[] 5)) w3.heap.size (some ⟨w3.heap.size, 0, none⟩) 0 [] ∧ Lies (w3.alloc (.cells #[] 5)) (some ⟨g, 0, none⟩) PG ∧ w3.heap.size ≤ (w3.alloc (.cells #[] 5)).heap.size ∧ PG.length ≤ 1048576) := ⟨own_new w3 w3.heap.size [] (Nat.le_refl _) (by simp) #[] rfl, (row_lies H3.out.2.2.1).below (alloc_below' w3 _), by simp, by rw [HPL.out.1]; omega⟩
  have hPn : Hid (PG.length = N) := HPL.out.1
  go_wp2_with (at_builtin; refine app_step rfl (.tmp 54) (.tmp 55) rfl w3.heap.size (some ⟨w3.heap.size, 0, none⟩) 0 [] (by rfl) HA3.out.1 (some ⟨g, 0, none⟩) N PG (by rw [hPn.out]; rfl) (fun e => by cases e) HA3.out.2.1 PG rfl HA3.out.2.2.2 HA3.out.2.2.1 ?_)
  intro a4 c4 w4 hO4 hK4
  obtain ⟨ga, rfl, hoa⟩ := own_owns hO4 (by rw [hPn.out]; omega)
  have hb4 : Below w3.heap.size w3 w4 := (alloc_below' w3 _).trans (hK4.below (by simp) (fun b hb => by obtain ⟨x, e, rfl⟩ := hb; cases e; exact Nat.le_refl _))
  have H4 : Hid (Below w3.heap.size w3 w4 ∧ Owns w4 w3.heap.size ga c4 PG ∧ w3.heap.size ≤ ga ∧ ga < w4.heap.size ∧ w3.heap.size < w4.heap.size) := ⟨hb4, hoa, hoa.le.1, hoa.le.2, Nat.lt_of_le_of_lt hoa.le.1 hoa.le.2⟩
  clear hO4 hK4 hoa hb4 HA3
  have HA4 : Hid (OwnA (w4.alloc (.cells #[] 5)) w4.heap.size (some ⟨w4.heap.size, 0, none⟩) 0 [] ∧ Lies (w4.alloc (.cells #[] 5)) (some ⟨w2.heap.size, 0, none⟩) CK ∧ w4.heap.size ≤ (w4.alloc (.cells #[] 5)).heap.size ∧ CK.length ≤ 1048576) := ⟨own_new w4 w4.heap.size [] (Nat.le_refl _) (by simp) #[] rfl, (H3.out.2.2.2.2.2.1.below H4.out.1).below (alloc_below' w4 _), by simp, by have := HCKl.out.1; have := HN8.out.2; omega⟩
  go_wp2_with (at_builtin; refine app_step rfl (.tmp 57) (.tmp 58) rfl w4.heap.size (some ⟨w4.heap.size, 0, none⟩) 0 [] (by rfl) HA4.out.1 (some ⟨w2.heap.size, 0, none⟩) m CK (by rw [HCKl.out.1]; rfl) (fun e => by cases e) HA4.out.2.1 CK rfl HA4.out.2.2.2 HA4.out.2.2.1 ?_)
  intro a5 c5 w5 hO5 hK5
  obtain ⟨gb, rfl, hob⟩ := own_owns hO5 HCKl.out.2
  have hb5 : Below w4.heap.size w4 w5 := (alloc_below' w4 _).trans (hK5.below (by simp) (fun b hb => by obtain ⟨x, e, rfl⟩ := hb; cases e; exact Nat.le_refl _))
  have HDS : Hid (DS w w5 ga c4 gb c5 g k l s a data.length cap PG PG CK) := by
    have h3 := H3.out
    have h4 := H4.out
    have hb45 : Below w3.heap.size w3 w5 := h4.1.trans (hb5.mono h4.1.size)
    exact ⟨h3.1.trans (hb45.mono h3.1.size), (h4.2.1.below hb5 h4.2.2.2.1).base (by omega), hob.base (by omega), h3.2.2.1.below hb45, h3.2.1.below hb45, by have := hob.le.1; omega, ⟨by omega, by have := hob.le.1; omega⟩, ⟨by omega, by have := hob.le.1; omega⟩⟩
  have HDI : Hid (YtobpjijdebnaoaaDoorQC.DI PG PG CK m 0 (fun _ => 0)) := by
    show YtobpjijdebnaoaaDoorQC.DI _ _ _ _ _ _
    rw [← HCK.out]
    exact YtobpjijdebnaoaaDoorQC.DI.start HPL.out.2.1 (by rw [hPn.out]; exact HN8.out.1)
  rw [hPn.out, HCKl.out.1]
  have hm5 := HN8.out.2
  clear hO5 hK5 hob hb5 HA4 H2 H3 H4 hlen HLn hmod
  go_wp2
  go_loopw [13, 14] (fun tv iv wr => ∃ (i T : Nat), i ≤ m ∧ T ≤ i ∧ tv = .int .i64 (T : Nat) ∧ iv = .int .i64 (i : Nat) ∧ Hid (∃ xs cs f, DS w wr ga c4 gb c5 g k l s a data.length cap PG xs cs ∧ YtobpjijdebnaoaaDoorQC.DI PG xs cs m i f ∧ YtobpjijdebnaoaaDoorQC.sumTo f m = T)) (fun _ iv _ => m - (intOf iv).toNat)
  case atStart => exact ⟨0, 0, Nat.zero_le _, Nat.le_refl _, rfl, rfl, PG, CK, fun _ => 0, HDS.out, HDI.out, YtobpjijdebnaoaaDoorQC.sumTo_zero m⟩
  case round =>
    clear HDS HDI
    obtain ⟨i, T, hi, hT, rfl, rfl, hR⟩ := hrel
    by_cases hlt : i < ps.length ∧ i < m
    · obtain ⟨xs, cs, f, hD, hDI, hsum⟩ := hR.out
      obtain ⟨b0, o0, hpa, hc⟩ := (HOld.out wr hD.bel).2.1.cell i hlt.1
      have hok := (HOld.out wr hD.bel).2.1.ok i hlt.1
      subst hpa
      obtain ⟨Z, HZ⟩ : ∃ Z : Int, Hid (ps[i]?.getD 0 = Z) := ⟨ps[i]?.getD 0, (rfl : ps[i]?.getD 0 = ps[i]?.getD 0)⟩
      rw [HZ.out] at hc hok
      have HPi := pick_any Z 80 wr (by omega) (by omega) ⟨hok.1, by omega⟩
      have h1 : (i : Int) < (ps.length : Int) := by omega
      have h2 : (i : Int) < (m : Int) := by omega
      have HDh : Hid (DS w wr ga c4 gb c5 g k l s a data.length cap PG xs cs ∧ YtobpjijdebnaoaaDoorQC.DI PG xs cs m i f ∧ YtobpjijdebnaoaaDoorQC.sumTo f m = T ∧ i < m) := ⟨hD, hDI, hsum, hlt.2⟩
      have HI1 : Hid (i < m) := hlt.2
      clear hR hD hDI hsum hlt hok
      go_wp2_with fail
      refine HPi.mono ?_
      rintro e w6 ⟨⟨K, hK, rfl⟩, hw6⟩
      obtain rfl : w6 = wr := hw6
      clear HPi
      by_cases hK1 : K < 64
      · have hj : 8 * i + K / 8 < xs.length := by rw [HDh.out.2.1.la]; have := HI1.out; omega
        have hca := HDh.out.1.cellA (8 * i + K / 8) hj
        have hfa := HDh.out.1.oa.free (8 * i + K / 8)
        have hx8 := xor_bit8 (xs[8 * i + K / 8]?.getD 0) (K % 8) (HDh.out.2.1.aa.at _) (by omega)
        have HR : Hid (∀ q (C : Nat), C = xs[8 * i + K / 8]?.getD 0 ^^^ 2 ^ (K % 8) → ∃ ys cs' f', DS w ((w6.drewN q).setCell ⟨ga, 8 * i + K / 8, none⟩ (.int .u8 (C : Int))) ga c4 gb c5 g k l s a data.length cap PG ys cs' ∧ YtobpjijdebnaoaaDoorQC.DI PG ys cs' m (i + 1) f' ∧ YtobpjijdebnaoaaDoorQC.sumTo f' m = T + 1) := fun q C hC => by
          have hD := HDh.out
          refine ⟨YtobpjijdebnaoaaDoorQC.turnB xs (8 * i + K / 8) (K % 8), cs, YtobpjijdebnaoaaDoorQC.upd f i, ?_, hD.2.1.data HI1.out K hK1, ?_⟩
          · rw [hC]
            exact hD.1.setA q _ _
          · rw [YtobpjijdebnaoaaDoorQC.sumTo_upd f i (hD.2.1.zero i (Nat.le_refl _)) m, hD.2.2.1, if_pos HI1.out]
        obtain ⟨B, HBb⟩ : ∃ B : Nat, Hid (xs[8 * i + K / 8]?.getD 0 = B) := ⟨xs[8 * i + K / 8]?.getD 0, (rfl : xs[8 * i + K / 8]?.getD 0 = xs[8 * i + K / 8]?.getD 0)⟩
        obtain ⟨C, HCc⟩ : ∃ C : Nat, Hid (C = B ^^^ 2 ^ (K % 8)) := ⟨_, rfl⟩
        rw [HBb.out, ← HCc.out] at hx8
        rw [HBb.out] at hca
        have HR2 : Hid (∀ q, ∃ ys cs' f', DS w ((w6.drewN q).setCell ⟨ga, 8 * i + K / 8, none⟩ (.int .u8 (C : Int))) ga c4 gb c5 g k l s a data.length cap PG ys cs' ∧ YtobpjijdebnaoaaDoorQC.DI PG ys cs' m (i + 1) f' ∧ YtobpjijdebnaoaaDoorQC.sumTo f' m = T + 1) := fun q => HR.out q C (by rw [HCc.out, HBb.out])
        have hjN : 8 * i + K / 8 < N := by have := HN8.out.1; have := HI1.out; omega
        have hw1 : IntKind.i64.wrap (8 * (i : Int) + (K : Int) / 8) = 8 * (i : Int) + (K : Int) / 8 := by rw [IntKind.wrap_i64]; omega
        have hw2 : IntKind.i64.wrap (8 * (i : Int)) = 8 * (i : Int) := by rw [IntKind.wrap_i64]; omega
        have hi512 : i ≤ 512 := by omega
        clear HR HDh hc hj HCc HBb
        go_wp2
        go_region
        go_wp2
        go_roundw
        case rel => exact ⟨i + 1, T + 1, by omega, by omega, by go_num, by go_num, HR2.out _⟩
        case measure => simp [intOf]; omega
      · by_cases hK2 : K < 72
        · have hj : i < cs.length := by rw [HDh.out.2.1.lc]; exact HI1.out
          have hca := HDh.out.1.cellB i hj
          have hfa := HDh.out.1.ob.free i
          have hx8 := xor_bit8 (cs[i]?.getD 0) (K % 8) (HDh.out.2.1.ac.at _) (by omega)
          have HR : Hid (∀ q (C : Nat), C = cs[i]?.getD 0 ^^^ 2 ^ (K % 8) → ∃ ys cs' f', DS w ((w6.drewN q).setCell ⟨gb, i, none⟩ (.int .u8 (C : Int))) ga c4 gb c5 g k l s a data.length cap PG ys cs' ∧ YtobpjijdebnaoaaDoorQC.DI PG ys cs' m (i + 1) f' ∧ YtobpjijdebnaoaaDoorQC.sumTo f' m = T + 1) := fun q C hC => by
            have hD := HDh.out
            refine ⟨xs, YtobpjijdebnaoaaDoorQC.turnB cs i (K % 8), YtobpjijdebnaoaaDoorQC.upd f i, ?_, hD.2.1.check HI1.out (K % 8) (by omega), ?_⟩
            · rw [hC]
              exact hD.1.setB q _ _
            · rw [YtobpjijdebnaoaaDoorQC.sumTo_upd f i (hD.2.1.zero i (Nat.le_refl _)) m, hD.2.2.1, if_pos HI1.out]
          obtain ⟨B, HBb⟩ : ∃ B : Nat, Hid (cs[i]?.getD 0 = B) := ⟨cs[i]?.getD 0, (rfl : cs[i]?.getD 0 = cs[i]?.getD 0)⟩
          obtain ⟨C, HCc⟩ : ∃ C : Nat, Hid (C = B ^^^ 2 ^ (K % 8)) := ⟨_, rfl⟩
          rw [HBb.out, ← HCc.out] at hx8
          rw [HBb.out] at hca
          have HR2 : Hid (∀ q, ∃ ys cs' f', DS w ((w6.drewN q).setCell ⟨gb, i, none⟩ (.int .u8 (C : Int))) ga c4 gb c5 g k l s a data.length cap PG ys cs' ∧ YtobpjijdebnaoaaDoorQC.DI PG ys cs' m (i + 1) f' ∧ YtobpjijdebnaoaaDoorQC.sumTo f' m = T + 1) := fun q => HR.out q C (by rw [HCc.out, HBb.out])
          have hi512 : i ≤ 512 := by omega
          have him := HI1.out
          clear HR HDh hc hj HCc HBb
          go_wp2
          go_region
          go_wp2
          go_roundw
          case rel => exact ⟨i + 1, T + 1, by omega, by omega, by go_num, by go_num, HR2.out _⟩
          case measure => simp [intOf]; omega
        · have HR2 : Hid (∃ ys cs' f', DS w w6 ga c4 gb c5 g k l s a data.length cap PG ys cs' ∧ YtobpjijdebnaoaaDoorQC.DI PG ys cs' m (i + 1) f' ∧ YtobpjijdebnaoaaDoorQC.sumTo f' m = T) := ⟨xs, cs, f, HDh.out.1, HDh.out.2.1.none, HDh.out.2.2.1⟩
          have him := HI1.out
          clear HDh hc
          go_wp2
          go_roundw
          case rel => exact ⟨i + 1, T, by omega, by omega, by go_num, by go_num, HR2.out⟩
          case measure => simp [intOf]; omega
    · obtain ⟨xs, cs, f, hD, hDI, hsum⟩ := hR.out
      have HDh : Hid (DS w wr ga c4 gb c5 g k l s a data.length cap PG xs cs ∧ YtobpjijdebnaoaaDoorQC.DI PG xs cs m i f ∧ YtobpjijdebnaoaaDoorQC.sumTo f m = T) := ⟨hD, hDI, hsum⟩
      have HMe : Hid (Calls (Al.progOf Tryd.prog) 8 #[.slice (some ⟨ga, 0, none⟩) N c4, .slice (some ⟨gb, 0, none⟩) m c5] wr fun e w' => ∃ g7, e = .returned (.tuple #[.slice (some ⟨g7, 0, none⟩) N N, .int .i64 (T : Nat), .nilIface]) ∧ Row w' g7 PG ∧ DS w w' ga c4 gb c5 g k l s a data.length cap PG xs cs) := by
        have hmd := hDI.mend HPL.out.2.1 (by rw [hPn.out]; exact HN8.out.1)
        have := YtobpjijdebnaoaaDoorQC.mend_any (some ⟨ga, 0, none⟩) (some ⟨gb, 0, none⟩) c4 c5 m xs cs wr hDI.aa hDI.ac hDI.la hDI.lc HN8.out.2 (HOld.out wr hD.bel).1 hD.oa.lies hD.ob.lies
        rw [hmd, hDI.la, hDI.lc, ← HN8.out.1, hsum] at this
        refine this.mono ?_
        rintro e w' ⟨q1, q2, q3, q4⟩
        rw [hPn.out] at q1 q3
        refine ⟨wr.heap.size, q1, ?_, hD.below q4⟩
        have q5 : OwnA w' wr.heap.size (some ⟨wr.heap.size, 0, none⟩) N PG := by
          have : YtobpjijdebnaoaaDoorQC.Owns w' wr.heap.size wr.heap.size N PG := q3
          exact this
        rcases q5.parts with ⟨e1, _⟩ | ⟨g', cur, e1, _, e3, e4, e5, e6, e7⟩
        · cases e1
        · cases e1
          have hc : cur = (PG.map bv).toArray := by
            apply Array.toList_inj.1
            rw [← e7, List.take_of_length_le (by rw [Array.length_toList, e6, hPn.out]; exact Nat.le_refl _)]
          rw [hc] at e3
          exact e3
      have hstop : i < ps.length → ¬ i < m := fun q1 q2 => hlt ⟨q1, q2⟩
      have HDIx : Hid (YtobpjijdebnaoaaDoorQC.DI PG xs cs m i f) := hDI
      have HXl : Hid (xs.length = N) := by show _ = _; rw [hDI.la, ← HN8.out.1]
      have HDm : Hid (data.length ≤ 140737488355328) := by have := HF.out.1.d1; show _ ≤ _; omega
      clear hR hD hDI hsum hlt HDh
      by_cases hip : i < ps.length
      · have him : ¬ (i : Int) < (m : Int) := by have := hstop hip; omega
        have hip2 : (i : Int) < (ps.length : Int) := by omega
        clear hstop hip
        go_wp2_with fail
        refine HMe.out.mono ?_
        rintro e w7 ⟨g7, rfl, hr7, hd7⟩
        have HO7 := HOp.out w7 g7 hr7
        have HD7 : Hid (DS w w7 ga c4 gb c5 g k l s a data.length cap PG xs cs) := hd7
        clear HMe hr7 hd7 HOp
        go_wp2_with fail
        refine HO7.mono ?_
        rintro e w8 ⟨a8, c8, rfl, ho8, hb8⟩
        have HD8 : Hid (DS w (w8.alloc (boxF k l s a8 data.length c8)) ga c4 gb c5 g k l s a data.length cap PG xs cs ∧ Lies (w8.alloc (boxF k l s a8 data.length c8)) a8 data) := ⟨(HD7.out.below hb8).below (alloc_below' w8 _), ho8.lies.below (alloc_below' w8 _)⟩
        have q0 := fun o => ((HD7.out.below hb8).below (alloc_below' w8 o)).box.c0
        have q1 := fun o => ((HD7.out.below hb8).below (alloc_below' w8 o)).box.c1
        have q2 := fun o => ((HD7.out.below hb8).below (alloc_below' w8 o)).box.c2
        have q3 := fun o => ((HD7.out.below hb8).below (alloc_below' w8 o)).box.c3
        have HFr : Hid (Calls (Al.progOf Tryd.prog) 10 #[FV k l s a8 data.length c8, FV k l s a data.length cap] (w8.alloc (boxF k l s a8 data.length c8)) fun e w' => e = .returned (.bool true) ∧ DS w w' ga c4 gb c5 g k l s a data.length cap PG xs cs) := by
          have := frames_any k l s k l s a8 a c8 cap data data (w8.alloc (boxF k l s a8 data.length c8)) HDm.out HDm.out HD8.out.2 (HOld.out _ HD8.out.1.bel).2.2
          rw [decide_eq_true ⟨rfl, rfl, rfl, rfl⟩] at this
          exact this.mono fun e w' ⟨r1, r2⟩ => ⟨r1, HD8.out.1.below r2⟩
        clear HO7 ho8 hb8 HD7 HD8
        go_wp2_with fail
        refine HFr.out.mono ?_
        rintro e w9 ⟨rfl, hd9⟩
        have HD9 : Hid (DS w w9 ga c4 gb c5 g k l s a data.length cap PG xs cs ∧ YtobpjijdebnaoaaDoorQC.flips xs PG 0 = 0) := ⟨hd9, rfl⟩
        clear HFr hd9 q0 q1 q2 q3
        go_wp2
        go_loopw [21, 22] (fun fv iv wr => ∃ (j F : Nat), j ≤ N ∧ F ≤ j ∧ fv = .int .i64 (F : Nat) ∧ iv = .int .i64 (j : Nat) ∧ Hid (DS w wr ga c4 gb c5 g k l s a data.length cap PG xs cs ∧ YtobpjijdebnaoaaDoorQC.flips xs PG j = F)) (fun _ iv _ => N - (intOf iv).toNat)
        case atStart => exact ⟨0, 0, Nat.zero_le _, Nat.le_refl _, rfl, rfl, HD9.out⟩
        case round =>
          clear HD9
          obtain ⟨j, F, hj, hF, rfl, rfl, hR⟩ := hrel
          by_cases hjl : j < N
          · have hca := hR.out.1.cellA j (by rw [HXl.out]; exact hjl)
            have hcp := row_cell hR.out.1.row j (by rw [hPn.out]; exact hjl)
            have HDn : Hid (∀ q, DS w (wr.drewN q) ga c4 gb c5 g k l s a data.length cap PG xs cs) := fun q => hR.out.1.below (below_drewN (Below.refl _ _) q)
            obtain ⟨B1, HB1⟩ : ∃ B : Nat, Hid (xs[j]?.getD 0 = B) := ⟨xs[j]?.getD 0, (rfl : xs[j]?.getD 0 = xs[j]?.getD 0)⟩
            obtain ⟨B2, HB2⟩ : ∃ B : Nat, Hid (PG[j]?.getD 0 = B) := ⟨PG[j]?.getD 0, (rfl : PG[j]?.getD 0 = PG[j]?.getD 0)⟩
            rw [HB1.out] at hca
            rw [HB2.out] at hcp
            by_cases hBB : B1 = B2
            · have HFl : Hid (YtobpjijdebnaoaaDoorQC.flips xs PG (j + 1) = F) := by
                show YtobpjijdebnaoaaDoorQC.flips xs PG j + _ = F
                rw [hR.out.2, HB1.out, HB2.out, if_pos hBB]; omega
              have hne : (((B1 : Nat) : Int) != ((B2 : Nat) : Int)) = false := by rw [bne_eq_false_iff_eq]; omega
              clear hR hBB
              go_wp2
              go_quiet (fail)
              go_wp2
              exact ⟨⟨j + 1, F, by omega, by omega, by go_num, by go_num, HDn.out _, HFl.out⟩, by simp [intOf]; omega⟩
            · have HFl : Hid (YtobpjijdebnaoaaDoorQC.flips xs PG (j + 1) = F + 1) := by
                show YtobpjijdebnaoaaDoorQC.flips xs PG j + _ = F + 1
                rw [hR.out.2, HB1.out, HB2.out, if_neg hBB]
              have hne : (((B1 : Nat) : Int) != ((B2 : Nat) : Int)) = true := by rw [bne_iff_ne]; omega
              clear hR hBB
              go_wp2
              go_quiet (fail)
              go_wp2
              exact ⟨⟨j + 1, F + 1, by omega, by omega, by go_num, by go_num, HDn.out _, HFl.out⟩, by simp [intOf]; omega⟩
          · obtain rfl : j = N := by omega
            have HOA : Hid (Calls (Al.progOf Tryd.prog) 9 #[.slice (some ⟨ga, 0, none⟩) j c4] wr fun e w' => ∃ (v : Value) (st : Nat), e = .returned (.tuple #[v, .int .i64 (st : Nat)]) ∧ (F = 1 → st ≠ 2) ∧ Below w.heap.size w w') := by
              have hd := hR.out.1
              have := open_any (some ⟨ga, 0, none⟩) xs c4 wr HDIx.out.aa hd.oa.lies (hd.oa.capD) (by rw [HXl.out]; omega)
              rw [HXl.out] at this
              refine this.mono ?_
              rintro e w' (⟨_, r1, r2⟩ | ⟨_, hv, r1⟩ | ⟨_, _, r1, r2⟩)
              · exact ⟨_, 1, r1, fun _ => by omega, hd.bel.trans (r2.mono hd.bel.size)⟩
              · obtain ⟨a9, c9, r3, r4, r5⟩ := r1
                refine ⟨_, 2, r3, fun hF1 => ?_, hd.bel.trans (r5.mono hd.bel.size)⟩
                exfalso
                obtain ⟨jj, bb, e1, e2, e3⟩ := HDIx.out.turned (by rw [hPn.out]; exact HN8.out.1) (by rw [← HN8.out.1, hR.out.2]; exact hF1)
                rw [e3] at hv
                exact turn_broken HPL.out.2.2.1 HPL.out.2.1 (by rw [hPn.out, HN8.out.1]; exact e1) e2 hv
              · exact ⟨_, 3, r1, fun _ => by omega, hd.bel.trans (r2.mono hd.bel.size)⟩
            clear hR
            go_wp2_with fail
            refine HOA.out.mono ?_
            rintro e wA ⟨v, st, rfl, hst, hbA⟩
            have HBA : Hid (Below w.heap.size w wA) := hbA
            clear HOA hbA
            by_cases hF1 : F = 1
            · have hne : (((st : Nat) : Int) != 2) = true := by have := hst hF1; rw [bne_iff_ne]; omega
              have hf1 : (((F : Nat) : Int) != 1) = false := by rw [bne_eq_false_iff_eq]; omega
              clear hst hF1
              go_wp2
              go_ret
              exact ⟨rfl, HBA.out⟩
            · have hf1 : (((F : Nat) : Int) != 1) = true := by rw [bne_iff_ne]; omega
              clear hst hF1
              go_wp2
              go_ret
              exact ⟨rfl, HBA.out⟩
      · have hip2 : ¬ (i : Int) < (ps.length : Int) := by omega
        clear hstop hip
        go_wp2_with fail
        refine HMe.out.mono ?_
        rintro e w7 ⟨g7, rfl, hr7, hd7⟩
        have HO7 := HOp.out w7 g7 hr7
        have HD7 : Hid (DS w w7 ga c4 gb c5 g k l s a data.length cap PG xs cs) := hd7
        clear HMe hr7 hd7 HOp
        go_wp2_with fail
        refine HO7.mono ?_
        rintro e w8 ⟨a8, c8, rfl, ho8, hb8⟩
        have HD8 : Hid (DS w (w8.alloc (boxF k l s a8 data.length c8)) ga c4 gb c5 g k l s a data.length cap PG xs cs ∧ Lies (w8.alloc (boxF k l s a8 data.length c8)) a8 data) := ⟨(HD7.out.below hb8).below (alloc_below' w8 _), ho8.lies.below (alloc_below' w8 _)⟩
        have q0 := fun o => ((HD7.out.below hb8).below (alloc_below' w8 o)).box.c0
        have q1 := fun o => ((HD7.out.below hb8).below (alloc_below' w8 o)).box.c1
        have q2 := fun o => ((HD7.out.below hb8).below (alloc_below' w8 o)).box.c2
        have q3 := fun o => ((HD7.out.below hb8).below (alloc_below' w8 o)).box.c3
        have HFr : Hid (Calls (Al.progOf Tryd.prog) 10 #[FV k l s a8 data.length c8, FV k l s a data.length cap] (w8.alloc (boxF k l s a8 data.length c8)) fun e w' => e = .returned (.bool true) ∧ DS w w' ga c4 gb c5 g k l s a data.length cap PG xs cs) := by
          have := frames_any k l s k l s a8 a c8 cap data data (w8.alloc (boxF k l s a8 data.length c8)) HDm.out HDm.out HD8.out.2 (HOld.out _ HD8.out.1.bel).2.2
          rw [decide_eq_true ⟨rfl, rfl, rfl, rfl⟩] at this
          exact this.mono fun e w' ⟨r1, r2⟩ => ⟨r1, HD8.out.1.below r2⟩
        clear HO7 ho8 hb8 HD7 HD8
        go_wp2_with fail
        refine HFr.out.mono ?_
        rintro e w9 ⟨rfl, hd9⟩
        have HD9 : Hid (DS w w9 ga c4 gb c5 g k l s a data.length cap PG xs cs ∧ YtobpjijdebnaoaaDoorQC.flips xs PG 0 = 0) := ⟨hd9, rfl⟩
        clear HFr hd9 q0 q1 q2 q3
        go_wp2
        go_loopw [21, 22] (fun fv iv wr => ∃ (j F : Nat), j ≤ N ∧ F ≤ j ∧ fv = .int .i64 (F : Nat) ∧ iv = .int .i64 (j : Nat) ∧ Hid (DS w wr ga c4 gb c5 g k l s a data.length cap PG xs cs ∧ YtobpjijdebnaoaaDoorQC.flips xs PG j = F)) (fun _ iv _ => N - (intOf iv).toNat)
        case atStart => exact ⟨0, 0, Nat.zero_le _, Nat.le_refl _, rfl, rfl, HD9.out⟩
        case round =>
          clear HD9
          obtain ⟨j, F, hj, hF, rfl, rfl, hR⟩ := hrel
          by_cases hjl : j < N
          · have hca := hR.out.1.cellA j (by rw [HXl.out]; exact hjl)
            have hcp := row_cell hR.out.1.row j (by rw [hPn.out]; exact hjl)
            have HDn : Hid (∀ q, DS w (wr.drewN q) ga c4 gb c5 g k l s a data.length cap PG xs cs) := fun q => hR.out.1.below (below_drewN (Below.refl _ _) q)
            obtain ⟨B1, HB1⟩ : ∃ B : Nat, Hid (xs[j]?.getD 0 = B) := ⟨xs[j]?.getD 0, (rfl : xs[j]?.getD 0 = xs[j]?.getD 0)⟩
            obtain ⟨B2, HB2⟩ : ∃ B : Nat, Hid (PG[j]?.getD 0 = B) := ⟨PG[j]?.getD 0, (rfl : PG[j]?.getD 0 = PG[j]?.getD 0)⟩
            rw [HB1.out] at hca
            rw [HB2.out] at hcp
            by_cases hBB : B1 = B2
            · have HFl : Hid (YtobpjijdebnaoaaDoorQC.flips xs PG (j + 1) = F) := by
                show YtobpjijdebnaoaaDoorQC.flips xs PG j + _ = F
                rw [hR.out.2, HB1.out, HB2.out, if_pos hBB]; omega
              have hne : (((B1 : Nat) : Int) != ((B2 : Nat) : Int)) = false := by rw [bne_eq_false_iff_eq]; omega
              clear hR hBB
              go_wp2
              go_quiet (fail)
              go_wp2
              exact ⟨⟨j + 1, F, by omega, by omega, by go_num, by go_num, HDn.out _, HFl.out⟩, by simp [intOf]; omega⟩
            · have HFl : Hid (YtobpjijdebnaoaaDoorQC.flips xs PG (j + 1) = F + 1) := by
                show YtobpjijdebnaoaaDoorQC.flips xs PG j + _ = F + 1
                rw [hR.out.2, HB1.out, HB2.out, if_neg hBB]
              have hne : (((B1 : Nat) : Int) != ((B2 : Nat) : Int)) = true := by rw [bne_iff_ne]; omega
              clear hR hBB
              go_wp2
              go_quiet (fail)
              go_wp2
              exact ⟨⟨j + 1, F + 1, by omega, by omega, by go_num, by go_num, HDn.out _, HFl.out⟩, by simp [intOf]; omega⟩
          · obtain rfl : j = N := by omega
            have HOA : Hid (Calls (Al.progOf Tryd.prog) 9 #[.slice (some ⟨ga, 0, none⟩) j c4] wr fun e w' => ∃ (v : Value) (st : Nat), e = .returned (.tuple #[v, .int .i64 (st : Nat)]) ∧ (F = 1 → st ≠ 2) ∧ Below w.heap.size w w') := by
              have hd := hR.out.1
              have := open_any (some ⟨ga, 0, none⟩) xs c4 wr HDIx.out.aa hd.oa.lies (hd.oa.capD) (by rw [HXl.out]; omega)
              rw [HXl.out] at this
              refine this.mono ?_
              rintro e w' (⟨_, r1, r2⟩ | ⟨_, hv, r1⟩ | ⟨_, _, r1, r2⟩)
              · exact ⟨_, 1, r1, fun _ => by omega, hd.bel.trans (r2.mono hd.bel.size)⟩
              · obtain ⟨a9, c9, r3, r4, r5⟩ := r1
                refine ⟨_, 2, r3, fun hF1 => ?_, hd.bel.trans (r5.mono hd.bel.size)⟩
                exfalso
                obtain ⟨jj, bb, e1, e2, e3⟩ := HDIx.out.turned (by rw [hPn.out]; exact HN8.out.1) (by rw [← HN8.out.1, hR.out.2]; exact hF1)
                rw [e3] at hv
                exact turn_broken HPL.out.2.2.1 HPL.out.2.1 (by rw [hPn.out, HN8.out.1]; exact e1) e2 hv
              · exact ⟨_, 3, r1, fun _ => by omega, hd.bel.trans (r2.mono hd.bel.size)⟩
            clear hR
            go_wp2_with fail
            refine HOA.out.mono ?_
            rintro e wA ⟨v, st, rfl, hst, hbA⟩
            have HBA : Hid (Below w.heap.size w wA) := hbA
            clear HOA hbA
            by_cases hF1 : F = 1
            · have hne : (((st : Nat) : Int) != 2) = true := by have := hst hF1; rw [bne_iff_ne]; omega
              have hf1 : (((F : Nat) : Int) != 1) = false := by rw [bne_eq_false_iff_eq]; omega
              clear hst hF1
              go_wp2
              go_ret
              exact ⟨rfl, HBA.out⟩
            · have hf1 : (((F : Nat) : Int) != 1) = true := by rw [bne_iff_ne]; omega
              clear hst hF1
              go_wp2
              go_ret
              exact ⟨rfl, HBA.out⟩
set_option maxRecDepth 100000 in
set_option maxHeartbeats 3200000 in
/-- Not whole words. -/
theorem decay_odd (N k l s : Nat) (a : Option Addr) (cap : Nat) (data : List Nat) (v : Value) (w : World) (hPl : YtobpjijdebnaoaaDoorQC.Plc w) (h : FOk N k l s data.length) (hA : AllB data) (hL : Lies w a data) (hN : N % 8 ≠ 0) :
    Calls (Al.progOf Tryd.prog) 3 #[.int .i64 N, FV k l s a data.length cap, v] w fun e w' => e = .returned (.bool true) ∧ Below w.heap.size w w' := by
  have hb0 := alloc_below' w (boxF k l s a data.length cap)
  have HO : Hid (Calls (Al.progOf Tryd.prog) 4 #[] (w.alloc (boxF k l s a data.length cap)) fun e w' => e = .returned (.bool true) ∧ Below w.heap.size w w' ∧ BoxAt w' w.heap.size k l s a data.length cap) := by
    refine (one_any _ (Plc_below hPl hb0 (Plc_pos hPl))).mono ?_
    rintro e w' ⟨rfl, hb⟩
    exact ⟨rfl, hb0.trans (hb.mono hb0.size), (box_new w k l s a data.length cap).below hb⟩
  have HPk : Hid (∀ wx, Below w.heap.size w wx → Calls (Al.progOf Tryd.prog) 5 #[.int .i64 N, FV k l s a data.length cap] wx fun e w' => ∃ g, e = .returned (.tuple #[.slice (some ⟨g, 0, none⟩) N N, .nilIface]) ∧ Below w.heap.size w w') := fun wx hx => by
    refine (pack_good N k l s a cap data wx h hA (hL.below hx)).mono ?_
    rintro e w' ⟨g, r1, r2, r3, r4⟩
    exact ⟨g, r1, hx.trans (r4.mono hx.size)⟩
  have hmod : ((((N : Nat) : Int) % 8) != 0) = true := by rw [bne_iff_ne]; omega
  have hn1 := h.n1
  clear h hA hL hPl hb0 hN
  go_enter Al.func3, Tryd.ntmps3
  go_wp2_with fail
  refine HO.out.mono ?_
  rintro e w1 ⟨rfl, hb1, hx1⟩
  have c0 := hx1.c0
  have c1 := hx1.c1
  have c2 := hx1.c2
  have c3 := hx1.c3
  have HP1 := HPk.out w1 hb1
  clear HO hb1 hx1 HPk
  go_wp2_with fail
  refine HP1.mono ?_
  rintro e w2 ⟨g, rfl, hb2⟩
  have H2 : Hid (Below w.heap.size w w2) := hb2
  clear HP1 c0 c1 c2 c3 hb2
  go_wp2
  go_ret
  exact ⟨rfl, H2.out⟩
theorem decay_any (n k l s : Int) (a : Option Addr) (cap : Nat) (data : List Nat) (pa : Option Addr) (pc : Nat) (ps : List Int) (w : World) (hPl : YtobpjijdebnaoaaDoorQC.Plc w) (hA : AllB data) (hL : Lies w a data) (hm : data.length < 9223372036854775808) (hI : AtIn w pa ps) (hps : ps.length ≤ 9223372036854775807) :
    Calls (Al.progOf Tryd.prog) 3 #[.int .i64 n, FV k l s a data.length cap, .slice pa ps.length pc] w fun e w' => e = .returned (.bool true) ∧ Below w.heap.size w w' := by
  by_cases h : OkI n k l s data.length
  · obtain ⟨N, K, L, S, rfl, rfl, rfl, rfl, hF⟩ := h.nat
    by_cases h8 : N % 8 = 0
    · exact decay_good N (N / 8) K L S a cap data pa pc ps w hPl hF hA hL hI (by omega) hps
    · exact decay_odd N K L S a cap data _ w hPl hF hA hL h8
  · obtain ⟨q, hq⟩ := pack_err n k l s a data.length cap hm h
    exact decay_bad q n k l s a data.length cap _ w hPl hq
end Go.Proofs.YtobpjijdebnaoaaDoorQ

/- Part of the proof. -/
import Derived.Test.YtobpjijdebnaoaaDoorTw4
import Derived.Test.YtobpjijdebnaoaaDoorTwKD
import Derived.Test.YtobpjijdebnaoaaDoorQNDecay
namespace Go.Proofs.YtobpjijdebnaoaaDoor
open Go Go.Conc Go.RowKit
/-- Numbers that came in: all cells up to the capacity. -/
structure NIn (W : World) (pa : Option Addr) (cap : Nat) (z : Nat → Int) : Prop where
  cell : ∀ j, j < cap → ∃ b o, pa = some ⟨b, o, none⟩ ∧ W.cell? ⟨b, o + j, none⟩ = some (.int .i64 (z j))
  ok : ∀ j, j < cap → z j ≤ 9223372036854775807
theorem row_ofN {W : World} {pa : Option Addr} {cap : Nat} {z : Nat → Int} (h : NIn W pa cap z) (hc : cap ≠ 0) : ∃ b o, pa = some ⟨b, o, none⟩ ∧ (∃ fr, W.heap[b]? = some (.cells (clA W b) (elA W b) fr)) ∧ o + cap ≤ (clA W b).size ∧ ∀ j, j < cap → W.cell? ⟨b, o + j, none⟩ = some (.int .i64 (z j)) ∧ (clA W b)[o + j]? = some (.int .i64 (z j)) := by
  obtain ⟨b, o, e, h0⟩ := h.cell 0 (by omega)
  have hall : ∀ j, j < cap → W.cell? ⟨b, o + j, none⟩ = some (.int .i64 (z j)) ∧ (clA W b)[o + j]? = some (.int .i64 (z j)) := fun j hj => by
    obtain ⟨b', o', e', hi'⟩ := h.cell j hj
    rw [e] at e'
    cases e'
    exact ⟨hi', (cell_row hi').2⟩
  have hl := (Array.getElem?_eq_some_iff.1 (hall (cap - 1) (by omega)).2).1
  exact ⟨b, o, e, (cell_row h0).1, by omega, hall⟩
def intsCp (W : World) (pa : Option Addr) (cap : Nat) : Cp := if cap = 0 then cp0 else match pa with
  | none => cp0
  | some x => ⟨(clA W x.block).extract 0 (x.off + cap), elA W x.block, x.off, some x.block⟩
theorem intsCp_some {W : World} {pa : Option Addr} {cap b o : Nat} (hc : cap ≠ 0) (e : pa = some ⟨b, o, none⟩) : intsCp W pa cap = ⟨(clA W b).extract 0 (o + cap), elA W b, o, some b⟩ := by
  unfold intsCp
  rw [if_neg hc, e]
theorem gl_oneT : Tryd.prog.globals.size = 1 := by kernel_rfl
theorem wT_size : 1 < (begin Tryd.prog (fun _ _ => 0) default).world.heap.size := of_decide_eq_true (by kernel_rfl)
theorem wT_row : ∃ cs, (begin Tryd.prog (fun _ _ => 0) default).world.heap[1]? = some (.cells cs 0) ∧ cs = (Array.range Tryd.prog.types.size).map (fun t => Value.int .u64 (Int.ofNat t)) := ⟨_, by kernel_rfl, rfl⟩
theorem pl_u8 {o : Nat} {v : Value} (h : YtobpjijdebnaoaaDoorQC.PL[o]? = some v) : ∃ z, v = .int .u8 z := by
  have hall : (YtobpjijdebnaoaaDoorQC.PL.toList.all fun v => match v with | .int .u8 _ => true | _ => false) = true := by kernel_rfl
  have hm := List.all_eq_true.1 hall v (Array.mem_toList_iff.2 (Array.mem_of_getElem? h))
  match v, hm with
  | .int .u8 z, _ => exact ⟨z, rfl⟩
theorem shaped_lowD {W : World} (h : W.ShapedOpen Tryd.prog) (hP : YtobpjijdebnaoaaDoorQC.Plc W) : Tryd.prog.globals.size < W.heap.size ∧ ∀ b o v, W.cell? ⟨b, o, none⟩ = some v → ((∃ z, v = .int .i64 z) ∨ (b ≠ 0 ∧ ∃ z, v = .int .u8 z)) → Tryd.prog.globals.size < b := by
  obtain ⟨o, o0, h1, h2, h3⟩ := h.2 1 (Nat.le_of_eq gl_oneT) wT_size
  obtain ⟨t0, fr0, hv⟩ := hP
  rw [gl_oneT] at h3 ⊢
  have h4 : o = o0 := h3
  subst h4
  obtain ⟨cs, e, hcs⟩ := wT_row
  rw [e] at h2
  obtain rfl := Option.some.inj h2
  refine ⟨(Array.getElem?_eq_some_iff.1 h1).1, fun b off v hc hv2 => ?_⟩
  rcases Nat.lt_or_ge 1 b with hb | hb
  · exact hb
  · exfalso
    have hb2 : b = 0 ∨ b = 1 := by omega
    rcases hb2 with rfl | rfl
    · have hx : YtobpjijdebnaoaaDoorQC.PL[off]? = some v := by simpa [World.cell?, hv] using hc
      obtain ⟨y, rfl⟩ := pl_u8 hx
      rcases hv2 with ⟨_, e⟩ | ⟨e, _⟩
      · cases e
      · exact e rfl
    · have hx : cs[off]? = some v := by simpa [World.cell?, h1] using hc
      rw [hcs] at hx
      obtain ⟨t, _, rfl⟩ := Array.mem_map.1 (Array.mem_of_getElem? hx)
      rcases hv2 with ⟨_, e⟩ | ⟨_, _, e⟩ <;> cases e
/-- The copy of bytes that came in, where they do not lie in the variable itself. -/
def bytCp (W : World) (a : Option Addr) (cap : Nat) : Cp := if cap = 0 then cp0 else match a with
  | none => cp0
  | some x => if x.block = 0 then cp0 else ⟨(clA W x.block).extract 0 (x.off + cap), elA W x.block, x.off, some x.block⟩
def gDb (W : World) (a : Option Addr) (cap : Nat) : Option Addr := if cap = 0 then a else match a with
  | none => none
  | some x => if x.block = 0 then a else some ⟨W.heap.size, x.off, none⟩
theorem decay_calls (n k l s : Int) (a : Option Addr) (dl cap : Nat) (data : List Nat) (pa : Option Addr) (pl pc : Nat) (ps : List Int) (w : World) (hd : data.length = dl) (hp : ps.length = pl) (hP : YtobpjijdebnaoaaDoorQC.Plc w) (hA : YtobpjijdebnaoaaDoorM.AllB data) (hL : YtobpjijdebnaoaaDoorQ.Lies w a data) (hm : data.length < 9223372036854775808) (hI : YtobpjijdebnaoaaDoorQ.AtIn w pa ps) (hps : ps.length ≤ 9223372036854775807) (t : Nat → Question → Nat) (d : Nat) :
    Calls (YtobpjijdebnaoaaDoorQ.Al.progOf Tryd.prog) 3 #[.int .i64 n, .agg #[.int .i64 k, .int .i64 l, .int .i64 s, .slice a dl cap], .slice pa pl pc] (wOn w t d) (fun e _ => ∃ v, e = .returned v ∧ v = .bool true) := by
  subst hd hp
  have hP' : YtobpjijdebnaoaaDoorQC.Plc (wOn w t d) := hP
  have hI' : YtobpjijdebnaoaaDoorQ.AtIn (wOn w t d) pa ps := ⟨hI.cell, hI.ok⟩
  have hL' : YtobpjijdebnaoaaDoorQ.Lies (wOn w t d) a data := hL
  exact (YtobpjijdebnaoaaDoorQ.decay_any n k l s a cap data pa pc ps (wOn w t d) hP' hA hL' hm hI' hps).mono fun e w' h => ⟨_, h.1, rfl⟩
/-- The numbers' place on the ghost's side. -/
def gPn (W : World) (pa : Option Addr) (pc : Nat) : Option Addr := if pc = 0 then pa else pa.map fun x => ⟨W.heap.size + 1, x.off, none⟩
/-- The byte at a place. -/
def byA (W : World) (b j : Nat) : Nat := match W.cell? ⟨b, j, none⟩ with
  | some (.int .u8 z) => z.toNat
  | _ => 0
set_option maxRecDepth 20000 in
theorem decay_run {W : World} {a : Option Addr} {dl cap : Nat} {pa : Option Addr} {pl pc : Nat} {z : Nat → Int} {n k l s : Int} (hs : W.ShapedOpen Tryd.prog) (hPl : YtobpjijdebnaoaaDoorQC.Plc W) (hB : PIn W a dl cap) (hdm : dl < 9223372036854775808) (hle : pl ≤ pc) (hN : NIn W pa pc z) (hz0 : ∀ j, j < pc → -9223372036854775808 ≤ z j) (hpm : pl ≤ 9223372036854775807) :
    ∃ N last o w' t', runNT Tryd.prog (N + 1) (solo (G (Frame.enter Tryd.prog 3 #[.int .i64 n, .agg #[.int .i64 k, .int .i64 l, .int .i64 s, .slice a dl cap], .slice pa pl pc] .normal) []) W) #[] = (.ended o w', t') ∧ runN Tryd.prog N (solo (G (Frame.enter Tryd.prog 3 #[.int .i64 n, .agg #[.int .i64 k, .int .i64 l, .int .i64 s, .slice a dl cap], .slice pa pl pc] .normal) []) W) = .next last ∧ step Tryd.prog last = .ended o w' ∧
      Go.Conc.Good Tryd.prog (fun v w' => v = .bool true ∧ Below W.heap.size W w') last o w' t' := by
  obtain ⟨C, hC⟩ : ∃ C, C = [bytCp W a cap, intsCp W pa pc] := ⟨_, rfl⟩
  have hC0 : C[0]? = some (bytCp W a cap) := by rw [hC]; rfl
  have hC1 : C[1]? = some (intsCp W pa pc) := by rw [hC]; rfl
  obtain ⟨hg, hG⟩ := shaped_lowD hs hPl
  have hpos : 0 < W.heap.size := Nat.lt_of_le_of_lt (Nat.zero_le _) hg
  obtain ⟨fns, hfns⟩ : ∃ fns, fns = topFx Tryd.prog.funcs (ghLo W C) (ghPt W C) (ghPl W C) := ⟨_, rfl⟩
  have hlo : fns.lo = ghLo W C := by rw [hfns]; rfl
  have hpt : fns.pt = ghPt W C := by rw [hfns]; rfl
  have bytSome : ∀ b o, cap ≠ 0 → a = some ⟨b, o, none⟩ → b ≠ 0 → bytCp W a cap = ⟨(clA W b).extract 0 (o + cap), elA W b, o, some b⟩ := fun b o h1 h2 h3 => by
    unfold bytCp
    rw [if_neg h1, h2]
    simp only []
    rw [if_neg h3]
  have hcps : ∀ (q : Nat) (d : Cp), C[q]? = some d → CpOk W C fns (YtobpjijdebnaoaaDoorQ.Al.progOf Tryd.prog).globals.size d := fun q d hd b hb => by
    have hd2 : d = bytCp W a cap ∨ d = intsCp W pa pc := by
      rw [hC] at hd
      have := List.mem_of_getElem? hd
      simpa using this
    rcases hd2 with rfl | rfl
    · by_cases hc : cap = 0
      · unfold bytCp at hb
        rw [if_pos hc] at hb
        cases hb
      · obtain ⟨b', o, e, ⟨fr, hh⟩, hsz, hall⟩ := page_of hB hc
        by_cases hb0 : b' = 0
        · exfalso
          unfold bytCp at hb
          rw [if_neg hc, e] at hb
          simp only [] at hb
          rw [if_pos hb0] at hb
          cases hb
        · rw [bytSome b' o hc e hb0] at hb ⊢
          simp only [Option.some.injEq] at hb
          subst hb
          obtain ⟨z0, h0, _⟩ := hall 0 (by omega)
          refine ⟨hG _ _ _ h0 (.inr ⟨hb0, _, rfl⟩), clA W b', fr, hh, by simp; omega, fun j h1 h2 hlo' => ?_⟩
          have hlo2 : o ≤ j := hlo'
          simp only [Array.size_extract] at h1
          simp only [Array.getElem_extract, Nat.zero_add]
          obtain ⟨z1, _, hz, _⟩ := hall (j - o) (by omega)
          rw [show o + (j - o) = j by omega, Array.getElem?_eq_getElem h2] at hz
          rw [Option.some.inj hz]
          exact vr_scalar rfl
    · by_cases hc : pc = 0
      · unfold intsCp at hb
        rw [if_pos hc] at hb
        cases hb
      · obtain ⟨b', o, e, ⟨fr, hh⟩, hsz, hall⟩ := row_ofN hN hc
        rw [intsCp_some hc e] at hb ⊢
        simp only [Option.some.injEq] at hb
        subst hb
        refine ⟨hG _ _ _ (hall 0 (by omega)).1 (.inl ⟨_, rfl⟩), clA W b', fr, hh, by simp; omega, fun j h1 h2 hlo' => ?_⟩
        have hlo2 : o ≤ j := hlo'
        simp only [Array.size_extract] at h1
        simp only [Array.getElem_extract, Nat.zero_add]
        have hz := (hall (j - o) (by omega)).2
        rw [show o + (j - o) = j by omega, Array.getElem?_eq_getElem h2] at hz
        rw [Option.some.inj hz]
        exact vr_scalar rfl
  have hGv : ∀ g, g ∈ [0] → GvOk W C [0] fns (YtobpjijdebnaoaaDoorQ.Al.progOf Tryd.prog).globals.size g := fun g hg0 => by
    obtain rfl := List.mem_singleton.1 hg0
    obtain ⟨t, fr, hv⟩ := hPl
    refine ⟨Nat.zero_le _, _, t, fr, hv, fun i hi => ?_⟩
    obtain ⟨y, e⟩ := pl_u8 (Array.getElem?_eq_getElem hi)
    rw [e]
    exact vr_scalar rfl
  have hwr : WR (YtobpjijdebnaoaaDoorQ.Al.progOf Tryd.prog) fns (ghEG W C [0]) (ghZG W C [0]) (ghWG W C [0]) W := gh_wrG W C [0] hlo hpt hg hcps hGv
  have hvb : VR fns (ghEG W C [0]) (.slice (gDb W a cap) dl cap) (.slice a dl cap) := by
    refine vr_slice.2 ⟨_, rfl, ?_⟩
    by_cases hc : cap = 0
    · exact .inr ⟨by have := hB.le; omega, hc, by unfold gDb; rw [if_pos hc]⟩
    · obtain ⟨b, o, e, _⟩ := page_of hB hc
      refine .inl ?_
      unfold gDb
      rw [if_neg hc, e]
      simp only []
      by_cases hb0 : b = 0
      · rw [if_pos hb0]
        subst hb0
        refine ⟨.inr ⟨rfl, by simp⟩, rfl, rfl, ?_⟩
        show fns.lo 0 ≤ o
        rw [hlo]
        unfold ghLo
        rw [if_pos hpos]
        exact Nat.zero_le _
      · rw [if_neg hb0]
        rw [bytSome b o hc e hb0] at hC0
        refine ⟨.inl ⟨0, _, hC0, rfl, rfl⟩, rfl, rfl, ?_⟩
        show fns.lo (W.heap.size + 0) ≤ o
        rw [hlo, ghLo_at W C hC0]
        exact Nat.le_refl _
  have hvp : VR fns (ghEG W C [0]) (.slice (gPn W pa pc) pl pc) (.slice pa pl pc) := by
    refine vr_slice.2 ⟨_, rfl, ?_⟩
    by_cases hc : pc = 0
    · exact .inr ⟨by omega, hc, by unfold gPn; rw [if_pos hc]⟩
    · obtain ⟨b, o, e, _⟩ := row_ofN hN hc
      refine .inl ?_
      unfold gPn
      rw [if_neg hc, e]
      rw [intsCp_some hc e] at hC1
      refine ⟨.inl ⟨1, _, hC1, rfl, rfl⟩, rfl, rfl, ?_⟩
      show fns.lo (W.heap.size + 1) ≤ o
      rw [hlo, ghLo_at W C hC1]
      exact Nat.le_refl _
  have hargs : AllR fns (ghEG W C [0]) #[.int .i64 n, .agg #[.int .i64 k, .int .i64 l, .int .i64 s, .slice (gDb W a cap) dl cap], .slice (gPn W pa pc) pl pc] #[.int .i64 n, .agg #[.int .i64 k, .int .i64 l, .int .i64 s, .slice a dl cap], .slice pa pl pc] := by
    refine ⟨rfl, fun i h _ => ?_⟩
    simp only [List.size_toArray, List.length_cons, List.length_nil] at h
    match i, h with
    | 0, _ => exact vr_scalar rfl
    | 1, _ =>
      refine vr_agg.2 ⟨_, rfl, rfl, fun j hj _ => ?_⟩
      simp only [List.size_toArray, List.length_cons, List.length_nil] at hj
      match j, hj with
      | 0, _ => exact vr_scalar rfl
      | 1, _ => exact vr_scalar rfl
      | 2, _ => exact vr_scalar rfl
      | 3, _ => exact hvb
    | 2, _ => exact hvp
  have hgs : ∀ g, fns.gl g = true → ghEG W C [0] g g ∧ fns.pt g = true := fun g hg0 => by
    have e : g = 0 := by rw [hfns] at hg0; simpa [topFx] using hg0
    subst e
    refine ⟨.inr ⟨rfl, by simp⟩, ?_⟩
    rw [hpt]
    exact decide_eq_true (.inl hpos)
  have hst0 := start_own hargs hgs hwr
  have hk0 : K0 1 W.heap[(1 : Nat)]? (ghEG W C [0]) (fun _ => False) W := by
    have hg1 : 1 < W.heap.size := by rw [gl_oneT] at hg; exact hg
    refine ⟨fun x y => ?_, fun h => h, hg1, rfl⟩
    rcases y with ⟨q, d, h1, _, h3⟩ | ⟨e1, h⟩
    · have := (hcps q d h1 _ h3).1
      have e : (YtobpjijdebnaoaaDoorQ.Al.progOf Tryd.prog).globals.size = 1 := gl_oneT
      omega
    · have e2 := List.mem_singleton.1 h
      omega
  have hPg : YtobpjijdebnaoaaDoorQC.Plc (ghWG W C [0]) := by
    obtain ⟨t, fr, hv⟩ := hPl
    exact ⟨t, _, ghWG_var W C [0] (by simp) hv⟩
  obtain ⟨data, hdl, hdA, hdL⟩ : ∃ data : List Nat, data.length = dl ∧ YtobpjijdebnaoaaDoorM.AllB data ∧ YtobpjijdebnaoaaDoorQ.Lies (ghWG W C [0]) (gDb W a cap) data := by
    by_cases h0 : dl = 0
    · exact ⟨[], by simp [h0], (fun x hx => by simp at hx), .inl rfl⟩
    · have hc : cap ≠ 0 := by have := hB.le; omega
      obtain ⟨b, o, e, ⟨fr, hh⟩, hsz, hall⟩ := page_of hB hc
      have hb : ∀ j, j < dl → byA W b (o + j) < 256 ∧ (clA W b)[o + j]? = some (.int .u8 ((byA W b (o + j) : Nat) : Int)) := fun j hj => by
        obtain ⟨y, h1, h2, h3, h4⟩ := hall j (by have := hB.le; omega)
        unfold byA
        rw [h1, h2]
        refine ⟨by show y.toNat < 256; omega, ?_⟩
        rw [Int.toNat_of_nonneg h3]
      refine ⟨(List.range dl).map fun j => byA W b (o + j), by simp, fun x hx => ?_, ?_⟩
      · obtain ⟨j, hj, rfl⟩ := List.mem_map.1 hx
        exact (hb j (List.mem_range.1 hj)).1
      · have hq : ∀ j, j < dl → ((List.range dl).map fun j => byA W b (o + j))[j]?.getD 0 = byA W b (o + j) := fun j hj => by simp [hj]
        by_cases hb0 : b = 0
        · subst hb0
          refine .inr ⟨0, o, by unfold gDb; rw [if_neg hc, e]; rfl, fun j hj => ?_⟩
          have hj2 : j < dl := by simpa using hj
          rw [hq j hj2]
          have hrow := ghWG_var W C [0] (g := 0) (by simp) hh
          simp only [World.cell?, hrow, frz]
          exact (hb j hj2).2
        · refine .inr ⟨W.heap.size, o, by unfold gDb; rw [if_neg hc, e]; simp only []; rw [if_neg hb0], fun j hj => ?_⟩
          have hj2 : j < dl := by simpa using hj
          rw [hq j hj2]
          rw [bytSome b o hc e hb0] at hC0
          have hrow := ghWG_at W C [0] hC0
          rw [Nat.add_zero] at hrow
          simp only [World.cell?, hrow, Cp.obj]
          rw [Array.getElem?_extract]
          have hlt : o + j < min (o + cap) (clA W b).size - 0 := by have := hB.le; omega
          rw [if_neg (by decide), if_pos hlt, Nat.zero_add]
          exact (hb j hj2).2
  have hIg : YtobpjijdebnaoaaDoorQ.AtIn (ghWG W C [0]) (gPn W pa pc) ((List.range pl).map z) := by
    have hq : ∀ i, i < pl → ((List.range pl).map z)[i]?.getD 0 = z i := fun i hi => by simp [hi]
    refine ⟨fun i hi => ?_, fun i hi => ?_⟩
    · have hi2 : i < pl := by simpa using hi
      have hc : pc ≠ 0 := by omega
      obtain ⟨b, o, e, hfr, hsz, hall⟩ := row_ofN hN hc
      refine ⟨W.heap.size + 1, o, by unfold gPn; rw [if_neg hc, e]; rfl, ?_⟩
      rw [hq i hi2]
      rw [intsCp_some hc e] at hC1
      have hrow := ghWG_at W C [0] hC1
      have hz := (hall i (by omega)).2
      simp only [World.cell?, hrow, Cp.obj]
      rw [Array.getElem?_extract]
      have hlt : o + i < min (o + pc) (clA W b).size - 0 := by omega
      rw [if_neg (by decide), if_pos hlt, Nat.zero_add]
      exact hz
    · have hi2 : i < pl := by simpa using hi
      rw [hq i hi2]
      exact ⟨hz0 i (by omega), by have := hN.ok i (by omega); omega⟩
  subst hfns
  obtain ⟨N, last, o, w', t', r1, r2, r3, r4⟩ := ghost_run (P := (YtobpjijdebnaoaaDoorQ.Al.progOf Tryd.prog)) (fns0 := (topFx Tryd.prog.funcs (ghLo W C) (ghPt W C) (ghPl W C)).own (YtobpjijdebnaoaaDoorQ.Al.progOf Tryd.prog)) (Q := fun v _ => v = .bool true) (f := 3) (r := 6) (top_zeros _ _ _ _) (top_zeros' _ _ _) gdepth (top_prog _ _ _) (top_own _ _ _) (top_jc _ _ _ _ _ _) (by kernel_rfl) YtobpjijdebnaoaaDoorQ.Al.func3 Tryd.results3 (by kernel_rfl) rfl rfl rfl hargs hwr hgs hst0 hk0 (fun t d => decay_calls n k l s _ dl cap data _ pl pc _ _ hdl (by simp) hPg hdA hdL (by omega) hIg (by simpa using hpm) t d)
  refine ⟨N, last, o, w', t', r1, r2, r3, r4.mono fun v h => ⟨?_, below_of ⟨h.2.1, fun b hb => h.2.2.1 b hb fun a x => ghEG_z W C [0] x, h.2.2.2⟩⟩⟩
  obtain ⟨E1, v0, gh1, rfl, hv, _⟩ := h.1
  exact vr_bool.1 hv
end Go.Proofs.YtobpjijdebnaoaaDoor

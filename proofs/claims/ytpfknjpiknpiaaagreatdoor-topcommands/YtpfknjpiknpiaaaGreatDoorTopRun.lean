/- Part of the proof. -/
import Derived.Test.YtpfknjpiknpiaaaGreatDoorTw4
import Derived.Test.YtpfknjpiknpiaaaGreatDoorTwKT
import Derived.Test.YtpfknjpiknpiaaaGreatDoorQLNTopC
namespace Go.Proofs.YtpfknjpiknpiaaaGreatDoor
open Go Go.Conc Go.RowKit
structure NIn (W : World) (pa : Option Addr) (cap : Nat) (z : Nat → Int) : Prop where
  cell : ∀ j, j < cap → ∃ b o, pa = some ⟨b, o, none⟩ ∧ W.cell? ⟨b, o + j, none⟩ = some (.int .i64 (z j))
  ok : ∀ j, j < cap → z j ≤ 9223372036854775807
theorem row_ofN {W : World} {pa : Option Addr} {cap : Nat} {z : Nat → Int} (h : NIn W pa cap z) (hc : cap ≠ 0) : ∃ b o, pa = some ⟨b, o, none⟩ ∧ (∃ fr, W.heap[b]? = some (.cells (clA W b) (elA W b) fr)) ∧ o + cap ≤ (clA W b).size ∧ ∀ j, j < cap → W.cell? ⟨b, o + j, none⟩ = some (.int .i64 (z j)) ∧ (clA W b)[o + j]? = some (.int .i64 (z j)) := by
  obtain ⟨b, o, e, h0⟩ := h.cell 0 (by omega)
  have hall : ∀ j, j < cap → W.cell? ⟨b, o + j, none⟩ = some (.int .i64 (z j)) ∧ (clA W b)[o + j]? = some (.int .i64 (z j)) := fun j hj => by
    obtain ⟨b', o', e', hi'⟩ := h.cell j hj
    rw [e] at e'
    cases e'
    exact ⟨hi', (cell_row hi').2⟩
  have hl := (Array.getElem?_eq_some_iff.1 (hall (cap - 1) (by omega)).2).1
  exact ⟨b, o, e, (cell_row h0).1, by omega, hall⟩
def intsCp (W : World) (pa : Option Addr) (cap : Nat) : Cp := if cap = 0 then cp0 else match pa with
  | none => cp0
  | some x => ⟨(clA W x.block).extract 0 (x.off + cap), elA W x.block, x.off, some x.block⟩
theorem intsCp_some {W : World} {pa : Option Addr} {cap b o : Nat} (hc : cap ≠ 0) (e : pa = some ⟨b, o, none⟩) : intsCp W pa cap = ⟨(clA W b).extract 0 (o + cap), elA W b, o, some b⟩ := by
  unfold intsCp
  rw [if_neg hc, e]
theorem gl_oneT : Tryz.prog.globals.size = 1 := by kernel_rfl
theorem wT_size : 1 < (begin Tryz.prog (fun _ _ => 0) default).world.heap.size := of_decide_eq_true (by kernel_rfl)
theorem wT_row : ∃ cs, (begin Tryz.prog (fun _ _ => 0) default).world.heap[1]? = some (.cells cs 0) ∧ cs = (Array.range Tryz.prog.types.size).map (fun t => Value.int .u64 (Int.ofNat t)) := ⟨_, by kernel_rfl, rfl⟩
theorem pl_u8 {o : Nat} {v : Value} (h : YtpfknjpiknpiaaaGreatDoorQC.PL[o]? = some v) : ∃ z, v = .int .u8 z := by
  have hall : (YtpfknjpiknpiaaaGreatDoorQC.PL.toList.all fun v => match v with | .int .u8 _ => true | _ => false) = true := by kernel_rfl
  have hm := List.all_eq_true.1 hall v (Array.mem_toList_iff.2 (Array.mem_of_getElem? h))
  match v, hm with
  | .int .u8 z, _ => exact ⟨z, rfl⟩
theorem shaped_lowT {W : World} (h : W.ShapedOpen Tryz.prog) (hP : YtpfknjpiknpiaaaGreatDoorQC.Plc W) : Tryz.prog.globals.size < W.heap.size ∧ ∀ b o z, W.cell? ⟨b, o, none⟩ = some (.int .i64 z) → Tryz.prog.globals.size < b := by
  obtain ⟨o, o0, h1, h2, h3⟩ := h.2 1 (Nat.le_of_eq gl_oneT) wT_size
  obtain ⟨t0, fr0, hv⟩ := hP
  rw [gl_oneT] at h3 ⊢
  have h4 : o = o0 := h3
  subst h4
  obtain ⟨cs, e, hcs⟩ := wT_row
  rw [e] at h2
  obtain rfl := Option.some.inj h2
  refine ⟨(Array.getElem?_eq_some_iff.1 h1).1, fun b off z hc => ?_⟩
  rcases Nat.lt_or_ge 1 b with hb | hb
  · exact hb
  · exfalso
    have hb2 : b = 0 ∨ b = 1 := by omega
    rcases hb2 with rfl | rfl
    · have hx : YtpfknjpiknpiaaaGreatDoorQC.PL[off]? = some (.int .i64 z) := by simpa [World.cell?, hv] using hc
      obtain ⟨y, e⟩ := pl_u8 hx
      cases e
    · have hx : cs[off]? = some (.int .i64 z) := by simpa [World.cell?, h1] using hc
      rw [hcs] at hx
      obtain ⟨t, _, e⟩ := Array.mem_map.1 (Array.mem_of_getElem? hx)
      cases e
theorem topc_calls (n x offset long op id lba cnt f0 s0 : Int) (pa : Option Addr) (len cap : Nat) (pages : List Int) (w : World) (hl : pages.length = len) (hP : YtpfknjpiknpiaaaGreatDoorQC.Plc w) (hI : YtpfknjpiknpiaaaGreatDoorQL.IIn w pa cap pages) (hx : x ≤ 9223372036854775807) (t : Nat → Question → Nat) (d : Nat) :
    Calls (YtpfknjpiknpiaaaGreatDoorQ.Al.progOf Tryz.prog) 3 #[.int .i64 n, .int .i64 x, .slice pa len cap, .int .i64 offset, .int .i64 long, .agg #[.int .i64 op, .int .i64 id, .int .i64 lba, .int .i64 cnt, .int .i64 f0, .int .i64 s0]] (wOn w t d) (fun e _ => ∃ v, e = .returned v ∧ v = .bool true) := by
  subst hl
  have hP' : YtpfknjpiknpiaaaGreatDoorQC.Plc (wOn w t d) := hP
  have hI' : YtpfknjpiknpiaaaGreatDoorQL.IIn (wOn w t d) pa cap pages := ⟨hI.il, hI.cap, hI.ok⟩
  exact (YtpfknjpiknpiaaaGreatDoorQL.topc_any n x offset long op id lba cnt f0 s0 pa cap pages (wOn w t d) hP' hI' hx).mono fun e w' h => ⟨_, h.1, rfl⟩
set_option maxRecDepth 20000 in
theorem topc_run {W : World} {pa : Option Addr} {len cap : Nat} {z : Nat → Int} {n x offset long op id lba cnt f0 s0 : Int} (hs : W.ShapedOpen Tryz.prog) (hPl : YtpfknjpiknpiaaaGreatDoorQC.Plc W) (hle : len ≤ cap) (hN : NIn W pa cap z) (hx : x ≤ 9223372036854775807) :
    ∃ N last o w' t', runNT Tryz.prog (N + 1) (solo (G (Frame.enter Tryz.prog 3 #[.int .i64 n, .int .i64 x, .slice pa len cap, .int .i64 offset, .int .i64 long, .agg #[.int .i64 op, .int .i64 id, .int .i64 lba, .int .i64 cnt, .int .i64 f0, .int .i64 s0]] .normal) []) W) #[] = (.ended o w', t') ∧ runN Tryz.prog N (solo (G (Frame.enter Tryz.prog 3 #[.int .i64 n, .int .i64 x, .slice pa len cap, .int .i64 offset, .int .i64 long, .agg #[.int .i64 op, .int .i64 id, .int .i64 lba, .int .i64 cnt, .int .i64 f0, .int .i64 s0]] .normal) []) W) = .next last ∧ step Tryz.prog last = .ended o w' ∧
      Go.Conc.Good Tryz.prog (fun v w' => v = .bool true ∧ Below W.heap.size W w') last o w' t' := by
  obtain ⟨C, hC⟩ : ∃ C, C = [intsCp W pa cap] := ⟨_, rfl⟩
  have hC0 : C[0]? = some (intsCp W pa cap) := by rw [hC]; rfl
  obtain ⟨hg, hG⟩ := shaped_lowT hs hPl
  obtain ⟨fns, hfns⟩ : ∃ fns, fns = topFx Tryz.prog.funcs (ghLo W C) (ghPt W C) (ghPl W C) := ⟨_, rfl⟩
  have hlo : fns.lo = ghLo W C := by rw [hfns]; rfl
  have hpt : fns.pt = ghPt W C := by rw [hfns]; rfl
  have hcps : ∀ (k : Nat) (d : Cp), C[k]? = some d → CpOk W C fns (YtpfknjpiknpiaaaGreatDoorQ.Al.progOf Tryz.prog).globals.size d := fun k d hd b hb => by
    have hd2 : d = intsCp W pa cap := by
      rw [hC] at hd
      have := List.mem_of_getElem? hd
      simpa using this
    subst hd2
    by_cases hc : cap = 0
    · unfold intsCp at hb
      rw [if_pos hc] at hb
      cases hb
    · obtain ⟨b', o, e, ⟨fr, hh⟩, hsz, hall⟩ := row_ofN hN hc
      rw [intsCp_some hc e] at hb ⊢
      simp only [Option.some.injEq] at hb
      subst hb
      refine ⟨hG _ _ _ (hall 0 (by omega)).1, clA W b', fr, hh, by simp; omega, fun j h1 h2 hlo' => ?_⟩
      have hlo2 : o ≤ j := hlo'
      simp only [Array.size_extract] at h1
      simp only [Array.getElem_extract, Nat.zero_add]
      have hz := (hall (j - o) (by omega)).2
      rw [show o + (j - o) = j by omega, Array.getElem?_eq_getElem h2] at hz
      rw [Option.some.inj hz]
      exact vr_scalar rfl
  have hGv : ∀ g, g ∈ [0] → GvOk W C [0] fns (YtpfknjpiknpiaaaGreatDoorQ.Al.progOf Tryz.prog).globals.size g := fun g hg0 => by
    obtain rfl := List.mem_singleton.1 hg0
    obtain ⟨t, fr, hv⟩ := hPl
    refine ⟨Nat.zero_le _, _, t, fr, hv, fun i hi => ?_⟩
    obtain ⟨y, e⟩ := pl_u8 (Array.getElem?_eq_getElem hi)
    rw [e]
    exact vr_scalar rfl
  have hwr : WR (YtpfknjpiknpiaaaGreatDoorQ.Al.progOf Tryz.prog) fns (ghEG W C [0]) (ghZG W C [0]) (ghWG W C [0]) W := gh_wrG W C [0] hlo hpt hg hcps hGv
  have hargs : AllR fns (ghEG W C [0]) #[.int .i64 n, .int .i64 x, .slice (gpa W.heap.size pa cap) len cap, .int .i64 offset, .int .i64 long, .agg #[.int .i64 op, .int .i64 id, .int .i64 lba, .int .i64 cnt, .int .i64 f0, .int .i64 s0]] #[.int .i64 n, .int .i64 x, .slice pa len cap, .int .i64 offset, .int .i64 long, .agg #[.int .i64 op, .int .i64 id, .int .i64 lba, .int .i64 cnt, .int .i64 f0, .int .i64 s0]] := by
    refine ⟨rfl, fun i h _ => ?_⟩
    simp only [List.size_toArray, List.length_cons, List.length_nil] at h
    match i, h with
    | 0, _ => exact vr_scalar rfl
    | 1, _ => exact vr_scalar rfl
    | 2, _ =>
      refine vr_slice.2 ⟨_, rfl, ?_⟩
      by_cases hc : cap = 0
      · exact .inr ⟨by omega, hc, by unfold gpa; rw [if_pos hc]⟩
      · obtain ⟨b, o, e, _⟩ := row_ofN hN hc
        refine .inl ?_
        unfold gpa
        rw [if_neg hc, e]
        rw [intsCp_some hc e] at hC0
        refine ⟨.inl ⟨0, _, hC0, rfl, rfl⟩, rfl, rfl, ?_⟩
        show fns.lo (W.heap.size + 0) ≤ o
        rw [hlo, ghLo_at W C hC0]
        exact Nat.le_refl _
    | 3, _ => exact vr_scalar rfl
    | 4, _ => exact vr_scalar rfl
    | 5, _ =>
      refine vr_agg.2 ⟨_, rfl, rfl, fun j hj _ => ?_⟩
      simp only [List.size_toArray, List.length_cons, List.length_nil] at hj
      match j, hj with
      | 0, _ => exact vr_scalar rfl
      | 1, _ => exact vr_scalar rfl
      | 2, _ => exact vr_scalar rfl
      | 3, _ => exact vr_scalar rfl
      | 4, _ => exact vr_scalar rfl
      | 5, _ => exact vr_scalar rfl
  have hgs : ∀ g, fns.gl g = true → ghEG W C [0] g g ∧ fns.pt g = true := fun g hg0 => by
    have e : g = 0 := by rw [hfns] at hg0; simpa [topFx] using hg0
    subst e
    refine ⟨.inr ⟨rfl, by simp⟩, ?_⟩
    rw [hpt]
    exact decide_eq_true (.inl (Nat.lt_of_le_of_lt (Nat.zero_le _) hg))
  have hst0 := start_own hargs hgs hwr
  have hk0 : K0 1 W.heap[(1 : Nat)]? (ghEG W C [0]) (fun _ => False) W := by
    have hg1 : 1 < W.heap.size := by rw [gl_oneT] at hg; exact hg
    refine ⟨fun a x => ?_, fun h => h, hg1, rfl⟩
    rcases x with ⟨k, d, h1, _, h3⟩ | ⟨e1, h⟩
    · have := (hcps k d h1 _ h3).1
      have e : (YtpfknjpiknpiaaaGreatDoorQ.Al.progOf Tryz.prog).globals.size = 1 := gl_oneT
      omega
    · have e2 := List.mem_singleton.1 h
      omega
  have hPg : YtpfknjpiknpiaaaGreatDoorQC.Plc (ghWG W C [0]) := by
    obtain ⟨t, fr, hv⟩ := hPl
    exact ⟨t, _, ghWG_var W C [0] (by simp) hv⟩
  have hIg : YtpfknjpiknpiaaaGreatDoorQL.IIn (ghWG W C [0]) (gpa W.heap.size pa cap) cap ((List.range len).map z) := by
    refine ⟨?_, by simpa using hle, fun i hi => ?_⟩
    · by_cases h0 : len = 0
      · exact .inl (by simp [h0])
      · have hc : cap ≠ 0 := by omega
        obtain ⟨b, o, e, hfr, hsz, hall⟩ := row_ofN hN hc
        refine .inr ⟨W.heap.size, o, by unfold gpa; rw [if_neg hc, e]; rfl, fun i hi => ?_⟩
        have hi2 : i < len := by simpa using hi
        rw [intsCp_some hc e] at hC0
        have hrow := ghWG_at W C [0] hC0
        rw [Nat.add_zero] at hrow
        have hz := (hall i (by omega)).2
        have hzl := (Array.getElem?_eq_some_iff.1 hz).1
        have hq : YtpfknjpiknpiaaaGreatDoorQL.gI ((List.range len).map z) i = z i := by
          unfold YtpfknjpiknpiaaaGreatDoorQL.gI
          simp [hi2]
        rw [hq]
        simp only [World.cell?, hrow, Cp.obj]
        rw [Array.getElem?_extract]
        have hlt : o + i < min (o + cap) (clA W b).size - 0 := by omega
        rw [if_neg (by decide), if_pos hlt, Nat.zero_add]
        exact hz
    · have hi2 : i < len := by simpa using hi
      have hq : YtpfknjpiknpiaaaGreatDoorQL.gI ((List.range len).map z) i = z i := by
        unfold YtpfknjpiknpiaaaGreatDoorQL.gI
        simp [hi2]
      rw [hq]
      exact hN.ok i (by omega)
  subst hfns
  obtain ⟨N, last, o, w', t', r1, r2, r3, r4⟩ := ghost_run (P := (YtpfknjpiknpiaaaGreatDoorQ.Al.progOf Tryz.prog)) (fns0 := (topFx Tryz.prog.funcs (ghLo W C) (ghPt W C) (ghPl W C)).own (YtpfknjpiknpiaaaGreatDoorQ.Al.progOf Tryz.prog)) (Q := fun v _ => v = .bool true) (f := 3) (r := 12) (top_zeros _ _ _ _) (top_zeros' _ _ _) gdepth (top_prog _ _ _) (top_own _ _ _) (top_jc _ _ _ _ _ _) (by kernel_rfl) YtpfknjpiknpiaaaGreatDoorQ.Al.func3 Tryz.results3 (by kernel_rfl) rfl rfl rfl hargs hwr hgs hst0 hk0 (fun t d => topc_calls n x offset long op id lba cnt f0 s0 _ len cap _ _ (by simp) hPg hIg hx t d)
  refine ⟨N, last, o, w', t', r1, r2, r3, r4.mono fun v h => ⟨?_, below_of ⟨h.2.1, fun b hb => h.2.2.1 b hb fun a x => ghEG_z W C [0] x, h.2.2.2⟩⟩⟩
  obtain ⟨E1, v0, gh1, rfl, hv, _⟩ := h.1
  exact vr_bool.1 hv
end Go.Proofs.YtpfknjpiknpiaaaGreatDoor

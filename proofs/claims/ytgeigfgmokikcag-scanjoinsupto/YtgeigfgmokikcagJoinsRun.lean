/-
  ScanJoins on every schedule: true, of as many pages as come with it.
-/
import Derived.Test.YtgeigfgmokikcagTw4
import Derived.Test.YtgeigfgmokikcagQNJoins
namespace Go.Proofs.Ytgeigfgmokikcag
open Go Go.Conc Go.RowKit

theorem joins_calls (pa pb : Option Addr) (la ca lb cb : Nat) (c : Int) (w : World) (hc : -9223372036854775808 ≤ c ∧ c ≤ 9223372036854775807) (hna : pa = none → ca = 0) (hnb : pb = none → cb = 0) (hM : Met w pa la) (hN : Met w pb lb) (hl : la + lb ≤ 1048576) (t : Nat → Question → Nat) (d : Nat) :
    Calls (YtgeigfgmokikcagQ.Al.progOf Try.prog) 6 #[.slice pa la ca, .slice pb lb cb, .int .i64 c] (wOn w t d) (fun e _ => ∃ v, e = .returned v ∧ v = .bool true) := by
  obtain ⟨A, hA, hAL⟩ := hM.list
  obtain ⟨B, hB, hBL⟩ := hN.list
  subst hA hB
  exact (YtgeigfgmokikcagQ.joins_any pa pb ca cb A B c (wOn w t d) hc (pgs_on hAL t d) (pgs_on hBL t d) hna hnb hl).mono fun e w' h => ⟨_, h.1, rfl⟩

theorem gpa_nilJ {W : World} {n0 : Nat} {pa : Option Addr} {cap : Nat} {A : Nat → Option Addr} {l c : Nat → Nat} (h : PsIn W pa cap A l c) (e : gpa n0 pa cap = none) : cap = 0 := by
  by_cases hc : cap = 0
  · exact hc
  · obtain ⟨b, o, e1, _⟩ := h.cell 0 (by omega)
    unfold gpa at e
    rw [if_neg hc, e1] at e
    cases e

theorem joins_run {W : World} {pa pb : Option Addr} {la ca lb cb : Nat} {A B : Nat → Option Addr} {l c l' c' : Nat → Nat} {d : Int} (hs : W.ShapedOpen Try.prog) (hle : la ≤ ca) (hP : PsIn W pa ca A l c) (hle' : lb ≤ cb) (hP' : PsIn W pb cb B l' c') (hl : la + lb ≤ 1048576) (hd : -9223372036854775808 ≤ d ∧ d ≤ 9223372036854775807) :
    ∃ N last o w' t', runNT Try.prog (N + 1) (solo (G (Frame.enter Try.prog 6 #[.slice pa la ca, .slice pb lb cb, .int .i64 d] .normal) []) W) #[] = (.ended o w', t') ∧ runN Try.prog N (solo (G (Frame.enter Try.prog 6 #[.slice pa la ca, .slice pb lb cb, .int .i64 d] .normal) []) W) = .next last ∧ step Try.prog last = .ended o w' ∧
      Go.Conc.Good Try.prog (fun v w' => v = .bool true ∧ Below W.heap.size W w') last o w' t' := by
  obtain ⟨C1, hC1⟩ : ∃ C, C = pgsCp W (W.heap.size + 0) pa ca A l c := ⟨_, rfl⟩
  obtain ⟨C2, hC2⟩ : ∃ C, C = pgsCp W (W.heap.size + C1.length) pb cb B l' c' := ⟨_, rfl⟩
  obtain ⟨C, hC⟩ : ∃ C, C = C1 ++ C2 := ⟨_, rfl⟩
  have hPl : PlA C (pgsCp W (W.heap.size + 0) pa ca A l c) 0 := fun k hk => by
    rw [← hC1] at hk ⊢
    rw [hC, Nat.zero_add, List.getElem?_append_left hk]
  have hPl' : PlA C (pgsCp W (W.heap.size + C1.length) pb cb B l' c') C1.length := fun k _ => by
    rw [← hC2, hC, List.getElem?_append_right (by omega), show C1.length + k - C1.length = k by omega]
  obtain ⟨hg, hG⟩ := shaped_low hs
  obtain ⟨fns, hfns⟩ : ∃ fns, fns = scanFx Try.prog.funcs (ghLo W C) (ghPt W C) (ghPl W C) := ⟨_, rfl⟩
  have hlo : fns.lo = ghLo W C := by rw [hfns]; rfl
  have hpt : fns.pt = ghPt W C := by rw [hfns]; rfl
  have hwr : WR (YtgeigfgmokikcagQ.Al.progOf Try.prog) fns (ghE W C) (ghZ W C) (ghW W C) W := gh_wr W C hlo hpt hg fun k d hd => by
    have hm : d ∈ C1 ++ C2 := by rw [← hC]; exact List.mem_of_getElem? hd
    rcases List.mem_append.1 hm with hm | hm
    · exact cps_ok hlo hPl hP hG (by rw [← hC1]; exact hm)
    · exact cps_ok hlo hPl' hP' hG (by rw [← hC2]; exact hm)
  have hargs : AllR fns (ghE W C) #[.slice (gpa (W.heap.size + 0) pa ca) la ca, .slice (gpa (W.heap.size + C1.length) pb cb) lb cb, .int .i64 d] #[.slice pa la ca, .slice pb lb cb, .int .i64 d] := by
    refine ⟨rfl, fun i h _ => ?_⟩
    simp only [List.size_toArray, List.length_cons, List.length_nil] at h
    match i, h with
    | 0, _ => exact vr_pages hlo hPl hP hle
    | 1, _ => exact vr_pages hlo hPl' hP' hle'
    | 2, _ => exact vr_scalar rfl
  have hgs : ∀ g, fns.gl g = true → ghE W C g g ∧ fns.pt g = true := fun g hg => by rw [hfns] at hg; cases hg
  have hM := met_pages (len := la) hPl hP hle
  have hN := met_pages (len := lb) hPl' hP' hle'
  have hst0 := start_own hargs hgs hwr
  subst hfns
  obtain ⟨N, last, o, w', t', r1, r2, r3, r4⟩ := ghost_run (P := (YtgeigfgmokikcagQ.Al.progOf Try.prog)) (fns0 := (scanFx Try.prog.funcs (ghLo W C) (ghPt W C) (ghPl W C)).own (YtgeigfgmokikcagQ.Al.progOf Try.prog)) (Q := fun v _ => v = .bool true) (f := 6) (r := 6) (scan_zeros _ _ _ _) (scan_zeros' _ _ _) gdepth (scan_prog _ _ _) (scan_own _ _ _) (scan_jc _ _ _ _) (by kernel_rfl) YtgeigfgmokikcagQ.Al.func6 Try.results6 (by kernel_rfl) rfl rfl rfl hargs hwr hgs hst0 (fun t d' => joins_calls _ _ _ _ _ _ d _ hd (gpa_nilJ hP) (gpa_nilJ hP') hM hN hl t d')
  refine ⟨N, last, o, w', t', r1, r2, r3, r4.mono fun v h => ⟨?_, below_of ⟨h.2.1, fun b hb => h.2.2.1 b hb fun a x => ghE_z W C x, h.2.2.2⟩⟩⟩
  obtain ⟨E1, v0, gh1, rfl, hv, _⟩ := h.1
  exact vr_bool.1 hv
end Go.Proofs.Ytgeigfgmokikcag

/-
  ScanBlanks on every schedule: true.
-/
import Derived.Test.YtgeigfgmokikcahTw4
import Derived.Test.YtgeigfgmokikcahQNBlank
namespace Go.Proofs.Ytgeigfgmokikcah
open Go Go.Conc Go.RowKit

theorem blanks_calls (pa : Option Addr) (len cap : Nat) (a b c : Int) (w : World) (ha : -9223372036854775808 ≤ a ∧ a ≤ 9223372036854775807) (hb : -9223372036854775808 ≤ b ∧ b ≤ 9223372036854775807) (hc : -9223372036854775808 ≤ c ∧ c ≤ 9223372036854775807) (hle : len ≤ cap) (hnil : pa = none → cap = 0) (hM : Met w pa len) (t : Nat → Question → Nat) (d : Nat) :
    Calls (YtgeigfgmokikcahQ.Al.progOf Try.prog) 3 #[.slice pa len cap, .int .i64 a, .int .i64 b, .int .i64 c] (wOn w t d) (fun e _ => ∃ v, e = .returned v ∧ v = .bool true) := by
  by_cases hl : len ≤ 4096
  · obtain ⟨L, hLl, hL⟩ := hM.list
    subst hLl
    by_cases h4 : L.length = 4096
    · exact (YtgeigfgmokikcahQ.blanks_full pa cap L a b c (wOn w t d) hc h4 (pgs_on hL t d)).mono fun e w' h => ⟨_, h.1, rfl⟩
    · exact (YtgeigfgmokikcahQ.blanks_any pa cap L a b c (wOn w t d) ha hb hc (by omega) (pgs_on hL t d) hle hnil).mono fun e w' h => ⟨_, h.1, rfl⟩
  · exact (YtgeigfgmokikcahQ.blanks_big pa cap len a b c (wOn w t d) hc (by omega)).mono fun e w' h => ⟨_, h.1, rfl⟩

theorem gpa_nil {W : World} {n0 : Nat} {pa : Option Addr} {cap : Nat} {A : Nat → Option Addr} {l c : Nat → Nat} (h : PsIn W pa cap A l c) (e : gpa n0 pa cap = none) : cap = 0 := by
  by_cases hc : cap = 0
  · exact hc
  · obtain ⟨b, o, e1, _⟩ := h.cell 0 (by omega)
    unfold gpa at e
    rw [if_neg hc, e1] at e
    cases e

theorem blanks_run {W : World} {pa : Option Addr} {len cap : Nat} {A : Nat → Option Addr} {l c : Nat → Nat} {a b d : Int} (hs : W.ShapedOpen Try.prog) (hle : len ≤ cap) (hP : PsIn W pa cap A l c) (ha : -9223372036854775808 ≤ a ∧ a ≤ 9223372036854775807) (hb : -9223372036854775808 ≤ b ∧ b ≤ 9223372036854775807) (hd : -9223372036854775808 ≤ d ∧ d ≤ 9223372036854775807) :
    ∃ N last o w' t', runNT Try.prog (N + 1) (solo (G (Frame.enter Try.prog 3 #[.slice pa len cap, .int .i64 a, .int .i64 b, .int .i64 d] .normal) []) W) #[] = (.ended o w', t') ∧ runN Try.prog N (solo (G (Frame.enter Try.prog 3 #[.slice pa len cap, .int .i64 a, .int .i64 b, .int .i64 d] .normal) []) W) = .next last ∧ step Try.prog last = .ended o w' ∧
      Go.Conc.Good Try.prog (fun v w' => v = .bool true ∧ Below W.heap.size W w') last o w' t' := by
  obtain ⟨C, hC⟩ : ∃ C, C = pgsCp W (W.heap.size + 0) pa cap A l c := ⟨_, rfl⟩
  have hPl : PlA C (pgsCp W (W.heap.size + 0) pa cap A l c) 0 := fun k _ => by rw [hC, Nat.zero_add]
  obtain ⟨hg, hG⟩ := shaped_low hs
  obtain ⟨fns, hfns⟩ : ∃ fns, fns = scanFx Try.prog.funcs (ghLo W C) (ghPt W C) (ghPl W C) := ⟨_, rfl⟩
  have hlo : fns.lo = ghLo W C := by rw [hfns]; rfl
  have hpt : fns.pt = ghPt W C := by rw [hfns]; rfl
  have hwr : WR (YtgeigfgmokikcahQ.Al.progOf Try.prog) fns (ghE W C) (ghZ W C) (ghW W C) W := gh_wr W C hlo hpt hg fun k d hd => cps_ok hlo hPl hP hG (by rw [← hC]; exact List.mem_of_getElem? hd)
  have hargs : AllR fns (ghE W C) #[.slice (gpa (W.heap.size + 0) pa cap) len cap, .int .i64 a, .int .i64 b, .int .i64 d] #[.slice pa len cap, .int .i64 a, .int .i64 b, .int .i64 d] := by
    refine ⟨rfl, fun i h _ => ?_⟩
    simp only [List.size_toArray, List.length_cons, List.length_nil] at h
    match i, h with
    | 0, _ => exact vr_pages hlo hPl hP hle
    | 1, _ => exact vr_scalar rfl
    | 2, _ => exact vr_scalar rfl
    | 3, _ => exact vr_scalar rfl
  have hgs : ∀ g, fns.gl g = true → ghE W C g g ∧ fns.pt g = true := fun g hg => by rw [hfns] at hg; cases hg
  have hM := met_pages (len := len) hPl hP hle
  have hst0 := start_own hargs hgs hwr
  subst hfns
  obtain ⟨N, last, o, w', t', r1, r2, r3, r4⟩ := ghost_run (P := (YtgeigfgmokikcahQ.Al.progOf Try.prog)) (fns0 := (scanFx Try.prog.funcs (ghLo W C) (ghPt W C) (ghPl W C)).own (YtgeigfgmokikcahQ.Al.progOf Try.prog)) (Q := fun v _ => v = .bool true) (f := 3) (r := 8) (scan_zeros _ _ _ _) (scan_zeros' _ _ _) gdepth (scan_prog _ _ _) (scan_own _ _ _) (scan_jc _ _ _ _) (by kernel_rfl) YtgeigfgmokikcahQ.Al.func3 Try.results3 (by kernel_rfl) rfl rfl rfl hargs hwr hgs hst0 (fun t d' => blanks_calls _ _ _ a b d _ ha hb hd hle (gpa_nil hP) hM t d')
  refine ⟨N, last, o, w', t', r1, r2, r3, r4.mono fun v h => ⟨?_, below_of ⟨h.2.1, fun b hb => h.2.2.1 b hb fun a x => ghE_z W C x, h.2.2.2⟩⟩⟩
  obtain ⟨E1, v0, gh1, rfl, hv, _⟩ := h.1
  exact vr_bool.1 hv
end Go.Proofs.Ytgeigfgmokikcah

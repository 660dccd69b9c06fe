/-
  ScanSays on every schedule: true.
-/
import Derived.Test.YtdkafcgangcgbagGreatDoorTw4
import Derived.Test.YtdkafcgangcgbagGreatDoorTw5
import Derived.Test.YtdkafcgangcgbagGreatDoorTw6
import Derived.Test.YtdkafcgangcgbagGreatDoorQNSays
namespace Go.Proofs.YtdkafcgangcgbagGreatDoor
open Go Go.Conc Go.RowKit

theorem scan_jcT (lo : Nat → Nat) (pt : Nat → Bool) (pl : ∀ a, pt a = true → lo a = 0) (Z : Nat → Prop) {o0 : Option Obj} (hO : ETy o0) (f : FuncId) (h : (scanFx Tryz.prog.funcs lo pt pl).jf f = true) : JC (YtdkafcgangcgbagGreatDoorQ.Al.progOf Tryz.prog) (scanFx Tryz.prog.funcs lo pt pl) Z 0 o0 f := by
  have hf : f = 11 ∨ f = 18 := by simpa [scanFx] using h
  rcases hf with rfl | rfl
  · exact scan_look lo pt pl Z _ o0
  · exact told_jc hO rfl (scan_re lo pt pl) (scan_zeros' lo pt pl) (scan_own lo pt pl) rfl
theorem ety_of {W : World} (h : W.cell? ⟨0, 0, none⟩ = some (.iface 142 (.agg #[.pointer (some ⟨1, 25, none⟩)]))) : ETy W.heap[(0 : Nat)]? := by
  unfold World.cell? at h
  cases hh : W.heap[(0 : Nat)]? with
  | none => simp only [hh] at h; cases h
  | some o =>
    simp only [hh] at h
    cases o with
    | cells cs T fr => exact ⟨cs, T, fr, rfl, h⟩
    | _ => cases h
theorem says_calls (pa : Option Addr) (len cap : Nat) (n : Int) (w : World) (hM : Met w pa len) (t : Nat → Question → Nat) (d : Nat) :
    Calls (YtdkafcgangcgbagGreatDoorQ.Al.progOf Tryz.prog) 3 #[.slice pa len cap, .int .i64 n] (wOn w t d) (fun e _ => ∃ v, e = .returned v ∧ v = .bool true) := by
  by_cases h1 : n < 1
  · exact (YtdkafcgangcgbagGreatDoorQ.says_bad pa len cap n 1 (wOn w t d) rfl (fun W => YtdkafcgangcgbagGreatDoorQ.lookq_range pa len cap n W (.inl h1)) (fun W => YtdkafcgangcgbagGreatDoorQ.fault_low pa len cap n W h1)).mono fun e w' h => ⟨_, h.1, rfl⟩
  by_cases h8 : n > 8
  · exact (YtdkafcgangcgbagGreatDoorQ.says_bad pa len cap n 1 (wOn w t d) rfl (fun W => YtdkafcgangcgbagGreatDoorQ.lookq_range pa len cap n W (.inr h8)) (fun W => YtdkafcgangcgbagGreatDoorQ.fault_high pa len cap n W h1 h8)).mono fun e w' h => ⟨_, h.1, rfl⟩
  by_cases hl : len ≤ 4096
  · obtain ⟨L, hLl, hL⟩ := hM.list
    subst hLl
    exact (YtdkafcgangcgbagGreatDoorQ.says_good pa cap L n (wOn w t d) h1 h8 hl (pgs_on hL t d)).mono fun e w' h => ⟨_, h.1, rfl⟩
  · exact (YtdkafcgangcgbagGreatDoorQ.says_bad pa len cap n 3 (wOn w t d) rfl (fun W => YtdkafcgangcgbagGreatDoorQ.lookq_full pa len cap n W h1 h8 (by omega)) (fun W => YtdkafcgangcgbagGreatDoorQ.fault_more pa len cap n W h1 h8 (by omega))).mono fun e w' h => ⟨_, h.1, rfl⟩

theorem says_run {W : World} {pa : Option Addr} {len cap : Nat} {A : Nat → Option Addr} {l c : Nat → Nat} {n : Int} (hs : W.ShapedOpen Tryz.prog) (hE : W.cell? ⟨0, 0, none⟩ = some (.iface 142 (.agg #[.pointer (some ⟨1, 25, none⟩)]))) (hle : len ≤ cap) (hP : PsIn W pa cap A l c) :
    ∃ N last o w' t', runNT Tryz.prog (N + 1) (solo (G (Frame.enter Tryz.prog 3 #[.slice pa len cap, .int .i64 n] .normal) []) W) #[] = (.ended o w', t') ∧ runN Tryz.prog N (solo (G (Frame.enter Tryz.prog 3 #[.slice pa len cap, .int .i64 n] .normal) []) W) = .next last ∧ step Tryz.prog last = .ended o w' ∧
      Go.Conc.Good Tryz.prog (fun v w' => v = .bool true ∧ Below W.heap.size W w') last o w' t' := by
  obtain ⟨C, hC⟩ : ∃ C, C = pgsCp W (W.heap.size + 0) pa cap A l c := ⟨_, rfl⟩
  have hPl : PlA C (pgsCp W (W.heap.size + 0) pa cap A l c) 0 := fun k _ => by rw [hC, Nat.zero_add]
  obtain ⟨hg, hG⟩ := shaped_low1 hs hE
  obtain ⟨fns, hfns⟩ : ∃ fns, fns = scanFx Tryz.prog.funcs (ghLo W C) (ghPt W C) (ghPl W C) := ⟨_, rfl⟩
  have hlo : fns.lo = ghLo W C := by rw [hfns]; rfl
  have hpt : fns.pt = ghPt W C := by rw [hfns]; rfl
  have hcps : ∀ (k : Nat) (d : Cp), C[k]? = some d → CpOk W C fns (YtdkafcgangcgbagGreatDoorQ.Al.progOf Tryz.prog).globals.size d := fun k d hd => cps_ok hlo hPl hP hG (by rw [← hC]; exact List.mem_of_getElem? hd)
  have hwr : WR (YtdkafcgangcgbagGreatDoorQ.Al.progOf Tryz.prog) fns (ghE W C) (ghZ W C) (ghW W C) W := gh_wr W C hlo hpt hg hcps
  have hargs : AllR fns (ghE W C) #[.slice (gpa (W.heap.size + 0) pa cap) len cap, .int .i64 n] #[.slice pa len cap, .int .i64 n] := by
    refine ⟨rfl, fun i h _ => ?_⟩
    simp only [List.size_toArray, List.length_cons, List.length_nil] at h
    match i, h with
    | 0, _ => exact vr_pages hlo hPl hP hle
    | 1, _ => exact vr_scalar rfl
  have hgs : ∀ g, fns.gl g = true → ghE W C g g ∧ fns.pt g = true := fun g hg => by rw [hfns] at hg; cases hg
  have hM := met_pages (len := len) hPl hP hle
  have hst0 := start_own hargs hgs hwr
  have hk0 : K0 0 W.heap[(0 : Nat)]? (ghE W C) (fun _ => False) W := k0_start (Nat.lt_of_le_of_lt (Nat.zero_le _) hg) fun k d hd e => by have := (hcps k d hd _ e).1; omega
  subst hfns
  obtain ⟨N, last, o, w', t', r1, r2, r3, r4⟩ := ghost_run (P := (YtdkafcgangcgbagGreatDoorQ.Al.progOf Tryz.prog)) (fns0 := (scanFx Tryz.prog.funcs (ghLo W C) (ghPt W C) (ghPl W C)).own (YtdkafcgangcgbagGreatDoorQ.Al.progOf Tryz.prog)) (Q := fun v _ => v = .bool true) (f := 3) (r := 4) (scan_zeros _ _ _ _) (scan_zeros' _ _ _) gdepth (scan_prog _ _ _) (scan_own _ _ _) (scan_jcT _ _ _ _ (ety_of hE)) (by kernel_rfl) YtdkafcgangcgbagGreatDoorQ.Al.func3 Tryz.results3 (by kernel_rfl) rfl rfl rfl hargs hwr hgs hst0 hk0 (fun t d => says_calls _ _ _ n _ hM t d)
  refine ⟨N, last, o, w', t', r1, r2, r3, r4.mono fun v h => ⟨?_, below_of ⟨h.2.1, fun b hb => h.2.2.1 b hb fun a x => ghE_z W C x, h.2.2.2⟩⟩⟩
  obtain ⟨E1, v0, gh1, rfl, hv, _⟩ := h.1
  exact vr_bool.1 hv
end Go.Proofs.YtdkafcgangcgbagGreatDoor

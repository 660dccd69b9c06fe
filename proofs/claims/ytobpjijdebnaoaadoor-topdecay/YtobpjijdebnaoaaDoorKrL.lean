/- Part of the proof. -/
import Derived.Test.YtobpjijdebnaoaaDoorKrK
namespace Go.Proofs.YtobpjijdebnaoaaDoor
open Go Go.Conc
open Go.ConcN (WgLive)
open Go.ConcR (KK wgBlock WgAt stA smA rd wr)
def wc (P : Program) (Wg : Nat) (c : Frame) (cs : List Frame) (t : Nat → Value) (v : Nat) : Goroutine := nxN P true 48 (wh1 P Wg c cs t ((v : Int) * 4294967296))
theorem pur_wc (Wg : Nat) (c : Frame) (cs : List Frame) (t : Nat → Value) (v : Nat) (h1 : 1 ≤ v) (h8 : v ≤ 8) : Pur Tryd.prog true 48 (wh1 Tryd.prog Wg c cs t ((v : Int) * 4294967296)) := by
  rcases (by omega : v = 1 ∨ v = 2 ∨ v = 3 ∨ v = 4 ∨ v = 5 ∨ v = 6 ∨ v = 7 ∨ v = 8) with rfl | rfl | rfl | rfl | rfl | rfl | rfl | rfl
  all_goals
    iterate 48 (refine Pur.step (by kernel_rfl) (fun w => by kernel_rfl) ?_)
    exact Pur.nil
theorem run_wc (Wg : Nat) (c : Frame) (cs : List Frame) (t : Nat → Value) (v : Nat) (h1 : 1 ≤ v) (h8 : v ≤ 8) : (wc Tryd.prog Wg c cs t v).status = .running := by
  rcases (by omega : v = 1 ∨ v = 2 ∨ v = 3 ∨ v = 4 ∨ v = 5 ∨ v = 6 ∨ v = 7 ∨ v = 8) with rfl | rfl | rfl | rfl | rfl | rfl | rfl | rfl
  all_goals kernel_rfl
theorem ask_hit (Wg : Nat) (c : Frame) (cs : List Frame) (t : Nat → Value) (v : Nat) (h1 : 1 ≤ v) (h8 : v ≤ 8) : Asks Tryd.prog true (wc Tryd.prog Wg c cs t v) [{ sh := some (88, 2) }, { b := false }, { v := .int .u64 ((v : Int) * 4294967296) }] (.value (.bool true))
    [{ k := 5, m := .extern 81 }, { k := 2, ad := ⟨Wg, 0, none⟩, sh := some (88, 2) }, { k := 3, ad := stA Wg, b := false }, { k := 0, ad := stA Wg, v := .int .u64 ((v : Int) * 4294967296), sy := true }, { k := 1, ad := stA Wg, v := .int .u64 ((v : Int) * 4294967296 + 1), sy := true }]
    #[rd (stA Wg), wr (stA Wg)] := by
  rcases (by omega : v = 1 ∨ v = 2 ∨ v = 3 ∨ v = 4 ∨ v = 5 ∨ v = 6 ∨ v = 7 ∨ v = 8) with rfl | rfl | rfl | rfl | rfl | rfl | rfl | rfl
  all_goals exact ⟨by kernel_rfl, by kernel_rfl, fun w => by kernel_rfl, by kernel_rfl, by kernel_rfl, by kernel_rfl, by kernel_rfl⟩
/-! #### it waits -/
def wp1 (P : Program) (Wg : Nat) (c : Frame) (cs : List Frame) (t : Nat → Value) (v : Nat) : Goroutine := nxN P true 19 (go1 P (wc P Wg c cs t v) (.value (.bool true)))
def wp2 (P : Program) (Wg : Nat) (c : Frame) (cs : List Frame) (t : Nat → Value) (v : Nat) : Goroutine := go1 P (wp1 P Wg c cs t v) (.value (.pointer (some (smA Wg))))
def wp3 (P : Program) (Wg : Nat) (c : Frame) (cs : List Frame) (t : Nat → Value) (v : Nat) : Goroutine := nxN P true 23 (nx P true (wp2 P Wg c cs t v))
def wp4 (P : Program) (Wg : Nat) (c : Frame) (cs : List Frame) (t : Nat → Value) (v : Nat) : Goroutine := nxN P true 16 (go1 P (wp3 P Wg c cs t v) (.value (.tuple #[])))
def wp5 (P : Program) (Wg : Nat) (c : Frame) (cs : List Frame) (t : Nat → Value) (v : Nat) : Goroutine := nxN P true 11 (go1 P (wp4 P Wg c cs t v) (.value (.int .u64 0)))
def wp6 (P : Program) (Wg : Nat) (c : Frame) (cs : List Frame) (t : Nat → Value) (v : Nat) : Goroutine := nxN P true 3 (nx P true (wp5 P Wg c cs t v))
def wp7 (P : Program) (Wg : Nat) (c : Frame) (cs : List Frame) (t : Nat → Value) (v : Nat) : Goroutine := go1 P (wp6 P Wg c cs t v) (.value (ptr Wg))
theorem pur_wp1 (Wg : Nat) (c : Frame) (cs : List Frame) (t : Nat → Value) (v : Nat) (h1 : 1 ≤ v) (h8 : v ≤ 8) : Pur Tryd.prog true 19 (go1 Tryd.prog (wc Tryd.prog Wg c cs t v) (.value (.bool true))) := by
  rcases (by omega : v = 1 ∨ v = 2 ∨ v = 3 ∨ v = 4 ∨ v = 5 ∨ v = 6 ∨ v = 7 ∨ v = 8) with rfl | rfl | rfl | rfl | rfl | rfl | rfl | rfl
  all_goals
    iterate 19 (refine Pur.step (by kernel_rfl) (fun w => by kernel_rfl) ?_)
    exact Pur.nil
theorem ask_wp1 (Wg : Nat) (c : Frame) (cs : List Frame) (t : Nat → Value) (v : Nat) (h1 : 1 ≤ v) (h8 : v ≤ 8) : Asks Tryd.prog true (wp1 Tryd.prog Wg c cs t v) [{ sh := some (88, 2) }, { sh := some (88, 2) }] (.value (.pointer (some (smA Wg)))) [{ k := 2, ad := ⟨Wg, 0, none⟩, sh := some (88, 2) }, { k := 2, ad := ⟨Wg, 0, none⟩, sh := some (88, 2) }] #[] := by
  rcases (by omega : v = 1 ∨ v = 2 ∨ v = 3 ∨ v = 4 ∨ v = 5 ∨ v = 6 ∨ v = 7 ∨ v = 8) with rfl | rfl | rfl | rfl | rfl | rfl | rfl | rfl
  all_goals exact ⟨by kernel_rfl, by kernel_rfl, fun w => by kernel_rfl, by kernel_rfl, by kernel_rfl, by kernel_rfl, by kernel_rfl⟩
theorem run_wp2 (Wg : Nat) (c : Frame) (cs : List Frame) (t : Nat → Value) (v : Nat) (h1 : 1 ≤ v) (h8 : v ≤ 8) : (wp2 Tryd.prog Wg c cs t v).status = .running := by
  rcases (by omega : v = 1 ∨ v = 2 ∨ v = 3 ∨ v = 4 ∨ v = 5 ∨ v = 6 ∨ v = 7 ∨ v = 8) with rfl | rfl | rfl | rfl | rfl | rfl | rfl | rfl
  all_goals kernel_rfl
theorem mark_wp2 (Wg : Nat) (c : Frame) (cs : List Frame) (t : Nat → Value) (v : Nat) (h1 : 1 ≤ v) (h8 : v ≤ 8) (w : World) : stepG Tryd.prog true (wp2 Tryd.prog Wg c cs t v) w = .go (nx Tryd.prog true (wp2 Tryd.prog Wg c cs t v)) w #[ConcR.mk (.write (smA Wg))] := by
  rcases (by omega : v = 1 ∨ v = 2 ∨ v = 3 ∨ v = 4 ∨ v = 5 ∨ v = 6 ∨ v = 7 ∨ v = 8) with rfl | rfl | rfl | rfl | rfl | rfl | rfl | rfl
  all_goals kernel_rfl
theorem pur_wp3 (Wg : Nat) (c : Frame) (cs : List Frame) (t : Nat → Value) (v : Nat) (h1 : 1 ≤ v) (h8 : v ≤ 8) : Pur Tryd.prog true 23 (nx Tryd.prog true (wp2 Tryd.prog Wg c cs t v)) := by
  rcases (by omega : v = 1 ∨ v = 2 ∨ v = 3 ∨ v = 4 ∨ v = 5 ∨ v = 6 ∨ v = 7 ∨ v = 8) with rfl | rfl | rfl | rfl | rfl | rfl | rfl | rfl
  all_goals
    iterate 23 (refine Pur.step (by kernel_rfl) (fun w => by kernel_rfl) ?_)
    exact Pur.nil
theorem run_wp3 (Wg : Nat) (c : Frame) (cs : List Frame) (t : Nat → Value) (v : Nat) (h1 : 1 ≤ v) (h8 : v ≤ 8) : (wp3 Tryd.prog Wg c cs t v).status = .running := by
  rcases (by omega : v = 1 ∨ v = 2 ∨ v = 3 ∨ v = 4 ∨ v = 5 ∨ v = 6 ∨ v = 7 ∨ v = 8) with rfl | rfl | rfl | rfl | rfl | rfl | rfl | rfl
  all_goals kernel_rfl
theorem off_wp3 (Wg : Nat) (c : Frame) (cs : List Frame) (t : Nat → Value) (v : Nat) (h1 : 1 ≤ v) (h8 : v ≤ 8) : (wp3 Tryd.prog Wg c cs t v).offers = none := by
  rcases (by omega : v = 1 ∨ v = 2 ∨ v = 3 ∨ v = 4 ∨ v = 5 ∨ v = 6 ∨ v = 7 ∨ v = 8) with rfl | rfl | rfl | rfl | rfl | rfl | rfl | rfl
  all_goals kernel_rfl
theorem ask_wp3 (Wg : Nat) (c : Frame) (cs : List Frame) (t : Nat → Value) (v : Nat) (h1 : 1 ≤ v) (h8 : v ≤ 8) : Asks Tryd.prog true (wp3 Tryd.prog Wg c cs t v) [{ v := .int .u32 1 }] (.value (.tuple #[]))
    [{ k := 5, m := .extern 65 }, { k := 5, m := .disable }, { k := 0, ad := smA Wg, v := .int .u32 1, sy := true }, { k := 1, ad := smA Wg, v := .int .u32 0, sy := true }, { k := 5, m := .enable }] (semEvents (smA Wg)) := by
  rcases (by omega : v = 1 ∨ v = 2 ∨ v = 3 ∨ v = 4 ∨ v = 5 ∨ v = 6 ∨ v = 7 ∨ v = 8) with rfl | rfl | rfl | rfl | rfl | rfl | rfl | rfl
  all_goals exact ⟨by kernel_rfl, by kernel_rfl, fun w => by kernel_rfl, by kernel_rfl, by kernel_rfl, by kernel_rfl, by kernel_rfl⟩
theorem blk_wp3 (Wg : Nat) (c : Frame) (cs : List Frame) (t : Nat → Value) (v : Nat) (h1 : 1 ≤ v) (h8 : v ≤ 8) : askB Tryd.prog (semOf (wp3 Tryd.prog Wg c cs t v)) [{ v := .int .u32 0 }] = some [{ k := 5, m := .extern 65 }, { k := 5, m := .disable }, { k := 0, ad := smA Wg, v := .int .u32 0, sy := true }] := by
  rcases (by omega : v = 1 ∨ v = 2 ∨ v = 3 ∨ v = 4 ∨ v = 5 ∨ v = 6 ∨ v = 7 ∨ v = 8) with rfl | rfl | rfl | rfl | rfl | rfl | rfl | rfl
  all_goals kernel_rfl
theorem pur_wp4 (Wg : Nat) (c : Frame) (cs : List Frame) (t : Nat → Value) (v : Nat) (h1 : 1 ≤ v) (h8 : v ≤ 8) : Pur Tryd.prog true 16 (go1 Tryd.prog (wp3 Tryd.prog Wg c cs t v) (.value (.tuple #[]))) := by
  rcases (by omega : v = 1 ∨ v = 2 ∨ v = 3 ∨ v = 4 ∨ v = 5 ∨ v = 6 ∨ v = 7 ∨ v = 8) with rfl | rfl | rfl | rfl | rfl | rfl | rfl | rfl
  all_goals
    iterate 16 (refine Pur.step (by kernel_rfl) (fun w => by kernel_rfl) ?_)
    exact Pur.nil
theorem ask_wp4 (Wg : Nat) (c : Frame) (cs : List Frame) (t : Nat → Value) (v : Nat) (h1 : 1 ≤ v) (h8 : v ≤ 8) : Asks Tryd.prog true (wp4 Tryd.prog Wg c cs t v) [{ v := .int .u64 0 }] (.value (.int .u64 0)) [{ k := 5, m := .extern 78 }, { k := 0, ad := stA Wg, v := .int .u64 0, sy := true }] #[rd (stA Wg)] := by
  rcases (by omega : v = 1 ∨ v = 2 ∨ v = 3 ∨ v = 4 ∨ v = 5 ∨ v = 6 ∨ v = 7 ∨ v = 8) with rfl | rfl | rfl | rfl | rfl | rfl | rfl | rfl
  all_goals exact ⟨by kernel_rfl, by kernel_rfl, fun w => by kernel_rfl, by kernel_rfl, by kernel_rfl, by kernel_rfl, by kernel_rfl⟩
theorem pur_wp5 (Wg : Nat) (c : Frame) (cs : List Frame) (t : Nat → Value) (v : Nat) (h1 : 1 ≤ v) (h8 : v ≤ 8) : Pur Tryd.prog true 11 (go1 Tryd.prog (wp4 Tryd.prog Wg c cs t v) (.value (.int .u64 0))) := by
  rcases (by omega : v = 1 ∨ v = 2 ∨ v = 3 ∨ v = 4 ∨ v = 5 ∨ v = 6 ∨ v = 7 ∨ v = 8) with rfl | rfl | rfl | rfl | rfl | rfl | rfl | rfl
  all_goals
    iterate 11 (refine Pur.step (by kernel_rfl) (fun w => by kernel_rfl) ?_)
    exact Pur.nil
theorem run_wp5 (Wg : Nat) (c : Frame) (cs : List Frame) (t : Nat → Value) (v : Nat) (h1 : 1 ≤ v) (h8 : v ≤ 8) : (wp5 Tryd.prog Wg c cs t v).status = .running := by
  rcases (by omega : v = 1 ∨ v = 2 ∨ v = 3 ∨ v = 4 ∨ v = 5 ∨ v = 6 ∨ v = 7 ∨ v = 8) with rfl | rfl | rfl | rfl | rfl | rfl | rfl | rfl
  all_goals kernel_rfl
theorem mark_wp5 (Wg : Nat) (c : Frame) (cs : List Frame) (t : Nat → Value) (v : Nat) (h1 : 1 ≤ v) (h8 : v ≤ 8) (w : World) : stepG Tryd.prog true (wp5 Tryd.prog Wg c cs t v) w = .go (nx Tryd.prog true (wp5 Tryd.prog Wg c cs t v)) w #[ConcR.mk .enable] := by
  rcases (by omega : v = 1 ∨ v = 2 ∨ v = 3 ∨ v = 4 ∨ v = 5 ∨ v = 6 ∨ v = 7 ∨ v = 8) with rfl | rfl | rfl | rfl | rfl | rfl | rfl | rfl
  all_goals kernel_rfl
theorem pur_wp6 (Wg : Nat) (c : Frame) (cs : List Frame) (t : Nat → Value) (v : Nat) (h1 : 1 ≤ v) (h8 : v ≤ 8) : Pur Tryd.prog true 3 (nx Tryd.prog true (wp5 Tryd.prog Wg c cs t v)) := by
  rcases (by omega : v = 1 ∨ v = 2 ∨ v = 3 ∨ v = 4 ∨ v = 5 ∨ v = 6 ∨ v = 7 ∨ v = 8) with rfl | rfl | rfl | rfl | rfl | rfl | rfl | rfl
  all_goals
    iterate 3 (refine Pur.step (by kernel_rfl) (fun w => by kernel_rfl) ?_)
    exact Pur.nil
theorem ask_wp6 (Wg : Nat) (c : Frame) (cs : List Frame) (t : Nat → Value) (v : Nat) (h1 : 1 ≤ v) (h8 : v ≤ 8) : Asks Tryd.prog true (wp6 Tryd.prog Wg c cs t v) [{ sh := some (88, 2) }, { sh := some (88, 2) }] (.value (ptr Wg)) [{ k := 2, ad := ⟨Wg, 0, none⟩, sh := some (88, 2) }, { k := 2, ad := ⟨Wg, 0, none⟩, sh := some (88, 2) }] #[] := by
  rcases (by omega : v = 1 ∨ v = 2 ∨ v = 3 ∨ v = 4 ∨ v = 5 ∨ v = 6 ∨ v = 7 ∨ v = 8) with rfl | rfl | rfl | rfl | rfl | rfl | rfl | rfl
  all_goals exact ⟨by kernel_rfl, by kernel_rfl, fun w => by kernel_rfl, by kernel_rfl, by kernel_rfl, by kernel_rfl, by kernel_rfl⟩
theorem run_wp7 (Wg : Nat) (c : Frame) (cs : List Frame) (t : Nat → Value) (v : Nat) (h1 : 1 ≤ v) (h8 : v ≤ 8) : (wp7 Tryd.prog Wg c cs t v).status = .running := by
  rcases (by omega : v = 1 ∨ v = 2 ∨ v = 3 ∨ v = 4 ∨ v = 5 ∨ v = 6 ∨ v = 7 ∨ v = 8) with rfl | rfl | rfl | rfl | rfl | rfl | rfl | rfl
  all_goals kernel_rfl
theorem mark_wp7 (Wg : Nat) (c : Frame) (cs : List Frame) (t : Nat → Value) (v : Nat) (h1 : 1 ≤ v) (h8 : v ≤ 8) (w : World) : stepG Tryd.prog true (wp7 Tryd.prog Wg c cs t v) w = .go (nx Tryd.prog true (wp7 Tryd.prog Wg c cs t v)) w #[ConcR.mk (.acquire (stA Wg))] := by
  rcases (by omega : v = 1 ∨ v = 2 ∨ v = 3 ∨ v = 4 ∨ v = 5 ∨ v = 6 ∨ v = 7 ∨ v = 8) with rfl | rfl | rfl | rfl | rfl | rfl | rfl | rfl
  all_goals kernel_rfl
theorem pur_wp7 (Wg : Nat) (c : Frame) (cs : List Frame) (t : Nat → Value) (v : Nat) (h1 : 1 ≤ v) (h8 : v ≤ 8) : Pur Tryd.prog true 10 (nx Tryd.prog true (wp7 Tryd.prog Wg c cs t v)) := by
  rcases (by omega : v = 1 ∨ v = 2 ∨ v = 3 ∨ v = 4 ∨ v = 5 ∨ v = 6 ∨ v = 7 ∨ v = 8) with rfl | rfl | rfl | rfl | rfl | rfl | rfl | rfl
  all_goals
    iterate 10 (refine Pur.step (by kernel_rfl) (fun w => by kernel_rfl) ?_)
    exact Pur.nil
theorem end_wp7 (Wg : Nat) (c : Frame) (cs : List Frame) (t : Nat → Value) (v : Nat) (h1 : 1 ≤ v) (h8 : v ≤ 8) : nxN Tryd.prog true 10 (nx Tryd.prog true (wp7 Tryd.prog Wg c cs t v)) = G (c.finish (.tuple #[])) cs := by
  rcases (by omega : v = 1 ∨ v = 2 ∨ v = 3 ∨ v = 4 ∨ v = 5 ∨ v = 6 ∨ v = 7 ∨ v = 8) with rfl | rfl | rfl | rfl | rfl | rfl | rfl | rfl
  all_goals kernel_rfl
/-! #### somebody was quicker -/
def wm (P : Program) (Wg : Nat) (c : Frame) (cs : List Frame) (t : Nat → Value) (v : Nat) : Goroutine := go1 P (wc P Wg c cs t v) (.value (.bool false))
theorem ask_miss (Wg : Nat) (c : Frame) (cs : List Frame) (t : Nat → Value) (v : Nat) (h1 : 1 ≤ v) (h8 : v ≤ 8) (u : Nat) (hu : u ≤ 8) (hne : u ≠ v) : Asks Tryd.prog true (wc Tryd.prog Wg c cs t v) [{ sh := some (88, 2) }, { b := false }, { v := .int .u64 ((u : Int) * 4294967296) }] (.value (.bool false))
    [{ k := 5, m := .extern 81 }, { k := 2, ad := ⟨Wg, 0, none⟩, sh := some (88, 2) }, { k := 3, ad := stA Wg, b := false }, { k := 0, ad := stA Wg, v := .int .u64 ((u : Int) * 4294967296), sy := true }]
    #[rd (stA Wg)] := by
  rcases (by omega : v = 1 ∨ v = 2 ∨ v = 3 ∨ v = 4 ∨ v = 5 ∨ v = 6 ∨ v = 7 ∨ v = 8) with rfl | rfl | rfl | rfl | rfl | rfl | rfl | rfl
  all_goals
    rcases (by omega : u = 0 ∨ u = 1 ∨ u = 2 ∨ u = 3 ∨ u = 4 ∨ u = 5 ∨ u = 6 ∨ u = 7 ∨ u = 8) with rfl | rfl | rfl | rfl | rfl | rfl | rfl | rfl | rfl
    all_goals first
      | exact absurd rfl hne
      | exact ⟨by kernel_rfl, by kernel_rfl, fun w => by kernel_rfl, by kernel_rfl, by kernel_rfl, by kernel_rfl, by kernel_rfl⟩
theorem pur_wm (Wg : Nat) (c : Frame) (cs : List Frame) (t : Nat → Value) (v : Nat) (h1 : 1 ≤ v) (h8 : v ≤ 8) : Pur Tryd.prog true 9 (wm Tryd.prog Wg c cs t v) := by
  rcases (by omega : v = 1 ∨ v = 2 ∨ v = 3 ∨ v = 4 ∨ v = 5 ∨ v = 6 ∨ v = 7 ∨ v = 8) with rfl | rfl | rfl | rfl | rfl | rfl | rfl | rfl
  all_goals
    iterate 9 (refine Pur.step (by kernel_rfl) (fun w => by kernel_rfl) ?_)
    exact Pur.nil
theorem wm_head (Wg : Nat) (c : Frame) (cs : List Frame) (t : Nat → Value) (v : Nat) (h1 : 1 ≤ v) (h8 : v ≤ 8) : nxN Tryd.prog true 9 (wm Tryd.prog Wg c cs t v) = wtHead Tryd.prog c cs (nxN Tryd.prog true 9 (wm Tryd.prog Wg c cs t v)).frame.tmps := by
  rcases (by omega : v = 1 ∨ v = 2 ∨ v = 3 ∨ v = 4 ∨ v = 5 ∨ v = 6 ∨ v = 7 ∨ v = 8) with rfl | rfl | rfl | rfl | rfl | rfl | rfl | rfl
  all_goals kernel_rfl
theorem wm_size (Wg : Nat) (c : Frame) (cs : List Frame) (t : Nat → Value) (v : Nat) (h1 : 1 ≤ v) (h8 : v ≤ 8) : (nxN Tryd.prog true 9 (wm Tryd.prog Wg c cs t v)).frame.tmps.size = 84 := by
  rcases (by omega : v = 1 ∨ v = 2 ∨ v = 3 ∨ v = 4 ∨ v = 5 ∨ v = 6 ∨ v = 7 ∨ v = 8) with rfl | rfl | rfl | rfl | rfl | rfl | rfl | rfl
  all_goals kernel_rfl
theorem wm_0 (Wg : Nat) (c : Frame) (cs : List Frame) (t : Nat → Value) (v : Nat) (h1 : 1 ≤ v) (h8 : v ≤ 8) : (nxN Tryd.prog true 9 (wm Tryd.prog Wg c cs t v)).frame.tmps[0]? = some (ptr Wg) := by
  rcases (by omega : v = 1 ∨ v = 2 ∨ v = 3 ∨ v = 4 ∨ v = 5 ∨ v = 6 ∨ v = 7 ∨ v = 8) with rfl | rfl | rfl | rfl | rfl | rfl | rfl | rfl
  all_goals kernel_rfl
end Go.Proofs.YtobpjijdebnaoaaDoor

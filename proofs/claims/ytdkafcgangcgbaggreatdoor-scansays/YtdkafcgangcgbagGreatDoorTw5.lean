/-
  plain.Told at an api.Errno beside goroutines that only leave: it gives the number; five new blocks, nothing else is turned.
-/
import Derived.Test.YtdkafcgangcgbagGreatDoorTwO
import Derived.Test.YtdkafcgangcgbagGreatDoorKr5
import Derived.Test.YtdkafcgangcgbagGreatDoorTw3
import Derived.Test.YtdkafcgangcgbagGreatDoorQ9
namespace Go.Proofs.YtdkafcgangcgbagGreatDoor
open Go Go.Conc

theorem setc_row {w : World} {g : Nat} {cur : Array Value} {t : TypeId} {f : Nat × Nat} (h : w.heap[g]? = some (.cells cur t f)) (o : Nat) (v : Value) : (w.setCell ⟨g, o, none⟩ v).heap[g]? = some (.cells (cur.setIfInBounds o v) t f) := by
  have := heap_setCell (a := ⟨g, o, none⟩) (v := v) h rfl g
  simpa using this
theorem setc_rest (w : World) (a : Addr) (v : Value) : (w.setCell a v).tape = w.tape ∧ (w.setCell a v).os = w.os ∧ (w.setCell a v).output = w.output := by
  unfold World.setCell
  exact ⟨rfl, rfl, rfl⟩
theorem row_cell1 {w : World} {g : Nat} {a : Value} {t : TypeId} {f : Nat × Nat} (h : w.heap[g]? = some (.cells #[a] t f)) : w.cell? ⟨g, 0, none⟩ = some a := by simp [World.cell?, h]
theorem row_cell3 {w : World} {g : Nat} {a b c : Value} {t : TypeId} {f : Nat × Nat} (h : w.heap[g]? = some (.cells #[a, b, c] t f)) : w.cell? ⟨g, 0, none⟩ = some a ∧ w.cell? ⟨g, 1, none⟩ = some b ∧ w.cell? ⟨g, 2, none⟩ = some c := by simp [World.cell?, h]
theorem row_thaw {w : World} {g o : Nat} {cs : Array Value} {t : TypeId} (h : w.heap[g]? = some (.cells cs t (0, 0))) : w.frozen? ⟨g, o, none⟩ = false := by simp [World.frozen?, h]
theorem push_new (w : World) (o : Obj) : ({ w with heap := w.heap.push o } : World).heap[w.heap.size]? = some o := by simp
theorem push_old (w : World) (o : Obj) {b : Nat} (h : b < w.heap.size) : ({ w with heap := w.heap.push o } : World).heap[b]? = w.heap[b]? := by
  show (w.heap.push o)[b]? = _
  rw [Array.getElem?_push]
  simp [Nat.ne_of_lt h]
/-- Three stores to a row of three. -/
theorem set3 {w : World} {g : Nat} {a b c x y z : Value} {t : TypeId} {f : Nat × Nat} (h : w.heap[g]? = some (.cells #[a, b, c] t f)) : (((w.setCell ⟨g, 0, none⟩ x).setCell ⟨g, 1, none⟩ y).setCell ⟨g, 2, none⟩ z).heap[g]? = some (.cells #[x, y, z] t f) := setc_row (setc_row (setc_row h 0 x) 1 y) 2 z
theorem evs3 {S : Nat → Prop} {B b : Nat} {wr : Bool} (hS : ¬ S b) (hb : b < B) : ∀ e ∈ (#[⟨.cell ⟨b, 0, none⟩, wr, false⟩, ⟨.cell ⟨b, 1, none⟩, wr, false⟩, ⟨.cell ⟨b, 2, none⟩, wr, false⟩] : Array Event), EvL (ShunB S) B e ∧ ∀ a, MemAct.ofEvent e ≠ .mark (.release a) := fun e he => by
  simp only [List.mem_toArray, List.mem_cons, List.not_mem_nil, or_false] at he
  rcases he with rfl | rfl | rfl <;> exact evl_cell hS hb
theorem evs1 {S : Nat → Prop} {B b : Nat} {wr : Bool} (hS : ¬ S b) (hb : b < B) : ∀ e ∈ (#[⟨.cell ⟨b, 0, none⟩, wr, false⟩] : Array Event), EvL (ShunB S) B e ∧ ∀ a, MemAct.ofEvent e ≠ .mark (.release a) := fun e he => by
  simp only [List.mem_toArray, List.mem_cons, List.not_mem_nil, or_false] at he
  rcases he with rfl
  exact evl_cell hS hb
/-- What stands of the world, and what is new. -/
structure Ton (w w' : World) : Prop where
  size : w'.heap.size = w.heap.size + 5
  old : ∀ b, b < w.heap.size → w'.heap[b]? = w.heap[b]?
  tape : w'.tape = w.tape
  os : w'.os = w.os
  output : w'.output = w.output
section
variable {S : Nat → Prop} {B0 : Nat} {w : World}
theorem told_bs (k : Int) (hE : w.cell? ⟨0, 0, none⟩ = some (.iface 142 (.agg #[.pointer (some ⟨1, 25, none⟩)]))) (hS : ∀ b, S b → b < w.heap.size) (hG : ¬ S 0) {c : Frame} {cs : List Frame} :
    ∃ w', Ton w w' ∧ Bs Tryz.prog S B0 (G (Frame.enter Tryz.prog 18 #[.iface 31 (.int .i64 k)] .normal) (c :: cs)) w (G (c.finish (.int .i64 k)) cs) w' := by
  have none_ : ∀ {B : Nat}, ∀ e ∈ (#[] : Array Event), EvL (ShunB S) B e ∧ ∀ a, MemAct.ofEvent e ≠ .mark (.release a) := fun e he => by simp at he
  obtain ⟨N, hN⟩ : ∃ N, N = w.heap.size := ⟨_, rfl⟩
  have hlt : 0 < N := by
    rw [hN]
    simp only [World.cell?] at hE
    rcases Nat.lt_or_ge 0 w.heap.size with h | h
    · exact h
    · rw [Array.getElem?_eq_none h] at hE
      cases hE
  have nS : ∀ b, N ≤ b → ¬ S b := fun b hb hs => by have := hS b hs; omega
  obtain ⟨wA, eA⟩ : ∃ x : World, x = { w with heap := w.heap.push (.cells #[.int .i64 0] 31) } := ⟨_, rfl⟩
  have sA : wA.heap.size = N + 1 := by rw [eA, hN]; simp
  obtain ⟨wB, eB⟩ : ∃ x : World, x = { wA with heap := wA.heap.push (.cells #[.pointer (some ⟨N, 0, none⟩)] 81) } := ⟨_, rfl⟩
  have sB : wB.heap.size = N + 2 := by rw [eB]; simp [sA]
  obtain ⟨wC, eC⟩ : ∃ x : World, x = { wB with heap := wB.heap.push (.cells #[.pointer none, .pointer none, .int .u64 0] 114) } := ⟨_, rfl⟩
  have sC : wC.heap.size = N + 3 := by rw [eC]; simp [sB]
  obtain ⟨wD, eD⟩ : ∃ x : World, x = ((wC.setCell ⟨N + 2, 0, none⟩ (.pointer (some ⟨1, 81, none⟩))).setCell ⟨N + 2, 1, none⟩ (.pointer (some ⟨N + 1, 0, none⟩))).setCell ⟨N + 2, 2, none⟩ (.int .u64 150) := ⟨_, rfl⟩
  have sD : wD.heap.size = N + 3 := by rw [eD, cell_size, cell_size, cell_size, sC]
  obtain ⟨wK, eK⟩ : ∃ x : World, x = { wD with heap := wD.heap.push (.cells #[.pointer (some ⟨1, 81, none⟩), .pointer (some ⟨N + 1, 0, none⟩), .int .u64 150] 114) } := ⟨_, rfl⟩
  have sK : wK.heap.size = N + 4 := by rw [eK]; simp [sD]
  obtain ⟨wN, eN⟩ : ∃ x : World, x = { wK with heap := wK.heap.push (.cells #[.int .i64 k] 31) } := ⟨_, rfl⟩
  have sN : wN.heap.size = N + 5 := by rw [eN]; simp [sK]
  obtain ⟨wO, eO⟩ : ∃ x : World, x = wN.setCell ⟨N, 0, none⟩ (.int .i64 k) := ⟨_, rfl⟩
  have sO : wO.heap.size = N + 5 := by rw [eO, cell_size, sN]
  have oA : ∀ b, b < N → wA.heap[b]? = w.heap[b]? := fun b hb => by rw [eA]; exact push_old w _ (by omega)
  have oB : ∀ b, b < N + 1 → wB.heap[b]? = wA.heap[b]? := fun b hb => by rw [eB]; exact push_old wA _ (by omega)
  have oC : ∀ b, b < N + 2 → wC.heap[b]? = wB.heap[b]? := fun b hb => by rw [eC]; exact push_old wB _ (by omega)
  have oD : ∀ b, b ≠ N + 2 → wD.heap[b]? = wC.heap[b]? := fun b hb => by rw [eD, cell_other _ _ _ hb, cell_other _ _ _ hb, cell_other _ _ _ hb]
  have oK : ∀ b, b < N + 3 → wK.heap[b]? = wD.heap[b]? := fun b hb => by rw [eK]; exact push_old wD _ (by omega)
  have oN : ∀ b, b < N + 4 → wN.heap[b]? = wK.heap[b]? := fun b hb => by rw [eN]; exact push_old wK _ (by omega)
  have oO : ∀ b, b ≠ N → wO.heap[b]? = wN.heap[b]? := fun b hb => by rw [eO, cell_other _ _ _ hb]
  have a0 : wA.heap[N]? = some (.cells #[.int .i64 0] 31) := by rw [eA, hN]; exact push_new w _
  have b1 : wB.heap[N + 1]? = some (.cells #[.pointer (some ⟨N, 0, none⟩)] 81) := by rw [eB, ← sA]; exact push_new wA _
  have c2 : wC.heap[N + 2]? = some (.cells #[.pointer none, .pointer none, .int .u64 0] 114) := by rw [eC, ← sB]; exact push_new wB _
  have d2 : wD.heap[N + 2]? = some (.cells #[.pointer (some ⟨1, 81, none⟩), .pointer (some ⟨N + 1, 0, none⟩), .int .u64 150] 114) := by rw [eD]; exact set3 c2
  have d1 : wD.heap[N + 1]? = some (.cells #[.pointer (some ⟨N, 0, none⟩)] 81) := by rw [oD _ (by omega), oC _ (by omega)]; exact b1
  have k3 : wK.heap[N + 3]? = some (.cells #[.pointer (some ⟨1, 81, none⟩), .pointer (some ⟨N + 1, 0, none⟩), .int .u64 150] 114) := by rw [eK, ← sD]; exact push_new wD _
  have k1 : wK.heap[N + 1]? = some (.cells #[.pointer (some ⟨N, 0, none⟩)] 81) := by rw [oK _ (by omega)]; exact d1
  have m4 : wN.heap[N + 4]? = some (.cells #[.int .i64 k] 31) := by rw [eN, ← sK]; exact push_new wK _
  have m0 : wN.heap[N]? = some (.cells #[.int .i64 0] 31) := by rw [oN _ (by omega), oK _ (by omega), oD _ (by omega), oC _ (by omega), oB _ (by omega)]; exact a0
  have p0 : wO.heap[N]? = some (.cells #[.int .i64 k] 31) := by rw [eO]; exact setc_row m0 0 _
  have gD : wD.cell? ⟨0, 0, none⟩ = some (.iface 142 (.agg #[.pointer (some ⟨1, 25, none⟩)])) := by
    have gb : wD.heap[0]? = w.heap[0]? := by rw [oD _ (by omega), oC _ (by omega), oB _ (by omega), oA _ (by omega)]
    have gc : wD.cell? ⟨0, 0, none⟩ = w.cell? ⟨0, 0, none⟩ := World.cell?_of_block gb
    rw [gc]
    exact hE
  have uA : wA.tape = w.tape ∧ wA.os = w.os ∧ wA.output = w.output := by rw [eA]; exact ⟨rfl, rfl, rfl⟩
  have uB : wB.tape = wA.tape ∧ wB.os = wA.os ∧ wB.output = wA.output := by rw [eB]; exact ⟨rfl, rfl, rfl⟩
  have uC : wC.tape = wB.tape ∧ wC.os = wB.os ∧ wC.output = wB.output := by rw [eC]; exact ⟨rfl, rfl, rfl⟩
  have uK : wK.tape = wD.tape ∧ wK.os = wD.os ∧ wK.output = wD.output := by rw [eK]; exact ⟨rfl, rfl, rfl⟩
  have uN : wN.tape = wK.tape ∧ wN.os = wK.os ∧ wN.output = wK.output := by rw [eN]; exact ⟨rfl, rfl, rfl⟩
  have uD : wD.tape = wC.tape ∧ wD.os = wC.os ∧ wD.output = wC.output := by
    rw [eD]
    exact ⟨((setc_rest _ _ _).1.trans (setc_rest _ _ _).1).trans (setc_rest _ _ _).1, ((setc_rest _ _ _).2.1.trans (setc_rest _ _ _).2.1).trans (setc_rest _ _ _).2.1, ((setc_rest _ _ _).2.2.trans (setc_rest _ _ _).2.2).trans (setc_rest _ _ _).2.2⟩
  have uO : wO.tape = wN.tape ∧ wO.os = wN.os ∧ wO.output = wN.output := by rw [eO]; exact setc_rest _ _ _
  obtain ⟨q0, q1, q2⟩ := row_cell3 d2
  obtain ⟨r0, r1, r2⟩ := row_cell3 k3
  refine ⟨wO, ⟨by rw [sO, hN], fun b hb => ?_, ?_, ?_, ?_⟩, ?_⟩
  · rw [← hN] at hb
    rw [oO _ (by omega), oN _ (by omega), oK _ (by omega), oD _ (by omega), oC _ (by omega), oB _ (by omega), oA _ (by omega)]
  · exact uO.1.trans (uN.1.trans (uK.1.trans (uD.1.trans (uC.1.trans (uB.1.trans uA.1)))))
  · exact uO.2.1.trans (uN.2.1.trans (uK.2.1.trans (uD.2.1.trans (uC.2.1.trans (uB.2.1.trans uA.2.1)))))
  · exact uO.2.2.trans (uN.2.2.trans (uK.2.2.trans (uD.2.2.trans (uC.2.2.trans (uB.2.2.trans uA.2.2)))))
  have xA : Bs Tryz.prog S B0 _ w _ wA := bs_ask (ask_tA k N (N + 1) (N + 2) (N + 3) (N + 4) (c :: cs)) (show OkQ _ _ _ from ⟨hN.symm, eA⟩) none_ (by omega)
  have xB : Bs Tryz.prog S B0 _ wA _ wB := bs_ask (ask_tB k N (N + 1) (N + 2) (N + 3) (N + 4) (c :: cs)) (show OkQ _ _ _ from ⟨sA, eB⟩) none_ (by omega)
  have xC : Bs Tryz.prog S B0 _ wB _ wC := bs_ask (ask_tC k N (N + 1) (N + 2) (N + 3) (N + 4) (c :: cs)) (show OkQ _ _ _ from ⟨sB, eC⟩) none_ (by omega)
  have xD : Bs Tryz.prog S B0 _ wC _ wD := bs_ask (ask_tD k N (N + 1) (N + 2) (N + 3) (N + 4) (c :: cs)) (show OkQ _ _ _ from ⟨by rw [(row_cell3 c2).1]; rfl, row_thaw c2, by rw [(row_cell3 (setc_row c2 0 _)).2.1]; rfl, row_thaw (setc_row c2 0 _), by rw [(row_cell3 (setc_row (setc_row c2 0 _) 1 _)).2.2]; rfl, row_thaw (setc_row (setc_row c2 0 _) 1 _), eD⟩) (evs3 (nS _ (by omega)) (by omega)) (by omega)
  have xF : Bs Tryz.prog S B0 _ wD _ wD := bs_ask (ask_tF k N (N + 1) (N + 2) (N + 3) (N + 4) (c :: cs)) (show OkQ _ _ _ from ⟨q0, q1, q2, rfl⟩) (evs3 (nS _ (by omega)) (by omega)) (Nat.le_refl _)
  have xG : Bs Tryz.prog S B0 _ wD _ wD := bs_ask (ask_tG k N (N + 1) (N + 2) (N + 3) (N + 4) (c :: cs)) (show OkQ _ _ _ from ⟨q0, q1, q2, rfl⟩) (evs3 (nS _ (by omega)) (by omega)) (Nat.le_refl _)
  have xH : Bs Tryz.prog S B0 _ wD _ wD := bs_ask (ask_tH k N (N + 1) (N + 2) (N + 3) (N + 4) (c :: cs)) (show OkQ _ _ _ from ⟨row_cell1 d1, rfl⟩) (evs1 (nS _ (by omega)) (by omega)) (Nat.le_refl _)
  have xI : Bs Tryz.prog S B0 _ wD _ wD := bs_ask (ask_tI k N (N + 1) (N + 2) (N + 3) (N + 4) (c :: cs)) (show OkQ _ _ _ from ⟨gD, rfl⟩) (evs1 hG (by omega)) (Nat.le_refl _)
  have xJ : Bs Tryz.prog S B0 _ wD _ wD := bs_ask (ask_tJ k N (N + 1) (N + 2) (N + 3) (N + 4) (c :: cs)) (show OkQ _ _ _ from ⟨q0, q1, q2, rfl⟩) (evs3 (nS _ (by omega)) (by omega)) (Nat.le_refl _)
  have xK : Bs Tryz.prog S B0 _ wD _ wK := bs_ask (ask_tK k N (N + 1) (N + 2) (N + 3) (N + 4) (c :: cs)) (show OkQ _ _ _ from ⟨sD, eK⟩) none_ (by omega)
  have xL : Bs Tryz.prog S B0 _ wK _ wK := bs_ask (ask_tL k N (N + 1) (N + 2) (N + 3) (N + 4) (c :: cs)) (show OkQ _ _ _ from ⟨r0, r1, r2, rfl⟩) (evs3 (nS _ (by omega)) (by omega)) (Nat.le_refl _)
  have xM : Bs Tryz.prog S B0 _ wK _ wK := bs_ask (ask_tM k N (N + 1) (N + 2) (N + 3) (N + 4) (c :: cs)) (show OkQ _ _ _ from ⟨row_cell1 k1, rfl⟩) (evs1 (nS _ (by omega)) (by omega)) (Nat.le_refl _)
  have xN : Bs Tryz.prog S B0 _ wK _ wN := bs_ask (ask_tN k N (N + 1) (N + 2) (N + 3) (N + 4) (c :: cs)) (show OkQ _ _ _ from ⟨sK, eN⟩) none_ (by omega)
  have xO : Bs Tryz.prog S B0 _ wN _ wO := bs_ask (ask_tO k N (N + 1) (N + 2) (N + 3) (N + 4) (c :: cs)) (show OkQ _ _ _ from ⟨row_cell1 m4, by rw [row_cell1 m0]; rfl, row_thaw m0, eO⟩) (fun e he => by
    simp only [List.mem_toArray, List.mem_cons, List.not_mem_nil, or_false] at he
    rcases he with rfl | rfl
    · exact evl_cell (nS _ (by omega)) (by omega)
    · exact evl_cell (nS _ (by omega)) (by omega)) (by omega)
  have xP : Bs Tryz.prog S B0 _ wO _ wO := bs_ask (ask_tP k N (N + 1) (N + 2) (N + 3) (N + 4) (c :: cs)) (show OkQ _ _ _ from ⟨row_cell1 p0, rfl⟩) (evs1 (nS _ (by omega)) (by omega)) (Nat.le_refl _)
  have yA := bs_pur (w := w) (S := S) (B0 := B0) 14 (pur_tA k N (N + 1) (N + 2) (N + 3) (N + 4) (c :: cs))
  have yB := bs_pur (w := wA) (S := S) (B0 := B0) 30 (pur_tB k N (N + 1) (N + 2) (N + 3) (N + 4) (c :: cs))
  have yF := bs_pur (w := wD) (S := S) (B0 := B0) 3 (pur_tF k N (N + 1) (N + 2) (N + 3) (N + 4) (c :: cs))
  have yG := bs_pur (w := wD) (S := S) (B0 := B0) 10 (pur_tG k N (N + 1) (N + 2) (N + 3) (N + 4) (c :: cs))
  have yI := bs_pur (w := wD) (S := S) (B0 := B0) 18 (pur_tI k N (N + 1) (N + 2) (N + 3) (N + 4) (c :: cs))
  have yJ := bs_pur (w := wD) (S := S) (B0 := B0) 10 (pur_tJ k N (N + 1) (N + 2) (N + 3) (N + 4) (c :: cs))
  have yK := bs_pur (w := wD) (S := S) (B0 := B0) 4 (pur_tK k N (N + 1) (N + 2) (N + 3) (N + 4) (c :: cs))
  have yL := bs_pur (w := wK) (S := S) (B0 := B0) 16 (pur_tL k N (N + 1) (N + 2) (N + 3) (N + 4) (c :: cs))
  have yN := bs_pur (w := wK) (S := S) (B0 := B0) 1 (pur_tN k N (N + 1) (N + 2) (N + 3) (N + 4) (c :: cs))
  have yP := bs_pur (w := wO) (S := S) (B0 := B0) 15 (pur_tP k N (N + 1) (N + 2) (N + 3) (N + 4) (c :: cs))
  have yR := bs_pur (w := wO) (S := S) (B0 := B0) 3 (pur_tR k N (N + 1) (N + 2) (N + 3) (N + 4) (c :: cs))
  have zR : Bs Tryz.prog S B0 (tR Tryz.prog k N (N + 1) (N + 2) (N + 3) (N + 4) (c :: cs)) wO (G (c.finish (.int .i64 k)) cs) wO := bs_back (run_tR _ _ _ _ _ _ _) (fun w => tR_back k N (N + 1) (N + 2) (N + 3) (N + 4) cs c w)
  exact yA.trans (xA.trans (yB.trans (xB.trans (xC.trans (xD.trans (yF.trans (xF.trans (yG.trans (xG.trans (xH.trans (yI.trans (xI.trans (yJ.trans (xJ.trans (yK.trans (xK.trans (yL.trans (xL.trans (xM.trans (yN.trans (xN.trans (xO.trans (yP.trans (xP.trans (yR.trans zR)))))))))))))))))))))))))
theorem told_nil_bs {c : Frame} {cs : List Frame} : Bs Tryz.prog S B0 (G (Frame.enter Tryz.prog 18 #[.nilIface] .normal) (c :: cs)) w (G (c.finish (.int .i64 0)) cs) w :=
  (bs_pur (w := w) (S := S) (B0 := B0) 16 (pur_tZ (c :: cs))).trans (bs_back (run_tZ _) (fun w => tZ_back cs c w))
end
end Go.Proofs.YtdkafcgangcgbagGreatDoor
/-
  plain.Told taken whole: the ghost's own alone, the project's in company: alike.
-/
namespace Go.Proofs.YtdkafcgangcgbagGreatDoor
open Go Go.Conc

abbrev toldFr : Frame := { fn := 18, tmps := #[], todo := [], defers := [], mode := .run, kind := .normal }
theorem told_enter (x : Value) : Frame.enter (YtdkafcgangcgbagGreatDoorQ.Al.progOf Tryz.prog) 18 #[x] .normal = toldFr.at ⟨#[x] ++ Array.replicate 6 undef, []⟩ [.code YtdkafcgangcgbagGreatDoorQ.Al.toldB] := by kernel_rfl
theorem told_params : ((YtdkafcgangcgbagGreatDoorQ.Al.progOf Tryz.prog).funcs[(18 : Nat)]?).map (·.params.size) = some 1 := by kernel_rfl
theorem one_arg {a : Array Value} (h : a.size = 1) : ∃ x, a = #[x] := by
  obtain ⟨l⟩ := a
  match l, h with
  | [x], _ => exact ⟨x, rfl⟩
theorem u_errno : ∃ dd, (YtdkafcgangcgbagGreatDoorQ.Al.progOf Tryz.prog).underlying 31 = some dd ∧ ∀ ms, dd ≠ .interface ms := ⟨.int .i64, by kernel_rfl, fun ms e => by cases e⟩
theorem z_errno (w : World) : (zeroValue 31).run (YtdkafcgangcgbagGreatDoorQ.Al.progOf Tryz.prog) w = .ok (.int .i64 0) w := by kernel_rfl
theorem eq_some (T : TypeId) (v : Value) (w : World) : (do eqGuard .eql 25 (.tmp 0) (.const .nilIface) (.iface T v) .nilIface; Go.binOp .eql 25 (.iface T v) .nilIface : Sem Value).run (YtdkafcgangcgbagGreatDoorQ.Al.progOf Tryz.prog) w = .ok (.bool false) w := by kernel_rfl

theorem RT.eqface {Fin : Goroutine → World → Prop} {b : Frame} {cs : List Frame} {a : Act} {ops : Array Oper} {i d : Nat} {rest : List Nat} {k : List Item} {w : World} {ty : TypeId} {ps : String} {af : Array Edge} {yt : TypeId} {T : TypeId} {v : Value} (h : RT (YtdkafcgangcgbagGreatDoorQ.Al.progOf Tryz.prog) Fin b cs a (.inRegion ops (i :: rest) :: k) w) (ho : ops[i]? = some ⟨some d, .binOp .eql 25 (.tmp 0) (.const .nilIface) yt, ty, ps, af, none⟩) (hx : a.eval (.tmp 0) = .iface T v) : RT (YtdkafcgangcgbagGreatDoorQ.Al.progOf Tryz.prog) Fin b cs (a.put (some d) (.bool false)) (.inRegion ops rest :: k) w := by
  refine h.val ho rfl (v := .bool false) (w' := w) ?_
  have e : execOp a.eval ⟨some d, .binOp .eql 25 (.tmp 0) (.const .nilIface) yt, ty, ps, af, none⟩ = (do Pure.pure (.value (← (do eqGuard .eql 25 (.tmp 0) (.const .nilIface) (.iface T v) .nilIface; Go.binOp .eql 25 (.iface T v) .nilIface)))) := by rw [← hx]; rfl
  rw [e, Sem.run_bind, eq_some T v w]
  rfl

section
variable {fns : Fx} {Z : Nat → Prop} {Fin : Goroutine → World → Prop} {E : Nat → Nat → Prop} {gh w : World} {b c c' : Frame} {cs cs' k : List Frame} {S : Nat → Prop} {gs : Array Goroutine} {d : Nat} {sl : Option (Nat × Nat)} {t : Trace} {q : Nat → Nat}
/-- What the ghost's Told was handed, if it comes back. -/
theorem told_met {x : Value} {kk : List Item} (h : RT (YtdkafcgangcgbagGreatDoorQ.Al.progOf Tryz.prog) Fin b cs ⟨#[x] ++ Array.replicate 6 undef, []⟩ (.code YtdkafcgangcgbagGreatDoorQ.Al.toldB :: kk) gh) : x = .nilIface ∨ ∃ n, x = .iface 31 (.int .i64 n) := by
  obtain ⟨dd, hu, hd⟩ := u_errno
  obtain ⟨a, ha⟩ : ∃ a : Act, a = ⟨#[x] ++ Array.replicate 6 undef, []⟩ := ⟨_, rfl⟩
  have sz : a.tmps.size = 7 := by rw [ha]; simp
  have s0 : a.eval (.tmp 0) = x := by rw [ha]; kernel_rfl
  rw [← ha] at h
  clear ha
  have h1 := h.seq.region.assign (d := 1) rfl
  rcases h1.assert (d := 3) hu hd z_errno rfl with ⟨hx, _⟩ | ⟨T, v, hx, h2⟩
  · rw [eval_other _ (by decide), s0] at hx
    exact .inl hx
  · rw [eval_other _ (by decide), s0] at hx
    right
    rcases h2 with ⟨hT, h3⟩ | ⟨hT, h3⟩
    · skip
      have h4 := h3.extract (d := 4) (xs := #[v, .bool true]) (v := v) rfl (eval_same 3 _ (by simp only [put_size]; omega)) rfl
      have h5 := h4.extract (d := 5) (xs := #[v, .bool true]) (v := .bool true) rfl (by rw [eval_other _ (by decide)]; exact eval_same 3 _ (by simp only [put_size]; omega)) rfl
      have e0 : Act.eval ((((a.put (some 1) (a.eval (.const (.int .i64 0)))).put (some 3) (.tuple #[v, .bool true])).put (some 4) v).put (some 5) (.bool true)) (.tmp 0) = Value.iface T v := (eval_other _ (show (0 : Nat) ≠ 5 by decide)).trans ((eval_other _ (show (0 : Nat) ≠ 4 by decide)).trans ((eval_other _ (show (0 : Nat) ≠ 3 by decide)).trans ((eval_other _ (show (0 : Nat) ≠ 1 by decide)).trans (s0.trans hx))))
      have h6 := h5.eqface (d := 2) rfl e0
      have h7 := (h6.over.seq.cond (t := false) (eval_same 2 _ (by simp only [put_size]; omega))).skip.seq
      have q5 : Act.eval (((((a.put (some 1) (a.eval (.const (.int .i64 0)))).put (some 3) (.tuple #[v, .bool true])).put (some 4) v).put (some 5) (.bool true)).put (some 2) (.bool false)) (.tmp 5) = Value.bool true := (eval_other _ (show (5 : Nat) ≠ 2 by decide)).trans (eval_same 5 _ (by simp only [put_size]; omega))
      have h8 := h7.cond (t := true) q5
      obtain ⟨n, hn, _⟩ := (h8.skip.seq.region).lss (d := 6) (ik := .i64) (m := 0) rfl rfl
      have hv : v = .int .i64 n := by
        rw [← hn]
        exact ((eval_other _ (show (4 : Nat) ≠ 2 by decide)).trans ((eval_other _ (show (4 : Nat) ≠ 5 by decide)).trans (eval_same 4 _ (by simp only [put_size]; omega)))).symm
      exact ⟨n, by rw [hx, hT, hv]⟩
    · skip
      have h4 := h3.extract (d := 4) (xs := #[(.int .i64 0), .bool false]) (v := (.int .i64 0)) rfl (eval_same 3 _ (by simp only [put_size]; omega)) rfl
      have h5 := h4.extract (d := 5) (xs := #[(.int .i64 0), .bool false]) (v := .bool false) rfl (by rw [eval_other _ (by decide)]; exact eval_same 3 _ (by simp only [put_size]; omega)) rfl
      have e0 : Act.eval ((((a.put (some 1) (a.eval (.const (.int .i64 0)))).put (some 3) (.tuple #[(.int .i64 0), .bool false])).put (some 4) (.int .i64 0)).put (some 5) (.bool false)) (.tmp 0) = Value.iface T v := (eval_other _ (show (0 : Nat) ≠ 5 by decide)).trans ((eval_other _ (show (0 : Nat) ≠ 4 by decide)).trans ((eval_other _ (show (0 : Nat) ≠ 3 by decide)).trans ((eval_other _ (show (0 : Nat) ≠ 1 by decide)).trans (s0.trans hx))))
      have h6 := h5.eqface (d := 2) rfl e0
      have h7 := (h6.over.seq.cond (t := false) (eval_same 2 _ (by simp only [put_size]; omega))).skip.seq
      have q5 : Act.eval (((((a.put (some 1) (a.eval (.const (.int .i64 0)))).put (some 3) (.tuple #[(.int .i64 0), .bool false])).put (some 4) (.int .i64 0)).put (some 5) (.bool false)).put (some 2) (.bool false)) (.tmp 5) = Value.bool false := (eval_other _ (show (5 : Nat) ≠ 2 by decide)).trans (eval_same 5 _ (by simp only [put_size]; omega))
      have h8 := h7.cond (t := false) q5
      refine (h8.stuck (ik := .i64) (n := 0) ?_).elim
      exact (eval_other _ (show (1 : Nat) ≠ 2 by decide)).trans ((eval_other _ (show (1 : Nat) ≠ 5 by decide)).trans ((eval_other _ (show (1 : Nat) ≠ 4 by decide)).trans ((eval_other _ (show (1 : Nat) ≠ 3 by decide)).trans (eval_same 1 _ (by omega)))))
/-- The ghost comes back from its Told. -/
theorem ghost_told (hz : zeros (YtdkafcgangcgbagGreatDoorQ.Al.progOf Tryz.prog) (fns.own (YtdkafcgangcgbagGreatDoorQ.Al.progOf Tryz.prog))) (hp : okOne (YtdkafcgangcgbagGreatDoorQ.Al.progOf Tryz.prog) (fns.own (YtdkafcgangcgbagGreatDoorQ.Al.progOf Tryz.prog))) (hfo : fns.ok 18 = true) {a : Array Value} {x : Value} (hcs : cs = k ++ [trapF]) (hst : Start (YtdkafcgangcgbagGreatDoorQ.Al.progOf Tryz.prog) (fns.own (YtdkafcgangcgbagGreatDoorQ.Al.progOf Tryz.prog)) Z (dom E) a gh)
    (hc : ∀ t d, Calls (YtdkafcgangcgbagGreatDoorQ.Al.progOf Tryz.prog) 18 a (wOn gh t d) fun e w' => e = .returned x ∧ w' = wOn gh t d)
    (hR : Runs (YtdkafcgangcgbagGreatDoorQ.Al.progOf Tryz.prog) true Fin (G (Frame.enter (YtdkafcgangcgbagGreatDoorQ.Al.progOf Tryz.prog) 18 a .normal) (c :: cs)) gh) :
    ∃ gh1, Relation.TransGen (Bf (YtdkafcgangcgbagGreatDoorQ.Al.progOf Tryz.prog) true) (G (c.finish x) cs, gh1) (G (Frame.enter (YtdkafcgangcgbagGreatDoorQ.Al.progOf Tryz.prog) 18 a .normal) (c :: cs), gh) ∧ Runs (YtdkafcgangcgbagGreatDoorQ.Al.progOf Tryz.prog) true Fin (G (c.finish x) cs) gh1 ∧ gh1.heap = gh.heap := by
  obtain ⟨v, gh1, t1, r1, u, ⟨rfl, hu⟩, he⟩ := runs_call (f := 18) (Q := fun v u => v = x ∧ u.heap = gh.heap) hz gdepth hp hcs hfo hst (fun t d => (hc t d).mono (fun e w' ⟨h1, h2⟩ => ⟨_, h1, rfl, by rw [h2]; rfl⟩)) hR
  exact ⟨gh1, t1, r1, by rw [← he]; exact hu⟩
/-- What the variable errors.errorType holds. -/
def ETy (o0 : Option Obj) : Prop := ∃ cs T fr, o0 = some (.cells cs T fr) ∧ cs[0]? = some (.iface 142 (.agg #[.pointer (some ⟨1, 25, none⟩)]))
theorem told_jc {o0 : Option Obj} (hO : ETy o0) (hj : fns.jf 18 = true) (hre : fns.re (YtdkafcgangcgbagGreatDoorQ.Al.progOf Tryz.prog) = Tryz.prog) (hz : zeros (YtdkafcgangcgbagGreatDoorQ.Al.progOf Tryz.prog) (fns.own (YtdkafcgangcgbagGreatDoorQ.Al.progOf Tryz.prog))) (hp : okOne (YtdkafcgangcgbagGreatDoorQ.Al.progOf Tryz.prog) (fns.own (YtdkafcgangcgbagGreatDoorQ.Al.progOf Tryz.prog))) (hfo : fns.ok 18 = true) : JC (YtdkafcgangcgbagGreatDoorQ.Al.progOf Tryz.prog) fns Z 0 o0 18 := by
  unfold JC
  rw [hre]
  intro Fin E gh w a a' c c' cs cs' S gs d sl t q ha har hgs hw hk hR hB hS hSb hK
  obtain ⟨k, hcs⟩ := hk
  have hsz := arOK_size told_params hj har
  obtain ⟨x, rfl⟩ := one_arg hsz
  obtain ⟨x', rfl⟩ := one_arg (ha.1 ▸ hsz)
  have hx : VR fns E x x' := ha.2 0 (by simp) (by simp)
  have hst := start_own ha hgs hw
  have hne : c :: cs ≠ [trapF] := by rw [hcs]; intro h; have := congrArg List.length h; simp at this
  have hRT : RT (YtdkafcgangcgbagGreatDoorQ.Al.progOf Tryz.prog) Fin toldFr (c :: cs) ⟨#[x] ++ Array.replicate 6 undef, []⟩ [.code YtdkafcgangcgbagGreatDoorQ.Al.toldB] gh := ⟨hne, rfl, by rw [← told_enter]; exact hR⟩
  rcases told_met hRT with rfl | ⟨n, rfl⟩
  · rw [vr_nilIface] at hx
    subst hx
    obtain ⟨gh1, t1, r1, hh⟩ := ghost_told hz hp hfo hcs hst (fun t d => YtdkafcgangcgbagGreatDoorQ.toldq_nil (wOn gh t d)) hR
    obtain ⟨N, gs', d', sl', t', q', r, _, hB'⟩ := told_nil_bs (S := S) (B0 := w.heap.size) (w := w) (c := c') (cs := cs') gs d sl t q hB
    exact ⟨_, gh1, t1, r1, N, gs', _, sl', t', q', S, E, _, r, ⟨hB'.at0, hB'.lv, hB'.past, fun b hb => nor_of hB'.past hb⟩, vr_scalar rfl, hw.ext (fun a b _ => by rw [hh]) (fun a b _ => rfl) (by rw [hh]; exact Nat.le_refl _) (Nat.le_refl _), fun _ _ x => x, hS, hSb, ⟨fun _ _ _ _ => rfl, Nat.le_refl _, fun _ _ x => .inl x, fun _ x => .inl x, rfl, rfl, rfl⟩⟩
  · obtain ⟨u, rfl, hu⟩ := vr_iface.1 hx
    rw [vr_int] at hu
    subst hu
    obtain ⟨gh1, t1, r1, hh⟩ := ghost_told hz hp hfo hcs hst (fun t d => YtdkafcgangcgbagGreatDoorQ.toldq_errno n (wOn gh t d)) hR
    obtain ⟨cells, T, fr, ho, hc0⟩ := hO
    have hE : w.cell? ⟨0, 0, none⟩ = some (.iface 142 (.agg #[.pointer (some ⟨1, 25, none⟩)])) := by
      have := hK.at0
      rw [ho] at this
      simp [World.cell?, this, hc0]
    obtain ⟨w1, ton, hbs⟩ := told_bs (S := S) (B0 := w.heap.size) n hE hSb hK.nS (c := c') (cs := cs')
    obtain ⟨N, gs', d', sl', t', q', r, _, hB'⟩ := hbs gs d sl t q hB
    have hsz1 : w.heap.size ≤ w1.heap.size := by have := ton.size; omega
    exact ⟨_, gh1, t1, r1, N, gs', _, sl', t', q', S, E, _, r, ⟨hB'.at0, hB'.lv, hB'.past, fun b hb => nor_of hB'.past hb⟩, vr_scalar rfl, hw.ext (fun a b _ => by rw [hh]) (fun a b x => ton.old b (hw.lt x).2) (by rw [hh]; exact Nat.le_refl _) hsz1, fun _ _ x => x, hS, fun b hb => Nat.lt_of_lt_of_le (hSb b hb) hsz1, ⟨fun b hb _ _ => ton.old b hb, hsz1, fun _ _ x => .inl x, fun _ x => .inl x, ton.tape, ton.os, ton.output⟩⟩
end
end Go.Proofs.YtdkafcgangcgbagGreatDoor

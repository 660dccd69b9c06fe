/-
  What the call of the list's add gives: a new entry stands last.
-/
import Derived.Test.YtphacdnepjpmoafBuf
namespace Go.Proofs.Ytphacdnepjpmoaf
open Go.RowKit
set_option linter.unusedVariables false

/-- The two new blocks. -/
def addW (w : World) (l : Int) (gn : Bool) (s p : Value) : World := (w.alloc (.cells #[.int .i64 l, .bool gn, s] 45)).alloc (.cells #[.int .i64 l, .bool gn, s, p, .pointer none] 69)
set_option maxRecDepth 100000 in
set_option maxHeartbeats 1000000 in
theorem ladd_n (w : World) (bb : Nat) (l : Int) (gn : Bool) (sa : Option Addr) (sn sc : Nat) (u1 : Value) (b1 : w.cell? ⟨bb, 1, none⟩ = some u1) (b2 : w.cell? ⟨bb, 2, none⟩ = some (.pointer none)) (f1 : w.frozen? ⟨bb, 1, none⟩ = false) (f2 : w.frozen? ⟨bb, 2, none⟩ = false) :
    Calls Try.prog 24 #[.pointer (some ⟨bb, 1, none⟩), .agg #[.int .i64 l, .bool gn, .slice sa sn sc]] w fun e w' => e = .returned (.pointer (some ⟨w.heap.size + 1, 0, none⟩)) ∧ ∃ q, w' = (addW ((w.setCell ⟨bb, 1, none⟩ (.pointer (some ⟨w.heap.size + 1, 0, none⟩))).setCell ⟨bb, 2, none⟩ (.pointer (some ⟨w.heap.size + 1, 0, none⟩))) l gn (.slice sa sn sc) (.pointer none)).drewN q := by
  have hlt : bb < w.heap.size := World.block_lt_of_cell? w _ b2
  go_enter Try.func24, Try.ntmps24
  go_wp2
  go_region
  all_goals (try go_wp2)
  all_goals go_ret
  all_goals exact ⟨rfl, 1, rfl⟩
set_option maxRecDepth 100000 in
set_option maxHeartbeats 1000000 in
theorem ladd_s (w : World) (bb y : Nat) (l : Int) (gn : Bool) (sa : Option Addr) (sn sc : Nat) (u1 : Value) (hy : bb ≠ y) (b1 : w.cell? ⟨y, 4, none⟩ = some u1) (b2 : w.cell? ⟨bb, 2, none⟩ = some (.pointer (some ⟨y, 0, none⟩))) (f1 : w.frozen? ⟨y, 4, none⟩ = false) (f2 : w.frozen? ⟨bb, 2, none⟩ = false) :
    Calls Try.prog 24 #[.pointer (some ⟨bb, 1, none⟩), .agg #[.int .i64 l, .bool gn, .slice sa sn sc]] w fun e w' => e = .returned (.pointer (some ⟨w.heap.size + 1, 0, none⟩)) ∧ ∃ q, w' = (addW ((w.setCell ⟨y, 4, none⟩ (.pointer (some ⟨w.heap.size + 1, 0, none⟩))).setCell ⟨bb, 2, none⟩ (.pointer (some ⟨w.heap.size + 1, 0, none⟩))) l gn (.slice sa sn sc) (.pointer (some ⟨y, 0, none⟩))).drewN q := by
  have hlt : bb < w.heap.size := World.block_lt_of_cell? w _ b2
  have hlt2 : y < w.heap.size := World.block_lt_of_cell? w _ b1
  go_enter Try.func24, Try.ntmps24
  go_wp2
  go_region
  all_goals (try go_wp2)
  all_goals go_ret
  all_goals exact ⟨rfl, 1, rfl⟩
theorem ladd_any {w : World} {bb mb most : Nat} {N : List Nd} (h : BC w bb mb most N) (it : It) (a : Option Addr) (cap : Nat) :
    Calls Try.prog 24 #[.pointer (some ⟨bb, 1, none⟩), .agg #[.int .i64 it.lba, .bool it.gone, .slice a it.data.length cap]] w fun e w' => e = .returned (.pointer (some ⟨w.heap.size + 1, 0, none⟩)) ∧ BC w' bb mb most (N ++ [⟨w.heap.size + 1, it, a, cap⟩]) ∧ Keep (NB bb N) w w' := by
  have hbl := heap_lt h.bk
  have hlt : ∀ x ∈ N, x.g < w.heap.size := fun x hx => by obtain ⟨p, n, hn⟩ := h.ch.node x hx; exact heap_lt hn
  have hG : GG w bb mb most N [] (hd N none) (lst none N) none (lst none N) := ⟨h.bk, h.ch, trivial⟩
  obtain ⟨g1, ⟨f1, u1, c1⟩, s1⟩ := hG.ahead (some (w.heap.size + 1)) (by rw [List.append_nil]; exact h.dis)
  have g1' : GG (w.setCell (pa bb (lst none N)) (ptr (some (w.heap.size + 1)))) bb mb most N [] (hd N (some (w.heap.size + 1))) (lst (lst none N) []) (some (w.heap.size + 1)) (lst none N) := g1
  obtain ⟨g2, ⟨f2, u2, c2⟩, s2⟩ := g1'.behind (some (w.heap.size + 1)) (by rw [List.append_nil]; exact h.dis)
  have e2 : na bb (hd [] none) = ⟨bb, 2, none⟩ := rfl
  rw [e2] at g2
  have hfin : ∀ w', (∃ q, w' = (addW ((w.setCell (pa bb (lst none N)) (ptr (some (w.heap.size + 1)))).setCell ⟨bb, 2, none⟩ (ptr (some (w.heap.size + 1)))) it.lba it.gone (.slice a it.data.length cap) (ptr (lst none N))).drewN q) → BC w' bb mb most (N ++ [⟨w.heap.size + 1, it, a, cap⟩]) ∧ Keep (NB bb N) w w' := by
    rintro w' ⟨q, rfl⟩
    have hk0 : Keep (NB bb N) w ((w.setCell (pa bb (lst none N)) (ptr (some (w.heap.size + 1)))).setCell ⟨bb, 2, none⟩ (ptr (some (w.heap.size + 1)))) := by
      refine Keep.set (Keep.set (Keep.refl _ _) ?_ _) (p := ⟨bb, 2, none⟩) (Or.inl rfl) _
      exact s1 _ rfl
    have hsz : ((w.setCell (pa bb (lst none N)) (ptr (some (w.heap.size + 1)))).setCell ⟨bb, 2, none⟩ (ptr (some (w.heap.size + 1)))).heap.size = w.heap.size := by simp [World.setCell]
    generalize ((w.setCell (pa bb (lst none N)) (ptr (some (w.heap.size + 1)))).setCell ⟨bb, 2, none⟩ (ptr (some (w.heap.size + 1)))) = W at *
    have hk1 : Keep (fun _ => False) W ((addW W it.lba it.gone (.slice a it.data.length cap) (ptr (lst none N))).drewN q) := (((Keep.refl _ _).alloc _).alloc _).drewN q
    have hnew : NodeAt ((addW W it.lba it.gone (.slice a it.data.length cap) (ptr (lst none N))).drewN q) ⟨w.heap.size + 1, it, a, cap⟩ (lst none N) none := by
      show (addW W it.lba it.gone (.slice a it.data.length cap) (ptr (lst none N))).heap[w.heap.size + 1]? = _
      have := heap_alloc_new (W.alloc (.cells #[.int .i64 it.lba, .bool it.gone, .slice a it.data.length cap] 45)) (.cells #[.int .i64 it.lba, .bool it.gone, .slice a it.data.length cap, ptr (lst none N), .pointer none] 69)
      rw [show (W.alloc (.cells #[.int .i64 it.lba, .bool it.gone, .slice a it.data.length cap] 45)).heap.size = w.heap.size + 1 by rw [← hsz]; simp] at this
      exact this
    refine ⟨⟨?_, ?_, ?_⟩, hk0.thru hk1 (fun _ _ e => e.elim)⟩
    · rw [hd_app, lst_app]
      refine (hk1.block bb (heap_lt g2.bk) (fun e => e)).trans g2.bk
    · exact (chain_app _ _ _ _).2 ⟨g2.ca.keep hk1 (fun _ _ e => e), hnew, trivial⟩
    · rw [List.map_append, List.nodup_append]
      refine ⟨h.dis, by simp, fun x hx y hy => ?_⟩
      obtain ⟨z, hz, rfl⟩ := List.mem_map.1 hx
      simp at hy
      have := hlt z hz
      omega
  have c2' : w.cell? ⟨bb, 2, none⟩ = some (ptr (lst none N)) := (ptr_at h.bk).trans rfl
  have f2' : w.frozen? ⟨bb, 2, none⟩ = false := row_free h.bk 2
  have hlst : ∀ y, lst none N = some y → bb ≠ y := by
    intro y hy
    rcases List.eq_nil_or_concat N with rfl | ⟨A', z, rfl⟩
    · cases hy
    · rw [List.concat_eq_append] at *
      rw [lst_app] at hy
      cases hy
      obtain ⟨p', n', hn⟩ := hG.ca.node z (by simp)
      exact (ne_bb h.bk hn).symm
  clear hG g1 g1' g2 s1 s2 f2 c2 hlt
  generalize lst none N = P at *
  cases P with
  | none => exact (ladd_n w bb it.lba it.gone a it.data.length cap u1 c1 c2' f1 f2').mono fun e w' ⟨h1, h2⟩ => ⟨h1, hfin w' h2⟩
  | some y => exact (ladd_s w bb y it.lba it.gone a it.data.length cap u1 (hlst y rfl) c1 c2' f1 f2').mono fun e w' ⟨h1, h2⟩ => ⟨h1, hfin w' h2⟩
end Go.Proofs.Ytphacdnepjpmoaf

/-
  The walk of put0.
-/
import Derived.Test.YtphacdnepjpmoafPut0
namespace Go.Proofs.Ytphacdnepjpmoaf
open Go.RowKit
set_option linter.unusedVariables false

set_option maxRecDepth 20000 in
set_option maxHeartbeats 1600000 in
theorem put0_any {w : World} {a : Option Addr} {cap : Nat} {M : List RN} (hR : RowAt 41 w a M) (hnil : a = none → cap = 0) (x : RN) (hb : M.length * 40 ≤ 140737488355328) (hb1 : has (M.map (·.it)) x.it.lba = false → (M.length + 1) * 40 ≤ 140737488355328) :
    Calls Try.prog 11 #[.slice a M.length cap, .agg #[.int .i64 x.it.lba, .bool x.it.gone, .slice x.a x.it.data.length x.cap]] w fun e w' => P0 w w' e M x := by
  have hal := alloc_below' w (.cells #[.int .i64 x.it.lba, .bool x.it.gone, .slice x.a x.it.data.length x.cap] 41)
  have hsz : (w.alloc (.cells #[.int .i64 x.it.lba, .bool x.it.gone, .slice x.a x.it.data.length x.cap] 41)).heap.size = w.heap.size + 1 := by simp
  have hal2 := alloc_below' (w.alloc (.cells #[.int .i64 x.it.lba, .bool x.it.gone, .slice x.a x.it.data.length x.cap] 41)) (.cells #[] 41)
  have hb2 : Below w.heap.size w ((w.alloc (.cells #[.int .i64 x.it.lba, .bool x.it.gone, .slice x.a x.it.data.length x.cap] 41)).alloc (.cells #[] 41)) := hal.trans (hal2.mono hal.size)
  have HO : Hid (OwnR 41 ((w.alloc (.cells #[.int .i64 x.it.lba, .bool x.it.gone, .slice x.a x.it.data.length x.cap] 41)).alloc (.cells #[] 41)) (w.heap.size + 1) (some ⟨w.heap.size + 1, 0, none⟩) 0 []) := by
    have := OwnR.new 41 (w.alloc (.cells #[.int .i64 x.it.lba, .bool x.it.gone, .slice x.a x.it.data.length x.cap] 41)) (w.heap.size + 1) (by rw [hsz]; exact Nat.le_refl _) #[] rfl
    rw [hsz] at this
    exact this
  have HR : Hid (RowAt 41 ((w.alloc (.cells #[.int .i64 x.it.lba, .bool x.it.gone, .slice x.a x.it.data.length x.cap] 41)).alloc (.cells #[] 41)) a M) := hR.below hb2
  have HN : Hid (a = none → cap = 0) := hnil
  have Hb : Hid (M.length * 40 ≤ 140737488355328) := hb
  have Hb1 : Hid (has (M.map (·.it)) x.it.lba = false → (M.length + 1) * 40 ≤ 140737488355328) := hb1
  have Hsz : Hid (w.heap.size + 1 ≤ ((w.alloc (.cells #[.int .i64 x.it.lba, .bool x.it.gone, .slice x.a x.it.data.length x.cap] 41)).alloc (.cells #[] 41)).heap.size) := by show _ ≤ _; simp
  have HBx : Hid (∀ w', Keep (blk (some ⟨w.heap.size + 1, 0, none⟩)) ((w.alloc (.cells #[.int .i64 x.it.lba, .bool x.it.gone, .slice x.a x.it.data.length x.cap] 41)).alloc (.cells #[] 41)) w' → ∀ a1 cap1, OwnR 41 w' (w.heap.size + 1) a1 cap1 M → PL w w' M x a1 cap1) := fun w' hk a1 cap1 ho => by
    have hne : ∀ b, blk (some ⟨w.heap.size + 1, 0, none⟩) b → b = w.heap.size + 1 := fun b hb => by obtain ⟨y, e, rfl⟩ := hb; cases e; rfl
    refine ⟨ho, hb2.trans (hk.below hb2.size (fun b hb => by have := hne b hb; omega)), ?_⟩
    refine (hk.block w.heap.size (by simp; omega) (fun e => by have := hne _ e; omega)).trans ?_
    exact (hal2.block w.heap.size (by simp)).trans (heap_alloc_new w _)
  have hlen : M.length ≤ 9223372036854775807 := by omega
  clear hal hal2 hb2 hR hnil hb hb1 hsz
  go_enter Try.func11, Try.ntmps11
  go_wp2_with (at_builtin; refine app_stepC rfl (.tmp 7) (.tmp 8) rfl (w.heap.size + 1) (some ⟨w.heap.size + 1, 0, none⟩) 0 (by rfl) HO.out a cap M (by rfl) HN.out HR.out Hb.out Hsz.out ?_)
  intro a1 cap1 w1 ho hk
  have H1 : Hid (PL w w1 M x a1 cap1) := HBx.out w1 hk a1 cap1 ho
  clear ho hk HBx Hsz HR HO HN Hb
  go_wp2
  go_loopw [6] (fun j wr => ∃ k : Nat, k ≤ M.length ∧ j = .int .i64 k ∧ Hid (∀ i, i < k → lbaR M i ≠ x.it.lba) ∧ Hid (PL w wr M x a1 cap1)) (fun j _ => M.length - (intOf j).toNat)
  case atStart => exact ⟨0, Nat.zero_le _, rfl, (fun i h => by omega), H1⟩
  case round =>
    obtain ⟨k, hk, rfl, hno, hP⟩ := hrel
    clear H1
    have hb := hP.out.box
    have b0 : wr.cell? ⟨w.heap.size, 0, none⟩ = some (.int .i64 x.it.lba) := (ptr_at hb).trans rfl
    have b1 : wr.cell? ⟨w.heap.size, 1, none⟩ = some (.bool x.it.gone) := (ptr_at hb).trans rfl
    have b2 : wr.cell? ⟨w.heap.size, 2, none⟩ = some (.slice x.a x.it.data.length x.cap) := (ptr_at hb).trans rfl
    clear hb
    by_cases hlt : k < M.length
    · rcases hP.out.own.parts with ⟨_, _, e⟩ | ⟨g, cur, hg, hge, hcur, hcl, _⟩
      · rw [e] at hlt; simp at hlt
      subst hg
      obtain ⟨g', off', eg, d0, d1, d2⟩ := hP.out.own.at.at hlt
      cases eg
      rw [Nat.zero_add] at d0 d1 d2
      have hfr := fun j => row_free hcur j
      have fr0 := hfr (k * 3)
      have fr1 := hfr (k * 3 + 1)
      have fr2 := hfr (k * 3 + 2)
      have d0' : wr.cell? ⟨g, k * 3, none⟩ = some (.int .i64 (lbaR M k)) := d0
      clear hfr d0 hcur
      by_cases hX : lbaR M k = x.it.lba
      · have t1 : (lbaR M k == x.it.lba) = true := by simp [hX]
        have HF : Hid (∀ q, P0 w (((((wr.drewN q).setCell ⟨g, k * 3, none⟩ (.int .i64 x.it.lba)).setCell ⟨g, k * 3 + 1, none⟩ (.bool x.it.gone)).setCell ⟨g, k * 3 + 2, none⟩ (.slice x.a x.it.data.length x.cap))) (.returned (.slice (some ⟨g, 0, none⟩) M.length cap1)) M x) := fun q => by
          have hq := hP.out.below (below_drewN (Below.refl _ _) q)
          have e := ptR_at M x k hlt hno.out hX
          refine ⟨some ⟨g, 0, none⟩, cap1, by rw [e, List.length_set], (fun e => by cases e), by rw [e]; exact hq.own.set hlt x, ?_⟩
          have kk : Keep (fun b => b = g) (wr.drewN q) (((((wr.drewN q).setCell ⟨g, k * 3, none⟩ (.int .i64 x.it.lba)).setCell ⟨g, k * 3 + 1, none⟩ (.bool x.it.gone)).setCell ⟨g, k * 3 + 2, none⟩ (.slice x.a x.it.data.length x.cap))) := (((Keep.refl _ _).set1 _ _).set1 _ _).set1 _ _
          exact hq.bel.trans (kk.below hq.bel.size (fun b e => by omega))
        have ne0 : ¬ (g = w.heap.size) := by omega
        have hX2 : Hid (lbaR M k = x.it.lba) := hX
        generalize lbaR M k = X at *
        clear hP hno hX
        go_wp2
        go_quiet (fail)
        go_wp2
        go_ret
        exact HF.out _
      · have t1 : (lbaR M k == x.it.lba) = false := by rw [beq_eq_false_iff_ne]; exact hX
        have HI : Hid (∀ i, i < k + 1 → lbaR M i ≠ x.it.lba) := fun i hi => by
          by_cases h2 : i < k
          · exact hno.out i h2
          · have : i = k := by omega
            rw [this]; exact hX
        have HQ : Hid (∀ q, PL w (wr.drewN q) M x (some ⟨g, 0, none⟩) cap1) := fun q => hP.out.below (below_drewN (Below.refl _ _) q)
        clear hP hno hX
        generalize lbaR M k = X at d0' t1
        go_wp2
        go_quiet (fail)
        go_wp2
        exact ⟨⟨k + 1, by omega, by go_num, HI, HQ.out _⟩, by simp [intOf]; omega⟩
    · obtain rfl : k = M.length := by omega
      have HE : Hid (ptR M x = M ++ [x]) := ptR_no M x hno.out
      have hbb := Hb1.out (has_lbaR hno.out)
      have Hlt : Hid (w.heap.size + 1 ≤ wr.heap.size) := heap_lt hP.out.box
      clear hno Hb1
      go_wp2_with (at_builtin; refine app_stepR 41 34 Try.underlying34 infoR rfl (.tmp 29) (.tmp 31) rfl wr (w.heap.size + 1) cap1 a1 M x (by rfl) (by rfl) hP.out.own hbb Hlt.out ?_)
      intro a2 cap2 w2 ho hk2
      have HF : Hid (P0 w w2 (.returned (.slice a2 (M.length + 1) cap2)) M x) := by
        refine ⟨a2, cap2, by rw [HE.out, List.length_append, List.length_singleton], ?_, by rw [HE.out]; exact ho.at, hP.out.bel.trans (hk2.below hP.out.bel.size (fun b e => by have := (hP.out.own.ty e).1; omega))⟩
        intro e
        rcases ho.parts with ⟨_, e2, _⟩ | ⟨g, cur, e2, _⟩
        · exact e2
        · rw [e] at e2; cases e2
      clear ho hk2 hP HE
      go_wp2
      go_ret
      exact HF.out
end Go.Proofs.Ytphacdnepjpmoaf

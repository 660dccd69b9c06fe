/-
  What the call of order.newSearch gives: a search in memory.
-/
import Derived.Test.YtohngekkbgklfaaStepCall
namespace Go.Proofs.Ytohngekkbgklfaa
open Go.RowKit
set_option linter.unusedVariables false

theorem ns_start (w : World) (a : Option Addr) (n cap : Nat) (l : List Cl) (hl : l.length = n) (h : CL w a l) :
    NS ((w.alloc (.map #[] 0)).alloc (.cells #[.slice a n cap, .slice none 0 0, .slice none 0 0, .map (some w.heap.size), .slice none 0 0] 43)) (w.heap.size + 2) (w.heap.size + 1) w.heap.size a n cap l none 0 0 none 0 0 := by
  have hb := ((Below.refl w.heap.size w).alloc (Nat.le_refl _) (.map #[] 0))
  have hb2 := hb.alloc (by simp) (.cells #[.slice a n cap, .slice none 0 0, .slice none 0 0, .map (some w.heap.size), .slice none 0 0] 43)
  refine ⟨?_, h.below hb2, hl, fun h0 b hb => ?_, by simp, by omega, by omega, OwnI.nil _ _, OwnI.nil _ _, ?_, ?_⟩
  · have := stc_new (w.alloc (.map #[] 0)) 43 [.slice a n cap, .slice none 0 0, .slice none 0 0, .map (some w.heap.size), .slice none 0 0] _ rfl
    simpa using this
  · have := h.lt (by omega) hb
    omega
  · rintro b ⟨x, e, _⟩
    cases e
  · exact (World.ownsMap_made w _ _ _).alloc _
/-- What a step of the making needs of a call of the list, behind whatever was made since. -/
theorem ns_at {w : World} {B sb mb : Nat} {g off n cap : Nat} {l : List Cl} {ba : Option Addr} {bc kb : Nat} {ha : Option Addr} {hc kh : Nat} (h : NS w B sb mb (some ⟨g, off, none⟩) n cap l ba bc kb ha hc kh) : ∀ i, i < n → ClAt w g off i (gC l i) := fun i hi => by
  obtain ⟨g', off', e, h'⟩ := h.cl.some_of (i := i) (by rw [h.len]; exact hi)
  cases e
  exact h' i (by rw [h.len]; exact hi)
theorem stc_alloc {w : World} {t : TypeId} (cs : List Value) (a : Array Value) (h : a = cs.toArray) (q : Nat) : Stc ((w.alloc (.cells a t)).drewN q) w.heap.size t cs := (stc_new w t cs a h).drewN q
/-- What stands once a row has one number more. -/
theorem ns_behind {w0 W w3 : World} {B sb mb n cap kb hc kh bc c : Nat} {a : Option Addr} {l : List Cl} {ba ha : Option Addr} {t : TypeId} {cs : List Value} (h : NS W B sb mb a n cap l ba bc kb ha hc kh)
    (hlo : w0.heap.size ≤ sb ∧ w0.heap.size ≤ B ∧ sb < c) (hb : Below w0.heap.size w0 W) (hs : Stc W c t cs) (ra : Option Addr) (hra : ∀ b, blk ra b → B ≤ b ∧ b < c) (hk : Keep (blk ra) W w3) :
    Stc w3 sb 43 [.slice a n cap, .slice ba kb bc, .slice ha kh hc, .map (some mb), .slice none 0 0] ∧ Stc w3 c t cs ∧ ∀ j u, Stc (w3.setCell ⟨sb, j, none⟩ u) c t cs ∧ Below w0.heap.size w0 (w3.setCell ⟨sb, j, none⟩ u) := by
  have lt := h.lt
  have s1 := h.st.keep hk (fun e => by have := hra _ e; omega)
  have s2 := hs.keep hk (fun e => by have := hra _ e; omega)
  have hz := hb.size
  have b2 : Below w0.heap.size w0 w3 := hb.trans (hk.below (by omega) (fun b e => by have := hra _ e; omega))
  refine ⟨s1, s2, fun j u => ⟨s2.set_other (by omega) _ _, b2.setCell (by show w0.heap.size ≤ sb; omega) u⟩⟩
set_option maxRecDepth 20000 in
set_option maxHeartbeats 3200000 in
theorem new_any (a : Option Addr) (n cap : Nat) (l : List Cl) (w : World) (hl : l.length = n) (h10 : n ≤ 10) (h : CL w a l) :
    Calls Try.prog 9 #[.slice a n cap] w fun e w' => ∃ ba bc ha hc, e = .returned (.pointer (some ⟨w.heap.size + 1, 0, none⟩)) ∧ NS w' (w.heap.size + 2) (w.heap.size + 1) w.heap.size a n cap l ba bc n ha hc n ∧ Below w.heap.size w w' := by
  have HS := ns_start w a n cap l hl h
  have HB : Hid (Below w.heap.size w ((w.alloc (.map #[] 0)).alloc (.cells #[.slice a n cap, .slice none 0 0, .slice none 0 0, .map (some w.heap.size), .slice none 0 0] 43))) := ((Below.refl w.heap.size w).alloc (Nat.le_refl _) (.map #[] 0)).alloc (by simp) _
  have H0 : Hid (NS ((w.alloc (.map #[] 0)).alloc (.cells #[.slice a n cap, .slice none 0 0, .slice none 0 0, .map (some w.heap.size), .slice none 0 0] 43)) (w.heap.size + 2) (w.heap.size + 1) w.heap.size a n cap l none 0 0 none 0 0) := HS
  clear HS h
  have hmm := @run_makeMap Try.prog
  go_enter Try.func9, Try.ntmps9
  go_wp2
  go_loopw [12] (fun j wr => ∃ (k : Nat) (ba ha : Option Addr) (bc hc : Nat), k ≤ n ∧ j = .int .i64 k ∧ Hid (NS wr (w.heap.size + 2) (w.heap.size + 1) w.heap.size a n cap l ba bc k ha hc k ∧ Below w.heap.size w wr)) (fun j _ => n - (intOf j).toNat)
  case atStart => exact ⟨0, none, none, 0, 0, Nat.zero_le _, rfl, H0.out, HB.out⟩
  case round =>
    obtain ⟨k, ba, ha, bc, hc, hk, rfl, hR⟩ := hrel
    clear H0 HB hmm
    by_cases hlt : k < n
    · obtain ⟨g, off, rfl⟩ : ∃ g off, a = some ⟨g, off, none⟩ := by
        obtain ⟨g, off, e, _⟩ := hR.out.1.cl.some_of (i := k) (by omega)
        exact ⟨g, off, e⟩
      obtain ⟨c0, c1, c2, c3, c4⟩ := ns_at hR.out.1 k hlt
      have HN : Hid (∀ wx, Below wr.heap.size wr wx → NS wx (w.heap.size + 2) (w.heap.size + 1) w.heap.size (some ⟨g, off, none⟩) n cap l ba bc k ha hc k) := fun wx hb => hR.out.1.below hb
      have HBW : Hid (Below w.heap.size w wr) := hR.out.2
      have hsz : w.heap.size + 2 ≤ wr.heap.size := hR.out.1.sz
      have HC : Hid (∀ (cs : List Value) (ar : Array Value), ar = cs.toArray → cs[3]? = some (.int .i64 (gC l k).b) → ∀ x, Calls Try.prog 11 #[.slice (some ⟨g, off, none⟩) n cap, .int .i64 (gC l k).b] ((wr.alloc (.cells ar 29)).drewN x) fun e w2 => e = .returned (.int .i64 (fsb l k : Nat)) ∧ Below wr.heap.size wr w2 ∧ wr.heap.size < w2.heap.size ∧ Stc w2 wr.heap.size 29 cs ∧ (w2.cell? ⟨w.heap.size + 1, 1, none⟩ = some (.slice ba k bc) ∧ w2.cell? ⟨wr.heap.size, 3, none⟩ = some (.int .i64 (gC l k).b))) := by
        intro cs ar har h3 x
        have hb := below_drewN (alloc_below' wr (.cells ar 29)) x
        have hs := stc_alloc (w := wr) (t := 29) cs ar har x
        refine (first_n g off n cap l k _ hl h10 hlt (ns_at (HN.out _ hb))).mono fun e w2 ⟨he, hb2⟩ => ?_
        have hs2 := hs.below hb2
        have hb3 := hb.trans (hb2.mono hb.size)
        exact ⟨he, hb3, heap_lt hs2, hs2, by rw [(HN.out _ hb3).st.cell]; rfl, by rw [hs2.cell]; exact h3⟩
      have Hba : Hid (∀ b, blk ba b → w.heap.size + 2 ≤ b ∧ b < wr.heap.size) := fun b hb => hR.out.1.bl.blk hb
      have Hha : Hid (∀ b, blk ha b → w.heap.size + 2 ≤ b ∧ b < wr.heap.size) := fun b hb => hR.out.1.hd.blk hb
      have hsc : Hid (w.heap.size + 1 < wr.heap.size) := heap_lt hR.out.1.st
      have HE : Hid (∀ wx, (∀ i, i < n → ClAt wx g off i (gC l i)) → Calls Try.prog 12 #[.slice (some ⟨g, off, none⟩) n cap, .int .i64 (gC l k).f] wx fun e w' => e = .returned (.int .i64 (ahd l k : Nat)) ∧ Below wx.heap.size wx w') := fun wx h => ended_n g off n cap l k wx hl h10 h
      clear hR
      generalize (gC l k).f = f at *
      generalize (gC l k).t = t at *
      generalize (gC l k).w = wb at *
      generalize (gC l k).b = b at *
      generalize (gC l k).v = v at *
      have HC1 := HC.out [.int .i64 f, .int .i64 t, .bool wb, .int .i64 b, .int .i64 v] _ rfl rfl
      have HC2 : Hid (∀ x, Calls Try.prog 11 #[.slice (some ⟨g, off, none⟩) n cap, .int .i64 b] ((wr.alloc (.cells #[.int .i64 f, .int .i64 t, .bool wb, .int .i64 b, .int .i64 v] 29)).drewN x) fun e w2 => e = .returned (.int .i64 (fsb l k : Nat)) ∧ Below wr.heap.size wr w2 ∧ wr.heap.size < w2.heap.size ∧ Stc w2 wr.heap.size 29 [.int .i64 f, .int .i64 t, .bool wb, .int .i64 b, .int .i64 v] ∧ (w2.cell? ⟨w.heap.size + 1, 1, none⟩ = some (.slice ba k bc) ∧ w2.cell? ⟨wr.heap.size, 3, none⟩ = some (.int .i64 b))) := HC1
      have HS0 : Hid (∀ x, ((wr.alloc (.cells #[.int .i64 f, .int .i64 t, .bool wb, .int .i64 b, .int .i64 v] 29)).drewN x).cell? ⟨w.heap.size + 1, 1, none⟩ = some (.slice ba k bc) ∧ ((wr.alloc (.cells #[.int .i64 f, .int .i64 t, .bool wb, .int .i64 b, .int .i64 v] 29)).drewN x).cell? ⟨wr.heap.size, 3, none⟩ = some (.int .i64 b)) := fun x => by
        have hb := below_drewN (alloc_below' wr (.cells #[.int .i64 f, .int .i64 t, .bool wb, .int .i64 b, .int .i64 v] 29)) x
        exact ⟨by rw [(HN.out _ hb).st.cell]; rfl, by rw [(stc_alloc (w := wr) (t := 29) [.int .i64 f, .int .i64 t, .bool wb, .int .i64 b, .int .i64 v] _ rfl x).cell]; rfl⟩
      have z0 : wr.cell? ⟨w.heap.size + 1, 1, none⟩ = some (.slice ba k bc) := (HN.out wr (Below.refl _ _)).st.cell 1
      have zA : (wr.alloc (.cells #[.int .i64 f, .int .i64 t, .bool wb, .int .i64 b, .int .i64 v] 29)).cell? ⟨w.heap.size + 1, 1, none⟩ = some (.slice ba k bc) := (HN.out _ (alloc_below' wr _)).st.cell 1
      have HE2 : Hid (∀ wx, (∀ i, i < n → ClAt wx g off i (gC l i)) → Calls Try.prog 12 #[.slice (some ⟨g, off, none⟩) n cap, .int .i64 f] wx fun e w' => e = .returned (.int .i64 (ahd l k : Nat)) ∧ Below wx.heap.size wx w') := HE
      clear HC HC1 HE
      go_upto_region 5 with fail
      go_cut [] (fun wx => ∃ g2 cap2, Hid (NS wx (w.heap.size + 2) (w.heap.size + 1) w.heap.size (some ⟨g, off, none⟩) n cap l (some ⟨g2, 0, none⟩) cap2 (k + 1) ha hc k ∧ Below w.heap.size w wx ∧ Stc wx wr.heap.size 29 [.int .i64 f, .int .i64 t, .bool wb, .int .i64 b, .int .i64 v]))
      case first =>
        clear HE2
        go_region_law (first | (refine step_call (by rfl) 11 Try.f11 Try.func11 (by kernel_rfl) (by kernel_rfl) #[.tmp 21, .tmp 23] _ (by rfl) _ (by simp [Act.eval]) _ _ (HC2.out 1) ?_; rintro w2 ⟨hbw, hlt2, hst, z, zz⟩; have zA2 : (w2.alloc (.cells #[.int .i64 ((fsb l k : Nat) : Int)] 3)).cell? ⟨w.heap.size + 1, 1, none⟩ = some (.slice ba k bc) := (HN.out _ (hbw.alloc hbw.size _)).st.cell 1) | (have hb9 : Below wr.heap.size wr (w2.alloc (.cells #[.int .i64 ((fsb l k : Nat) : Int)] 3)) := hbw.alloc hbw.size _; refine stepI (by rfl) (.tmp 20) (.tmp 25) (by rfl) (w.heap.size + 2) bc w2.heap.size ba (blL l k) _ k (blL_len l k) (by rfl) (by rfl) (HN.out _ hb9).bl (heap_alloc_new w2 _) (by omega) (Nat.le_trans hsz hb9.size) ?_; intro g2 cap2 w3 ho2 hk2 hg2; have HT : Hid (NS (w3.setCell ⟨w.heap.size + 1, 1, none⟩ (.slice (some ⟨g2, 0, none⟩) (k + 1) cap2)) (w.heap.size + 2) (w.heap.size + 1) w.heap.size (some ⟨g, off, none⟩) n cap l (some ⟨g2, 0, none⟩) cap2 (k + 1) ha hc k) := (HN.out _ hb9).turnB g2 cap2 ho2 hk2 hg2; obtain ⟨z1, z2, HK3⟩ := ns_behind (HN.out _ hb9) ⟨by omega, by omega, hsc.out⟩ (HBW.out.trans (hb9.mono HBW.out.size)) (hst.below (alloc_below' w2 _)) ba Hba.out hk2; have zf := z1.free 1; have zc : w3.cell? ⟨w.heap.size + 1, 1, none⟩ = some (.slice ba k bc) := z1.cell 1; clear hk2 hg2 ho2))
        all_goals (have HG : Hid (NS (w3.setCell ⟨w.heap.size + 1, 1, none⟩ (.slice (some ⟨g2, 0, none⟩) (k + 1) cap2)) (w.heap.size + 2) (w.heap.size + 1) w.heap.size (some ⟨g, off, none⟩) n cap l (some ⟨g2, 0, none⟩) cap2 (k + 1) ha hc k ∧ Below w.heap.size w (w3.setCell ⟨w.heap.size + 1, 1, none⟩ (.slice (some ⟨g2, 0, none⟩) (k + 1) cap2)) ∧ Stc (w3.setCell ⟨w.heap.size + 1, 1, none⟩ (.slice (some ⟨g2, 0, none⟩) (k + 1) cap2)) wr.heap.size 29 [.int .i64 f, .int .i64 t, .bool wb, .int .i64 b, .int .i64 v]) := ⟨HT.out, (HK3 _ _).2, (HK3 _ _).1⟩)
        all_goals (clear HT HK3; go_wp2_with fail; go_meet; exact ⟨g2, cap2, HG.out⟩)
      case rest =>
      obtain ⟨ga, capa, hR⟩ := hcut
      have HN3 : Hid (∀ wx, Below wc.heap.size wc wx → NS wx (w.heap.size + 2) (w.heap.size + 1) w.heap.size (some ⟨g, off, none⟩) n cap l (some ⟨ga, 0, none⟩) capa (k + 1) ha hc k) := fun wx hb => hR.out.1.below hb
      have HBW3 : Hid (Below w.heap.size w wc) := hR.out.2.1
      have hsz3 : Hid (w.heap.size + 2 ≤ wc.heap.size) := hR.out.1.sz
      have HC3 : Hid (∀ x, Calls Try.prog 12 #[.slice (some ⟨g, off, none⟩) n cap, .int .i64 f] (wc.drewN x) fun e w2 => e = .returned (.int .i64 (ahd l k : Nat)) ∧ Below wc.heap.size wc w2 ∧ wr.heap.size < w2.heap.size ∧ Stc w2 wr.heap.size 29 [.int .i64 f, .int .i64 t, .bool wb, .int .i64 b, .int .i64 v] ∧ (w2.cell? ⟨w.heap.size + 1, 2, none⟩ = some (.slice ha k hc) ∧ w2.cell? ⟨wr.heap.size, 0, none⟩ = some (.int .i64 f))) := by
        intro x
        have hb := below_drewN (Below.refl wc.heap.size wc) x
        refine (HE2.out _ (ns_at (HN3.out _ hb))).mono fun e w2 ⟨he, hb2⟩ => ?_
        have hb3 := hb.trans (hb2.mono hb.size)
        have hs2 := hR.out.2.2.below hb3
        exact ⟨he, hb3, heap_lt hs2, hs2, by rw [(HN3.out _ hb3).st.cell]; rfl, by rw [hs2.cell]; rfl⟩
      have z3 : wc.cell? ⟨w.heap.size + 1, 2, none⟩ = some (.slice ha k hc) := hR.out.1.st.cell 2
      have z4 : wc.cell? ⟨wr.heap.size, 0, none⟩ = some (.int .i64 f) := hR.out.2.2.cell 0
      clear HE2 HC2 HS0 HN z0 zA hR
      go_wp2_with fail
      go_region_law (first | (refine step_call (by rfl) 12 Try.f12 Try.func12 (by kernel_rfl) (by kernel_rfl) #[.tmp 34, .tmp 36] _ (by rfl) _ (by simp [Act.eval]) _ _ (HC3.out 1) ?_; rintro w2 ⟨hbw, hlt2, hst, z, zz⟩; have zA2 : (w2.alloc (.cells #[.int .i64 ((ahd l k : Nat) : Int)] 3)).cell? ⟨w.heap.size + 1, 2, none⟩ = some (.slice ha k hc) := (HN3.out _ (hbw.alloc hbw.size _)).st.cell 2) | (have hb9 : Below wc.heap.size wc (w2.alloc (.cells #[.int .i64 ((ahd l k : Nat) : Int)] 3)) := hbw.alloc hbw.size _; refine stepI (by rfl) (.tmp 33) (.tmp 38) (by rfl) (w.heap.size + 2) hc w2.heap.size ha (ahL l k) _ k (ahL_len l k) (by rfl) (by rfl) (HN3.out _ hb9).hd (heap_alloc_new w2 _) (by omega) (Nat.le_trans hsz3.out hb9.size) ?_; intro g2 cap2 w3 ho2 hk2 hg2; have HT : Hid (NS (w3.setCell ⟨w.heap.size + 1, 2, none⟩ (.slice (some ⟨g2, 0, none⟩) (k + 1) cap2)) (w.heap.size + 2) (w.heap.size + 1) w.heap.size (some ⟨g, off, none⟩) n cap l (some ⟨ga, 0, none⟩) capa (k + 1) (some ⟨g2, 0, none⟩) cap2 (k + 1)) := (HN3.out _ hb9).turnH g2 cap2 ho2 hk2 hg2; obtain ⟨z1, z2, HK3⟩ := ns_behind (HN3.out _ hb9) ⟨by omega, by omega, hsc.out⟩ (HBW3.out.trans (hb9.mono HBW3.out.size)) (hst.below (alloc_below' w2 _)) ha Hha.out hk2; have zf := z1.free 2; have zc : w3.cell? ⟨w.heap.size + 1, 2, none⟩ = some (.slice ha k hc) := z1.cell 2; clear hk2 hg2 ho2))
      all_goals (have HG : Hid (NS (w3.setCell ⟨w.heap.size + 1, 2, none⟩ (.slice (some ⟨g2, 0, none⟩) (k + 1) cap2)) (w.heap.size + 2) (w.heap.size + 1) w.heap.size (some ⟨g, off, none⟩) n cap l (some ⟨ga, 0, none⟩) capa (k + 1) (some ⟨g2, 0, none⟩) cap2 (k + 1) ∧ Below w.heap.size w (w3.setCell ⟨w.heap.size + 1, 2, none⟩ (.slice (some ⟨g2, 0, none⟩) (k + 1) cap2))) := ⟨HT.out, (HK3 _ _).2⟩)
      all_goals (clear HT HK3 HN3 HC3; go_wp2)
      all_goals exact ⟨⟨k + 1, some ⟨ga, 0, none⟩, some ⟨g2, 0, none⟩, capa, cap2, by omega, by go_num, HG.out⟩, by simp [intOf]; omega⟩
    · obtain rfl : k = n := by omega
      clear hlt
      go_wp2
      go_ret
      exact ⟨ba, bc, ha, hc, rfl, hR.out⟩
end Go.Proofs.Ytohngekkbgklfaa

/- Part of the proof. -/
import Derived.Test.YtobpjijdebnaoaaDoorCo2
namespace Go.Proofs.YtobpjijdebnaoaaDoor
open Go Go.Conc
open Go.ConcN (sumTo upd sumTo_upd upd_ne upd_same sumTo_congr WgLive RW PayAt Has)
open Go.ConcR (KK wgBlock WgAt stA smA rd wr Payload DC0)
section
variable {x : Cx}
theorem cnt_eq {s s' : Sg} {k p' : Nat} (hk : k < s.j) (e1 : s'.j = s.j) (e4 : s'.ph = upd s.ph k p') : cnt s' + (if s.ph k ≤ 4 then 1 else 0) = cnt s + (if p' ≤ 4 then 1 else 0) := by
  have := sumTo_upd s.ph p' (fun p => if p ≤ 4 then 1 else 0) hk
  unfold cnt
  rw [e1, e4]
  exact this
theorem pot_w {s s' : Sg} {k p' : Nat} (hk : k < s.j) (e1 : s'.j = s.j) (e2 : s'.mp = s.mp) (e3 : s'.vs = s.vs) (e4 : s'.ph = upd s.ph k p') (hp : s.ph k ≤ 4 ∨ 4 < p')
    (hlt : 2 * (x.len - min s'.c x.len) + wgt p' < 2 * (x.len - min s.c x.len) + wgt (s.ph k)) : x.pot s' < x.pot s := by
  have h1 := cnt_eq hk e1 e4
  have h2 := sumTo_upd s.ph p' wgt hk
  have hv : x.v s' ≤ x.v s := by
    unfold Cx.v
    rw [e1]
    split at h1 <;> split at h1 <;> omega
  have hm : x.mw s' ≤ x.mw s := by
    unfold Cx.mw
    rw [e2, e3]
    split
    · omega
    · split
      · omega
      · omega
  unfold Cx.pot
  rw [e1, e4]
  omega
/-- No worker is at the last steps while another is ahead of them. -/
theorem Cx.ok.early {s : Sg} (h : x.ok s) {k : Nat} (hk : k < s.j) (hp : s.ph k ≤ 4) : (∀ i, i < s.j → s.ph i ≤ 4 ∨ s.ph i = 8) ∧ s.mp ≤ 8 ∧ ((s.mp = 7 ∨ s.mp = 8) → s.lp = 0 ∧ 0 < x.v s) := by
  have h1 : ∀ i, i < s.j → s.ph i ≤ 4 ∨ s.ph i = 8 := fun i hi => by
    have h8 := h.ph8 i hi
    by_cases hc : 5 ≤ s.ph i ∧ s.ph i ≤ 7
    · have := (h.last i hi hc.1 hc.2).2.2 k hk (fun e => by subst e; omega)
      omega
    · omega
  refine ⟨h1, ?_, fun hm => ?_⟩
  · apply Classical.byContradiction
    intro hc
    have := h.fin (by omega) k hk
    omega
  · rcases h.reg hm with y | ⟨y1, y2, i, hi, y3⟩ | ⟨_, y⟩
    · exact y
    · have := h1 i hi; omega
    · have := y k hk; omega
/-- A step ahead of the last steps. -/
theorem Cx.ok.ahead {s s' : Sg} (h : x.ok s) {k p' : Nat} (hk : k < s.j) (hp : s.ph k ≤ 4) (hp' : p' ≤ 4) (e1 : s'.j = s.j) (e2 : s'.mp = s.mp) (e3 : s'.vs = s.vs) (e4 : s'.ph = upd s.ph k p') (e6 : s'.lp = s.lp)
    (hc : s.c ≤ s'.c ∧ s'.c ≤ s.c + 1) (hlate : 2 ≤ p' → x.len ≤ s'.c) (hperm : (s'.bl ++ hands s').Perm (List.range (min s'.c x.len))) (hΦ : x.pot s' < x.pot s) : x.ok s' ∧ x.v s' = x.v s ∧ x.stv s' = x.stv s ∧ smv s' = smv s := by
  obtain ⟨h1, h2, h3⟩ := h.early hk hp
  have hcn := cnt_eq hk e1 e4
  have hv : x.v s' = x.v s := by
    unfold Cx.v
    rw [e1]
    rw [if_pos hp, if_pos hp'] at hcn
    omega
  have hph : ∀ i, i < s.j → s'.ph i ≤ 4 ∨ s'.ph i = 8 := fun i hi => by
    by_cases hik : i = k
    · subst hik; rw [e4, upd_same]; exact .inl hp'
    · rw [e4, upd_ne _ _ hik]; exact h1 i hi
  refine ⟨⟨by rw [e1]; exact h.jn, by rw [e1, e2]; exact h.j0, by rw [e1, e2]; exact h.jN, by rw [e2]; exact h.mp, fun i hi => ?_, fun i hi y => ?_, fun i hi y z => ?_, fun y => ?_, fun y => ?_, fun y => ?_, hperm, ?_⟩, hv, ?_, ?_⟩
  · have := hph i (by omega); omega
  · by_cases hik : i = k
    · subst hik; rw [e4, upd_same] at y; exact hlate y
    · rw [e4, upd_ne _ _ hik] at y; exact Nat.le_trans (h.late i (by omega) y) hc.1
  · have := hph i (by omega); omega
  · rw [e2] at y
    rw [e6, hv]
    exact .inl (h3 y)
  · rw [e2] at y; omega
  · rw [e2] at y
    rw [e3, hv]
    exact h.cas y
  · have := h.big; omega
  · unfold Cx.stv; rw [e2, e6, hv]
  · unfold smv; rw [e2, e6]
theorem only_cell {w : World} {a : Addr} {v : Value} (ha : x.Sh a.block) (hEx : x.Ex w (w.setCell a v)) : x.Only w (w.setCell a v) :=
  ⟨fun _ hb => cell_other w a v fun e => hb (e ▸ ha), cell_size w a v, (aside_setCell w a v).tape, (aside_setCell w a v).os, (aside_setCell w a v).output, hEx⟩
theorem nx_cell {w : World} {c : Nat} (h : x.NxAt w c) : w.cell? x.nxA = some (.int .i64 c) ∧ w.frozen? x.nxA = false := by
  unfold Cx.NxAt at h
  exact ⟨by simp [World.cell?, Cx.nxA, h], by simp [World.frozen?, Cx.nxA, h]⟩
theorem nx_set {w : World} {c : Nat} (h : x.NxAt w c) (c' : Nat) : x.NxAt (w.setCell x.nxA (.int .i64 c')) c' := by
  unfold Cx.NxAt at h ⊢
  rw [Cx.nxA, setCell_eq_setRow w x.Nx 0 _ x.tN (0, 0) _ h, setRow_heap w x.Nx _ _ x.tN _ h]
  simp
variable {tz : Nat} {Sx : Nat → Prop} {s : Sg} {j : Nat} {T : Nat → Th} {q : Nat → Nat} {gs : Array Goroutine} {w : World} {t : Trace} {k : Nat} {g : Goroutine}
theorem wd [Payload] (hG : GI x.P x.m0 tz Sx x.Atm x.Fz x.Sh x.Ex j T q gs w t) (hP : PI x.pro x.Wg x.m0 s j T w t) (hk : k < s.j) (hkd : (T (x.m0 + k)).kind = 0) : (T (x.m0 + k)).d = (if s.ph k ≤ 3 then 0 else 1) ∧ Deaf t (x.m0 + k) = (T (x.m0 + k)).d ∧ (3 ≤ s.ph k → ∃ r, Rlsd x.Wg (x.m0 + k) r t) := by
  have hi : inCrowd x.m0 j (x.m0 + k) := .inr ⟨by omega, by have := hP.cnt; simp only [Cx.pro] at this; omega⟩
  have := (hP.tag (x.m0 + k) hi).2.2.2.2 (by rw [hkd]; decide)
  have hp := hG.pos
  refine ⟨?_, ?_, fun y => hP.rel _ hi ⟨by omega, by rw [show x.m0 + k - x.m0 = k by omega]; exact y⟩⟩
  · rw [this]
    simp only [Cx.pro]
    rw [if_neg (by omega), show x.m0 + k - x.m0 = k by omega]
  · obtain ⟨_, _, _, h⟩ := hG.th _ hi
    exact h
theorem w_take [Payload] (F : x.Fit) (hG : GI x.P x.m0 tz Sx x.Atm x.Fz x.Sh x.Ex j T q gs w t) (hP : PI x.pro x.Wg x.m0 s j T w t) (hk : k < s.j) (hph : s.ph k = 0) (hg : gs[x.m0 + k]? = some g) (hkd : (T (x.m0 + k)).kind = 0)
    (hS : x.AtTake (T (x.m0 + k)).O g w) (sl : Option (Nat × Nat)) : x.Goes tz Sx s gs w t sl (x.m0 + k) := by
  obtain ⟨ok, hwg, hnx, a, r, tm, hch⟩ := hP.wld
  have hbig := ok.big
  have hd : (T (x.m0 + k)).d = 0 := by rw [(wd hG hP hk hkd).1, hph]; rfl
  obtain ⟨g', hst, hnext⟩ := hS s.c (by omega) (nx_cell hnx).1 (nx_cell hnx).2
  have hNs : x.Sh x.nxA.block := .inr (.inl rfl)
  have hwg' : (w.setCell x.nxA (.int .i64 (s.c + 1 : Nat))).heap[x.Wg]? = w.heap[x.Wg]? := cell_other w _ _ F.wn
  have hch' : (w.setCell x.nxA (.int .i64 (s.c + 1 : Nat))).heap[x.Ch]? = w.heap[x.Ch]? := cell_other w _ _ fun e => F.nc e.symm
  have hon : x.Only w (w.setCell x.nxA (.int .i64 (s.c + 1 : Nat))) := only_cell hNs fun ⟨st, sm, y⟩ => ⟨st, sm, hwg'.trans y⟩
  have hNb : x.nxA.block < (w.setCell x.nxA (.int .i64 (s.c + 1 : Nat))).heap.size := by rw [cell_size]; exact (hG.shl _ hNs).1
  have hev : ∀ e ∈ #[rd x.nxA, wr x.nxA], EvN x.Atm x.Fz (fun g b => (T g).O b) (x.m0 + k) (w.setCell x.nxA (.int .i64 (s.c + 1 : Nat))).heap.size e ∧ MemAct.ofEvent e ≠ .mark (.release (sA x.Wg)) := fun e he => by
    have : e = rd x.nxA ∨ e = wr x.nxA := by simpa using he
    rcases this with rfl | rfl
    · exact ⟨evN_rd (.inr rfl) hNb, by simp [MemAct.ofEvent, rd]⟩
    · exact ⟨evN_wr (.inr rfl) hNb, by simp [MemAct.ofEvent, wr]⟩
  obtain ⟨n1, n2⟩ := hnext _ (hon.rly hG _)
  by_cases hc : s.c < x.len
  · have hpt : x.pot { s with c := s.c + 1, ph := upd s.ph k 1, hd := upd s.hd k s.c } < x.pot s := pot_w hk rfl rfl rfl rfl (.inl (by omega)) (by
      simp only [hph, wgt, if_true]; rw [if_neg (by decide)]; omega)
    have hpm : (s.bl ++ hands { s with c := s.c + 1, ph := upd s.ph k 1, hd := upd s.hd k s.c }).Perm (List.range (min (s.c + 1) x.len)) := by
      have h1 : (hands { s with c := s.c + 1, ph := upd s.ph k 1, hd := upd s.hd k s.c }).Perm (s.c :: hands s) := hands_put hk rfl (fun i _ hne => ⟨upd_ne _ _ hne, upd_ne _ _ hne⟩) (by omega) (upd_same _ _ _) (upd_same _ _ _)
      have h2 : min (s.c + 1) x.len = min s.c x.len + 1 := by omega
      have h3 : min s.c x.len = s.c := by omega
      rw [h2, List.range_succ]
      refine (h1.append_left s.bl).trans (List.perm_middle.trans ?_)
      rw [h3]
      have := ok.perm
      rw [h3] at this
      exact (this.cons s.c).trans (List.perm_append_singleton _ _).symm
    obtain ⟨ok', hv, hs1, hs2⟩ := ok.ahead (s' := { s with c := s.c + 1, ph := upd s.ph k 1, hd := upd s.hd k s.c }) hk (by omega) (p' := 1) (by omega) rfl rfl rfl rfl rfl ⟨by simp, Nat.le_refl _⟩ (fun y => by omega) hpm hpt
    refine wstep hG hP hk hg hst hon (s' := { s with c := s.c + 1, ph := upd s.ph k 1, hd := upd s.hd k s.c }) rfl rfl rfl rfl (fun i hi => upd_ne _ _ hi) hpt ⟨ok', by rw [hs1, hs2]; exact hwg'.trans hwg, nx_set hnx _, a, r, tm, hch'.trans hch⟩ hev (.inr fun y => y)
      (th' := ⟨0, false, x.AtSend s.c, (T (x.m0 + k)).O, _, 0, 0⟩) (.inl ⟨rfl, n1 hc, Rly.refl (fun _ h => h) _⟩) rfl ⟨?_, rfl, by simp, by simp, fun _ => rfl⟩ (by rw [hd]; rfl) (fun y => absurd y (by decide)) sl
    unfold Cx.Sw
    simp only [upd_same]
  · have hpt : x.pot { s with c := s.c + 1, ph := upd s.ph k 2 } < x.pot s := pot_w hk rfl rfl rfl rfl (.inl (by omega)) (by
      simp only [hph, wgt, if_true]; rw [if_neg (by decide), if_neg (by decide), if_pos (by decide)]; omega)
    have hpm : (s.bl ++ hands { s with c := s.c + 1, ph := upd s.ph k 2 }).Perm (List.range (min (s.c + 1) x.len)) := by
      have h1 : hands { s with c := s.c + 1, ph := upd s.ph k 2 } = hands s := hands_same rfl fun i _ => ⟨by
        by_cases hik : i = k
        · subst hik; simp only [upd_same, hph]; decide
        · simp only [upd_ne _ _ hik], fun _ => rfl⟩
      rw [h1, show min (s.c + 1) x.len = min s.c x.len by omega]
      exact ok.perm
    obtain ⟨ok', hv, hs1, hs2⟩ := ok.ahead (s' := { s with c := s.c + 1, ph := upd s.ph k 2 }) hk (by omega) (p' := 2) (by omega) rfl rfl rfl rfl rfl ⟨by simp, Nat.le_refl _⟩ (fun _ => by simp only; omega) hpm hpt
    refine wstep hG hP hk hg hst hon (s' := { s with c := s.c + 1, ph := upd s.ph k 2 }) rfl rfl rfl rfl (fun i hi => rfl) hpt ⟨ok', by rw [hs1, hs2]; exact hwg'.trans hwg, nx_set hnx _, a, r, tm, hch'.trans hch⟩ hev (.inr fun y => y)
      (th' := ⟨0, false, x.AtRel, (T (x.m0 + k)).O, _, 0, 0⟩) (.inl ⟨rfl, n2 (by omega), Rly.refl (fun _ h => h) _⟩) rfl ⟨?_, rfl, by simp, by simp, fun _ => rfl⟩ (by rw [hd]; rfl) (fun y => absurd y (by decide)) sl
    unfold Cx.Sw
    simp only [upd_same]
theorem w_send [Payload] (F : x.Fit) (hAT : ∀ O g w, x.AnchT O g w → x.CoW false x.AtTake O g w) (hG : GI x.P x.m0 tz Sx x.Atm x.Fz x.Sh x.Ex j T q gs w t) (hP : PI x.pro x.Wg x.m0 s j T w t) (hk : k < s.j) (hph : s.ph k = 1) (hg : gs[x.m0 + k]? = some g) (hkd : (T (x.m0 + k)).kind = 0)
    (hS : x.AtSend (s.hd k) (T (x.m0 + k)).O g w) (sl : Option (Nat × Nat)) : x.Goes tz Sx s gs w t sl (x.m0 + k) := by
  obtain ⟨ok, hwg, hnx, a, r, tm, hch⟩ := hP.wld
  have hd : (T (x.m0 + k)).d = 0 := by rw [(wd hG hP hk hkd).1, hph]; rfl
  have hp := hG.pos
  have hj : s.j = j := hP.cnt
  have hi : inCrowd x.m0 j (x.m0 + k) := .inr ⟨by omega, by omega⟩
  have hb : (x.m0 + k == 0) = false := by simp; omega
  obtain ⟨g₂, z, hst, hnext⟩ := hS
  have hh : (hands s).Perm (s.hd k :: hands { s with ph := upd s.ph k 0, bl := s.bl ++ [s.hd k] }) := hands_put (s := { s with ph := upd s.ph k 0, bl := s.bl ++ [s.hd k] }) hk rfl (fun i _ hne => ⟨(upd_ne _ _ hne).symm, rfl⟩) (by simp [upd_same]) hph rfl
  have hpm : ((s.bl ++ [s.hd k]) ++ hands { s with ph := upd s.ph k 0, bl := s.bl ++ [s.hd k] }).Perm (List.range (min s.c x.len)) := by
    rw [List.append_assoc]
    exact (hh.symm.append_left s.bl).trans ok.perm
  have hroom : ((s.bl.map x.sight).toArray).size < x.len := by
    have := hpm.length_eq
    simp at this
    simp
    omega
  have hpt : x.pot { s with ph := upd s.ph k 0, bl := s.bl ++ [s.hd k] } < x.pot s := pot_w hk rfl rfl rfl rfl (.inl (by omega)) (by
      simp only [hph, wgt, if_true]; rw [if_neg (by decide)]; omega)
  obtain ⟨ok', hv, hs1, hs2⟩ := ok.ahead (s' := { s with ph := upd s.ph k 0, bl := s.bl ++ [s.hd k] }) hk (by omega) (p' := 0) (by omega) rfl rfl rfl rfl rfl ⟨Nat.le_refl _, Nat.le_succ _⟩ (fun y => by omega) hpm hpt
  have hkeep : ∀ b, b ≠ x.Ch → (w.setChan x.Ch x.len (((s.bl.map x.sight).toArray).push (x.sight (s.hd k))) false (a + 1) r tm).heap[b]? = w.heap[b]? := fun b hb => by
    simp only [World.setChan]
    exact Array.getElem?_setIfInBounds_ne (fun e => hb e.symm)
  have hEx : x.Ex w (w.setChan x.Ch x.len (((s.bl.map x.sight).toArray).push (x.sight (s.hd k))) false (a + 1) r tm) := fun ⟨st, sm, y⟩ => ⟨st, sm, (hkeep _ F.wc).trans y⟩
  have hon : x.Only w (w.setChan x.Ch x.len (((s.bl.map x.sight).toArray).push (x.sight (s.hd k))) false (a + 1) r tm) := ⟨fun b hb => hkeep b fun e => hb (.inr (.inr e)), by simp [World.setChan], rfl, rfl, rfl, hEx⟩
  have hco := (hnext _ (hon.rly hG _)).bind (fun _ h => h) hAT
  obtain ⟨gs', u, f1, f2, f3, f4⟩ := hG.send ex_trans hi (th' := ⟨0, false, x.AtTake, (T (x.m0 + k)).O, w.setChan x.Ch x.len (((s.bl.map x.sight).toArray).push (x.sight (s.hd k))) false (a + 1) r tm, 0, 0⟩) hg (by rw [hb]; exact hst) hch hroom (.inr (.inr rfl)) hEx (.inl ⟨rfl, by rw [hb]; exact hco, Rly.refl (fun _ h => h) _⟩) rfl hd.symm sl
  have eT : (fun k => wakeTh false (T k)) = T := funext fun k => wakeTh_false _
  refine ⟨gs', _, u, f1, { s with ph := upd s.ph k 0, bl := s.bl ++ [s.hd k] }, j, _, q, hpt, f3, ?_⟩
  rw [← eT]
  refine hP.next (i := x.m0 + k) hj (fun i hic hne => ?_) (.inr (.inr fun y => y)) ?_ ⟨ok', ?_, ?_, a + 1, r, tm, ?_⟩ (fun y => ?_) fun op hop => ⟨(f2 op hop).2.1, (f2 op hop).2.2 _⟩
  · by_cases h0 : i = 0
    · subst h0
      exact ⟨rfl, rfl, Iff.rfl.trans (by simp [Cx.pro]), rfl, fun y => absurd rfl y.1⟩
    · have hm : x.m0 ≤ i := by rcases hic with y | y <;> omega
      have hk' : i - x.m0 ≠ k := by omega
      simp only [Cx.pro, if_neg h0, upd_ne _ _ hk']
      refine ⟨?_, trivial, trivial, trivial, fun y => y⟩
      unfold Cx.Sw
      simp only [upd_ne _ _ hk']
  · simp only [Cx.pro, if_neg (show x.m0 + k ≠ 0 by omega), show x.m0 + k - x.m0 = k by omega, upd_same]
    refine ⟨?_, by simp, by simp, fun y => (by cases y), fun _ => rfl⟩
    unfold Cx.Sw
    simp only [upd_same]
  · rw [hs1, hs2]; exact (hkeep _ F.wc).trans hwg
  · exact (hkeep _ F.nc).trans hnx
  · have hlt := (hG.shl x.Ch (.inr (.inr rfl))).1
    simp only [World.setChan, List.map_append, List.map_cons, List.map_nil]
    rw [Array.getElem?_setIfInBounds_self_of_lt hlt]
    simp
  · have := y.2
    rw [show x.m0 + k - x.m0 = k by omega] at this
    simp [upd_same] at this
end
section
variable {x : Cx} {tz : Nat} {Sx : Nat → Prop} {s : Sg} {j : Nat} {T : Nat → Th} {q : Nat → Nat} {gs : Array Goroutine} {w : World} {t : Trace} {k : Nat} {g : Goroutine}
theorem hands_late {s : Sg} {k p lp : Nat} (hk1 : s.ph k ≠ 1) (hp : p ≠ 1) : hands { s with ph := upd s.ph k p, lp := lp } = hands s := hands_same rfl fun i _ => ⟨by
  by_cases hik : i = k
  · subst hik; simp only [upd_same]; exact ⟨fun y => absurd y hp, fun y => absurd y hk1⟩
  · simp only [upd_ne _ _ hik], fun _ => rfl⟩
theorem pot_late {s : Sg} {k p lp : Nat} (hk : k < s.j) (h2 : 2 ≤ s.ph k) (h7 : s.ph k ≤ 7) (hp : s.ph k < p) (hp8 : p ≤ 8) : x.pot { s with ph := upd s.ph k p, lp := lp } < x.pot s := by
  refine pot_w hk rfl rfl rfl rfl (by omega) ?_
  have : wgt p < wgt (s.ph k) := by
    unfold wgt
    repeat' split
    all_goals omega
  simp only
  omega
theorem w_rel [Payload] (F : x.Fit) (hG : GI x.P x.m0 tz Sx x.Atm x.Fz x.Sh x.Ex j T q gs w t) (hP : PI x.pro x.Wg x.m0 s j T w t) (hk : k < s.j) (hph : s.ph k = 2) (hg : gs[x.m0 + k]? = some g) (hkd : (T (x.m0 + k)).kind = 0)
    (hS : x.AtRel (T (x.m0 + k)).O g w) (sl : Option (Nat × Nat)) : x.Goes tz Sx s gs w t sl (x.m0 + k) := by
  obtain ⟨ok, hwg, hnx, hch⟩ := hP.wld
  obtain ⟨hd, hdf, _⟩ := wd hG hP hk hkd
  rw [hph] at hd
  obtain ⟨_, _, g', hst, m, hgo⟩ := hS
  have hW := (hG.shl x.Wg (.inl rfl)).1
  have hpt : x.pot { s with ph := upd s.ph k 3, lp := s.lp } < x.pot s := pot_late hk (by omega) (by omega) (by omega) (by omega)
  obtain ⟨ok', hv, hs1, hs2⟩ := ok.ahead (s' := { s with ph := upd s.ph k 3, lp := s.lp }) hk (by omega) (p' := 3) (by omega) rfl rfl rfl rfl rfl ⟨Nat.le_refl _, Nat.le_succ _⟩ (fun _ => ok.late k hk (by omega)) (by rw [hands_late (by omega) (by omega)]; exact ok.perm) hpt
  refine wstep hG hP hk hg hst (Cx.Only.refl w) (s' := { s with ph := upd s.ph k 3, lp := s.lp }) rfl rfl rfl rfl (fun i hi => rfl) hpt ⟨ok', by rw [hs1, hs2]; exact hwg, hnx, hch⟩ (fun e he => ?_) (.inr fun y => y)
    (th' := ⟨0, true, x.AtK1, (T (x.m0 + k)).O, w, 0, 0⟩) (.inl ⟨rfl, co_lib F.C (fun _ _ y => y.1) hgo, Rly.refl (fun _ h => h) _⟩) rfl ⟨?_, rfl, by simp, by simp, fun _ => rfl⟩ (by rw [hd]; rfl) (fun _ => ⟨t.size, ?_⟩) sl
  · have : e = ConcR.mk (.releaseMerge (stA x.Wg)) := by simpa using he
    subst this
    exact ⟨evN_mk rfl hW, by simp [ConcR.mk, MemAct.ofEvent]⟩
  · unfold Cx.Sw
    simp only [upd_same]
  · have e : MemOp.ofEvents (x.m0 + k) g.frame.fn g.frame.place #[ConcR.mk (.releaseMerge (stA x.Wg))] = #[{ g := x.m0 + k, fn := g.frame.fn, pos := g.frame.place, act := .mark (.releaseMerge (stA x.Wg)) }] := by simp [ofEvents_eq, ConcR.mk, MemAct.ofEvent]
    rw [e]
    exact Rlsd.new rfl rfl (by rw [hdf, hd]; rfl)
theorem w_dis [Payload] (F : x.Fit) (hG : GI x.P x.m0 tz Sx x.Atm x.Fz x.Sh x.Ex j T q gs w t) (hP : PI x.pro x.Wg x.m0 s j T w t) (hk : k < s.j) (hph : s.ph k = 3) (hg : gs[x.m0 + k]? = some g) (hkd : (T (x.m0 + k)).kind = 0)
    (hS : x.AtK1 (T (x.m0 + k)).O g w) (sl : Option (Nat × Nat)) : x.Goes tz Sx s gs w t sl (x.m0 + k) := by
  obtain ⟨ok, hwg, hnx, hch⟩ := hP.wld
  obtain ⟨hd, hdf, hrl⟩ := wd hG hP hk hkd
  rw [hph] at hd
  obtain ⟨_, g', hst, m, hgo⟩ := hS
  have hpt : x.pot { s with ph := upd s.ph k 4, lp := s.lp } < x.pot s := pot_late hk (by omega) (by omega) (by omega) (by omega)
  obtain ⟨ok', hv, hs1, hs2⟩ := ok.ahead (s' := { s with ph := upd s.ph k 4, lp := s.lp }) hk (by omega) (p' := 4) (by omega) rfl rfl rfl rfl rfl ⟨Nat.le_refl _, Nat.le_succ _⟩ (fun _ => ok.late k hk (by omega)) (by rw [hands_late (by omega) (by omega)]; exact ok.perm) hpt
  refine wstep hG hP hk hg hst (Cx.Only.refl w) (s' := { s with ph := upd s.ph k 4, lp := s.lp }) rfl rfl rfl rfl (fun i hi => rfl) hpt ⟨ok', by rw [hs1, hs2]; exact hwg, hnx, hch⟩ (fun e he => ?_) (.inr fun y => y)
    (th' := ⟨0, true, x.AtD1, (T (x.m0 + k)).O, w, 0, 1⟩) (.inl ⟨rfl, co_lib F.C (fun _ _ y => y.1) hgo, Rly.refl (fun _ h => h) _⟩) rfl ⟨?_, rfl, by simp, by simp, fun _ => rfl⟩ (by rw [hd]; rfl) (fun _ => ?_) sl
  · have : e = ConcR.mk .disable := by simpa using he
    subst this
    exact ⟨evN_mk rfl trivial, by simp [ConcR.mk, MemAct.ofEvent]⟩
  · unfold Cx.Sw
    simp only [upd_same]
  · obtain ⟨r, hr⟩ := hrl (by omega)
    exact ⟨r, hr.still fun op hop => by
      obtain ⟨e, he, rfl⟩ := Go.Conc.mem_ofEvents hop
      have : e = ConcR.mk .disable := by simpa using he
      subst this
      rfl⟩
theorem ev_wg (hG : GI x.P x.m0 tz Sx x.Atm x.Fz x.Sh x.Ex j T q gs w t) {i : Nat} {w' : World} (hsz : w'.heap.size = w.heap.size) : ∀ e ∈ #[rd (stA x.Wg), wr (stA x.Wg)], EvN x.Atm x.Fz (fun g b => (T g).O b) i w'.heap.size e ∧ MemAct.ofEvent e ≠ .mark (.release (sA x.Wg)) := fun e he => by
  have hW : (stA x.Wg).block < w'.heap.size := by rw [hsz]; exact (hG.shl x.Wg (.inl rfl)).1
  have : e = rd (stA x.Wg) ∨ e = wr (stA x.Wg) := by simpa using he
  rcases this with rfl | rfl
  · exact ⟨evN_rd (.inl rfl) hW, by simp [MemAct.ofEvent, rd]⟩
  · exact ⟨evN_wr (.inl rfl) hW, by simp [MemAct.ofEvent, wr]⟩
theorem only_st {st sm : Int} (h : WgAt x.ty x.Wg w st sm) (v : Int) : x.Only w (w.setCell (stA x.Wg) (.int .u64 v)) := only_cell (.inl rfl) fun _ => ⟨_, _, h.setSt v⟩
theorem only_sm {st sm : Int} (h : WgAt x.ty x.Wg w st sm) (v : Int) : x.Only w (w.setCell (smA x.Wg) (.int .u32 v)) := only_cell (.inl rfl) fun _ => ⟨_, _, h.setSm v⟩
end
section
variable {x : Cx} {tz : Nat} {Sx : Nat → Prop} {s : Sg} {j : Nat} {T : Nat → Th} {q : Nat → Nat} {gs : Array Goroutine} {w : World} {t : Trace} {k : Nat} {g : Goroutine}
theorem v_dec {p lp : Nat} (hk : k < s.j) (hp : s.ph k ≤ 4) (hp' : 4 < p) : x.v { s with ph := upd s.ph k p, lp := lp } + 1 = x.v s := by
  have := cnt_eq (s' := { s with ph := upd s.ph k p, lp := lp }) hk rfl rfl
  rw [if_pos hp, if_neg (by omega)] at this
  unfold Cx.v
  simp only
  omega
theorem v_le (h : x.ok s) : x.v s ≤ x.n := by
  have := cnt_le s
  have := h.jn
  unfold Cx.v
  omega
theorem ok_dec (h : x.ok s) (hk : k < s.j) (hph : s.ph k = 4) {p lp : Nat}
    (hp : (p = 8 ∧ lp = s.lp ∧ ((s.mp = 7 ∨ s.mp = 8) → 0 < x.v { s with ph := upd s.ph k p, lp := lp })) ∨ (p = 5 ∧ lp = 5 ∧ (s.mp = 7 ∨ s.mp = 8) ∧ x.v { s with ph := upd s.ph k p, lp := lp } = 0)) : x.ok { s with ph := upd s.ph k p, lp := lp } := by
  obtain ⟨h1, h2, h3⟩ := h.early hk (by omega)
  have hv := v_dec (x := x) (lp := lp) hk (by omega) (p := p) (by omega)
  have hpt : x.pot { s with ph := upd s.ph k p, lp := lp } < x.pot s := pot_late hk (by omega) (by omega) (by omega) (by omega)
  refine ⟨h.jn, h.j0, h.jN, h.mp, fun i hi => ?_, fun i hi y => ?_, fun i hi y z => ?_, fun y => ?_, fun y => ?_, fun y => ?_, ?_, ?_⟩
  · by_cases hik : i = k
    · subst hik; simp only [upd_same]; omega
    · simp only [upd_ne _ _ hik]; exact h.ph8 i hi
  · by_cases hik : i = k
    · subst hik; exact h.late i hi (by omega)
    · simp only [upd_ne _ _ hik] at y; exact h.late i hi y
  · by_cases hik : i = k
    · subst hik
      simp only [upd_same] at y z ⊢
      rcases hp with ⟨rfl, _⟩ | ⟨rfl, rfl, hm, hv0⟩
      · omega
      · refine ⟨hm, rfl, fun i' hi' hne => ?_⟩
        have hc : cnt { s with ph := upd s.ph i 5, lp := 5 } = 0 := by unfold Cx.v at hv0; omega
        have := zero_cnt hc i' hi'
        simp only [upd_ne _ _ hne] at this ⊢
        have := h1 i' hi'
        omega
    · simp only [upd_ne _ _ hik] at y z
      have := h1 i hi
      omega
  · rcases hp with ⟨rfl, rfl, hm⟩ | ⟨rfl, rfl, hm, hv0⟩
    · exact .inl ⟨(h3 y).1, hm y⟩
    · exact .inr (.inl ⟨by simp, by simp, k, hk, by simp [upd_same]⟩)
  · simp only at y; omega
  · have := h.cas y
    refine ⟨this.1, ?_⟩
    have h2 := this.2
    simp only at hv ⊢
    omega
  · rw [hands_late (by omega) (by omega)]; exact h.perm
  · have := h.big
    simp only
    omega
theorem w_dec [Payload] (F : x.Fit) (hG : GI x.P x.m0 tz Sx x.Atm x.Fz x.Sh x.Ex j T q gs w t) (hP : PI x.pro x.Wg x.m0 s j T w t) (hk : k < s.j) (hph : s.ph k = 4) (hg : gs[x.m0 + k]? = some g) (hkd : (T (x.m0 + k)).kind = 0)
    (hS : x.AtD1 (T (x.m0 + k)).O g w) (sl : Option (Nat × Nat)) : x.Goes tz Sx s gs w t sl (x.m0 + k) := by
  obtain ⟨ok, hwg, hnx, a, r, tm, hch⟩ := hP.wld
  obtain ⟨hd, hdf, hrl⟩ := wd hG hP hk hkd
  rw [hph] at hd
  obtain ⟨h1, h2, h3⟩ := ok.early hk (by omega)
  have hm4 : 4 ≤ s.mp := Nat.le_of_not_lt fun y => by have := ok.j0 y; omega
  have hvl := v_le ok
  have hn := F.n1
  obtain ⟨r0, hr0⟩ := hrl (by omega)
  have hr : ∀ p, 3 ≤ p → ∃ r, Rlsd x.Wg (x.m0 + k) r (t ++ MemOp.ofEvents (x.m0 + k) g.frame.fn g.frame.place #[rd (stA x.Wg), wr (stA x.Wg)]) := fun _ _ => ⟨r0, hr0.deaf (by rw [hdf, hd]; decide) fun e he => by
    have : e = rd (stA x.Wg) ∨ e = wr (stA x.Wg) := by simpa using he
    rcases this with rfl | rfl
    · exact ⟨rfl, stA x.Wg, rfl, rfl⟩
    · exact ⟨rfl, stA x.Wg, rfl, rfl⟩⟩
  have hnx' : ∀ v, x.NxAt (w.setCell (stA x.Wg) (.int .u64 v)) s.c := fun v => (cell_other w _ _ (Ne.symm F.wn)).trans hnx
  have hch' : ∀ v, (w.setCell (stA x.Wg) (.int .u64 v)).heap[x.Ch]? = some (.chan x.len (s.bl.map x.sight).toArray false a r tm) := fun v => (cell_other w _ _ (Ne.symm F.wc)).trans hch
  by_cases hreg : s.mp = 7 ∨ s.mp = 8
  · obtain ⟨hl0, hv0⟩ := h3 hreg
    have hst0 : x.stv s = x.v s * KK + 1 := by unfold Cx.stv; rw [if_neg (by omega), if_neg (by omega), if_pos (by omega), if_pos hl0]
    have hsm0 : smv s = 0 := by unfold smv; rw [if_neg (by omega)]
    obtain ⟨v', hv'⟩ : ∃ v', x.v s = v' + 1 := ⟨x.v s - 1, by omega⟩
    rw [hst0, hsm0, hv'] at hwg
    obtain ⟨g', hst, hA, hB⟩ := hS.2 v' 1 (Nat.le_refl _) (by omega) (by simpa using hwg)
    by_cases hz : v' = 0
    · subst hz
      obtain ⟨m, hgo⟩ := hA ⟨rfl, rfl⟩
      have hvd := v_dec (x := x) (lp := 5) hk (show s.ph k ≤ 4 by omega) (p := 5) (by omega)
      have hok := ok_dec ok hk hph (p := 5) (lp := 5) (.inr ⟨rfl, rfl, hreg, by omega⟩)
      refine wstep hG hP hk hg hst (only_st hwg _) (s' := { s with ph := upd s.ph k 5, lp := 5 }) rfl rfl rfl rfl (fun i hi => rfl) (pot_late hk (by omega) (by omega) (by omega) (by omega)) ⟨hok, ?_, hnx' _, a, r, tm, hch' _⟩ (ev_wg hG (cell_size _ _ _)) (.inr fun _ => (by simp))
        (th' := ⟨0, true, x.AtD2, (T (x.m0 + k)).O, _, 0, 1⟩) (.inl ⟨rfl, co_lib F.C (fun _ _ y => y.1) hgo, Rly.refl (fun _ h => h) _⟩) rfl ⟨?_, rfl, by simp, by simp, fun _ => rfl⟩ (by rw [hd]; rfl) (hr 5) sl
      · have e1 : x.stv { s with ph := upd s.ph k 5, lp := 5 } = 1 := by unfold Cx.stv; simp only; rw [if_neg (by omega), if_neg (by omega), if_pos (by omega)]; rfl
        have e2 : smv { s with ph := upd s.ph k 5, lp := 5 } = 0 := by unfold smv; simp
        rw [e1, e2]
        have := hwg.setSt (((0 : Nat) : Int) * KK + ((1 : Nat) : Int))
        simpa using this
      · unfold Cx.Sw
        simp only [upd_same]
    · obtain ⟨qn, hq⟩ := hB fun y => hz y.1
      have hvd := v_dec (x := x) (lp := s.lp) hk (show s.ph k ≤ 4 by omega) (p := 8) (by omega)
      have hok := ok_dec ok hk hph (p := 8) (lp := s.lp) (.inl ⟨rfl, rfl, fun _ => by omega⟩)
      refine wstep hG hP hk hg hst (only_st hwg _) (s' := { s with ph := upd s.ph k 8, lp := s.lp }) rfl rfl rfl rfl (fun i hi => rfl) (pot_late hk (by omega) (by omega) (by omega) (by omega)) ⟨hok, ?_, hnx' _, a, r, tm, hch' _⟩ (ev_wg hG (cell_size _ _ _)) (.inr fun y => y)
        (th' := ⟨1, true, x.AtD4, (T (x.m0 + k)).O, w, qn, 1⟩) (.inr (.inl ⟨rfl, rfl, hq⟩)) rfl ⟨?_, rfl, by simp, by simp, fun y => absurd rfl y⟩ (by rw [hd]; rfl) (hr 8) sl
      · have e1 : x.stv { s with ph := upd s.ph k 8, lp := s.lp } = (v' : Int) * KK + ((1 : Nat) : Int) := by
          unfold Cx.stv
          simp only
          rw [if_neg (by omega), if_neg (by omega), if_pos (by omega), if_pos hl0]
          have : x.v { s with ph := upd s.ph k 8, lp := s.lp } = v' := by omega
          rw [this]
          rfl
        have e2 : smv { s with ph := upd s.ph k 8, lp := s.lp } = 0 := hsm0
        rw [e1, e2]
        exact hwg.setSt _
      · unfold Cx.Sw
        simp only [upd_same]
  · have hst0 : x.stv s = x.v s * KK := by unfold Cx.stv; rw [if_neg (by omega), if_pos (by omega)]
    have hsm0 : smv s = 0 := by unfold smv; rw [if_neg (by omega)]
    have hvd := v_dec (x := x) (lp := s.lp) hk (show s.ph k ≤ 4 by omega) (p := 8) (by omega)
    obtain ⟨v', hv'⟩ : ∃ v', x.v s = v' + 1 := ⟨x.v s - 1, by omega⟩
    rw [hst0, hsm0, hv'] at hwg
    obtain ⟨g', hst, _, hB⟩ := hS.2 v' 0 (by omega) (by omega) (by simpa using hwg)
    obtain ⟨qn, hq⟩ := hB fun y => absurd y.2 (by decide)
    have hok := ok_dec ok hk hph (p := 8) (lp := s.lp) (.inl ⟨rfl, rfl, fun y => absurd y hreg⟩)
    refine wstep hG hP hk hg hst (only_st hwg _) (s' := { s with ph := upd s.ph k 8, lp := s.lp }) rfl rfl rfl rfl (fun i hi => rfl) (pot_late hk (by omega) (by omega) (by omega) (by omega)) ⟨hok, ?_, hnx' _, a, r, tm, hch' _⟩ (ev_wg hG (cell_size _ _ _)) (.inr fun y => y)
      (th' := ⟨1, true, x.AtD4, (T (x.m0 + k)).O, w, qn, 1⟩) (.inr (.inl ⟨rfl, rfl, hq⟩)) rfl ⟨?_, rfl, by simp, by simp, fun y => absurd rfl y⟩ (by rw [hd]; rfl) (hr 8) sl
    · have e1 : x.stv { s with ph := upd s.ph k 8, lp := s.lp } = (v' : Int) * KK + ((0 : Nat) : Int) := by
        unfold Cx.stv
        simp only
        rw [if_neg (by omega), if_pos (by omega)]
        have : x.v { s with ph := upd s.ph k 8, lp := s.lp } = v' := by omega
        rw [this]
        simp
      have e2 : smv { s with ph := upd s.ph k 8, lp := s.lp } = 0 := hsm0
      rw [e1, e2]
      exact hwg.setSt _
    · unfold Cx.Sw
      simp only [upd_same]
end
section
variable {x : Cx} {tz : Nat} {Sx : Nat → Prop} {s : Sg} {j : Nat} {T : Nat → Th} {q : Nat → Nat} {gs : Array Goroutine} {w : World} {t : Trace} {k : Nat} {g : Goroutine}
theorem mem_rd {a : Addr} {e : Event} (h : e ∈ #[rd a]) : e ∈ #[rd a, wr a] := by
  have : e = rd a := by simpa using h
  simp [this]
theorem mem_wr {a : Addr} {e : Event} (h : e ∈ #[wr a]) : e ∈ #[rd a, wr a] := by
  have : e = wr a := by simpa using h
  simp [this]
theorem ok_last (h : x.ok s) (hk : k < s.j) {p : Nat} (h5 : 5 ≤ s.ph k) (hp : p = s.ph k + 1) (hp8 : p ≤ 8) : x.ok { s with ph := upd s.ph k p, lp := p } := by
  obtain ⟨hm, hl, ho⟩ := h.last k hk h5 (by omega)
  have hpt : x.pot { s with ph := upd s.ph k p, lp := p } < x.pot s := pot_late hk (by omega) (by omega) (by omega) (by omega)
  refine ⟨h.jn, h.j0, h.jN, h.mp, fun i hi => ?_, fun i hi y => ?_, fun i hi y z => ?_, fun y => ?_, fun y => ?_, fun y => ?_, ?_, ?_⟩
  · by_cases hik : i = k
    · subst hik; simp only [upd_same]; omega
    · simp only [upd_ne _ _ hik]; exact h.ph8 i hi
  · by_cases hik : i = k
    · subst hik; exact h.late i hi (by omega)
    · simp only [upd_ne _ _ hik] at y; exact h.late i hi y
  · by_cases hik : i = k
    · subst hik
      simp only [upd_same] at y z ⊢
      refine ⟨hm, trivial, fun i' hi' hne => ?_⟩
      simp only [upd_ne _ _ hne]
      exact ho i' hi' hne
    · simp only [upd_ne _ _ hik] at y z
      have := ho i hi hik
      omega
  · by_cases h8 : p = 8
    · refine .inr (.inr ⟨h8, fun i hi => ?_⟩)
      by_cases hik : i = k
      · subst hik; simp only [upd_same]; exact h8
      · simp only [upd_ne _ _ hik]; exact ho i hi hik
    · exact .inr (.inl ⟨by simp only; omega, by simp only; omega, k, hk, by simp [upd_same]⟩)
  · simp only at y; omega
  · simp only at y; omega
  · rw [hands_late (by omega) (by omega)]; exact h.perm
  · have := h.big
    simp only
    omega
theorem w_d2 [Payload] (F : x.Fit) (hG : GI x.P x.m0 tz Sx x.Atm x.Fz x.Sh x.Ex j T q gs w t) (hP : PI x.pro x.Wg x.m0 s j T w t) (hk : k < s.j) (hph : s.ph k = 5) (hg : gs[x.m0 + k]? = some g) (hkd : (T (x.m0 + k)).kind = 0)
    (hS : x.AtD2 (T (x.m0 + k)).O g w) (sl : Option (Nat × Nat)) : x.Goes tz Sx s gs w t sl (x.m0 + k) := by
  obtain ⟨ok, hwg, hnx, a, r, tm, hch⟩ := hP.wld
  obtain ⟨hd, hdf, hrl⟩ := wd hG hP hk hkd
  rw [hph] at hd
  obtain ⟨hm, hl, ho⟩ := ok.last k hk (by omega) (by omega)
  have hst0 : x.stv s = 1 := by unfold Cx.stv; rw [if_neg (by omega), if_neg (by omega), if_pos (by omega), if_neg (by omega), if_pos (by omega)]
  have hsm0 : smv s = 0 := by unfold smv; rw [if_neg (by omega)]
  rw [hst0, hsm0] at hwg
  obtain ⟨g', hst, m, hgo⟩ := hS.2 hwg
  obtain ⟨r0, hr0⟩ := hrl (by omega)
  have hev := ev_wg hG (i := x.m0 + k) (w' := w) rfl
  refine wstep hG hP hk hg hst (Cx.Only.refl w) (s' := { s with ph := upd s.ph k 6, lp := 6 }) rfl rfl rfl rfl (fun i hi => rfl) (pot_late hk (by omega) (by omega) (by omega) (by omega)) ⟨ok_last ok hk (by omega) (by omega) (by omega), ?_, hnx, a, r, tm, hch⟩ (fun e he => hev e (mem_rd he)) (.inr fun _ => (by simp))
    (th' := ⟨0, true, x.AtD3, (T (x.m0 + k)).O, w, 0, 1⟩) (.inl ⟨rfl, co_lib F.C (fun _ _ y => y.1) hgo, Rly.refl (fun _ h => h) _⟩) rfl ⟨?_, rfl, by simp, by simp, fun _ => rfl⟩ (by rw [hd]; rfl) (fun _ => ⟨r0, hr0.deaf (by rw [hdf, hd]; decide) fun e he => ?_⟩) sl
  · have e1 : x.stv { s with ph := upd s.ph k 6, lp := 6 } = 1 := by unfold Cx.stv; simp only; rw [if_neg (by omega), if_neg (by omega), if_pos (by omega)]; rfl
    have e2 : smv { s with ph := upd s.ph k 6, lp := 6 } = 0 := by unfold smv; simp
    rw [e1, e2]; exact hwg
  · unfold Cx.Sw
    simp only [upd_same]
  · have : e = rd (stA x.Wg) := by simpa using he
    subst this
    exact ⟨rfl, stA x.Wg, rfl, rfl⟩
theorem w_d3 [Payload] (F : x.Fit) (hG : GI x.P x.m0 tz Sx x.Atm x.Fz x.Sh x.Ex j T q gs w t) (hP : PI x.pro x.Wg x.m0 s j T w t) (hk : k < s.j) (hph : s.ph k = 6) (hg : gs[x.m0 + k]? = some g) (hkd : (T (x.m0 + k)).kind = 0)
    (hS : x.AtD3 (T (x.m0 + k)).O g w) (sl : Option (Nat × Nat)) : x.Goes tz Sx s gs w t sl (x.m0 + k) := by
  obtain ⟨ok, hwg, hnx, a, r, tm, hch⟩ := hP.wld
  obtain ⟨hd, hdf, hrl⟩ := wd hG hP hk hkd
  rw [hph] at hd
  obtain ⟨hm, hl, ho⟩ := ok.last k hk (by omega) (by omega)
  have hst0 : x.stv s = 1 := by unfold Cx.stv; rw [if_neg (by omega), if_neg (by omega), if_pos (by omega), if_neg (by omega), if_pos (by omega)]
  have hsm0 : smv s = 0 := by unfold smv; rw [if_neg (by omega)]
  rw [hst0, hsm0] at hwg
  obtain ⟨g', hst, m, hgo⟩ := hS.2 hwg
  obtain ⟨r0, hr0⟩ := hrl (by omega)
  have hev := ev_wg hG (i := x.m0 + k) (w' := w.setCell (stA x.Wg) (.int .u64 0)) (cell_size _ _ _)
  refine wstep hG hP hk hg hst (only_st hwg _) (s' := { s with ph := upd s.ph k 7, lp := 7 }) rfl rfl rfl rfl (fun i hi => rfl) (pot_late hk (by omega) (by omega) (by omega) (by omega)) ⟨ok_last ok hk (by omega) (by omega) (by omega), ?_, (cell_other w _ _ (Ne.symm F.wn)).trans hnx, a, r, tm, (cell_other w _ _ (Ne.symm F.wc)).trans hch⟩ (fun e he => hev e (mem_wr he)) (.inr fun _ => (by simp))
    (th' := ⟨0, true, x.AtD4, (T (x.m0 + k)).O, _, 0, 1⟩) (.inl ⟨rfl, co_lib F.C (fun _ _ y => y.1) hgo, Rly.refl (fun _ h => h) _⟩) rfl ⟨?_, rfl, by simp, by simp, fun _ => rfl⟩ (by rw [hd]; rfl) (fun _ => ⟨r0, hr0.deaf (by rw [hdf, hd]; decide) fun e he => ?_⟩) sl
  · have e1 : x.stv { s with ph := upd s.ph k 7, lp := 7 } = 0 := by unfold Cx.stv; simp only; rw [if_neg (by omega), if_neg (by omega), if_pos (by omega)]; rfl
    have e2 : smv { s with ph := upd s.ph k 7, lp := 7 } = 0 := by unfold smv; simp
    rw [e1, e2]; exact hwg.setSt 0
  · unfold Cx.Sw
    simp only [upd_same]
  · have : e = wr (stA x.Wg) := by simpa using he
    subst this
    exact ⟨rfl, stA x.Wg, rfl, rfl⟩
theorem w_d4 [Payload] (F : x.Fit) (hG : GI x.P x.m0 tz Sx x.Atm x.Fz x.Sh x.Ex j T q gs w t) (hP : PI x.pro x.Wg x.m0 s j T w t) (hk : k < s.j) (hph : s.ph k = 7) (hg : gs[x.m0 + k]? = some g) (hkd : (T (x.m0 + k)).kind = 0)
    (hS : x.AtD4 (T (x.m0 + k)).O g w) (sl : Option (Nat × Nat)) : x.Goes tz Sx s gs w t sl (x.m0 + k) := by
  obtain ⟨ok, hwg, hnx, a, r, tm, hch⟩ := hP.wld
  obtain ⟨hd, hdf, hrl⟩ := wd hG hP hk hkd
  rw [hph] at hd
  obtain ⟨hm, hl, ho⟩ := ok.last k hk (by omega) (by omega)
  have hst0 : x.stv s = 0 := by unfold Cx.stv; rw [if_neg (by omega), if_neg (by omega), if_pos (by omega), if_neg (by omega), if_neg (by omega)]
  have hsm0 : smv s = 0 := by unfold smv; rw [if_neg (by omega)]
  rw [hst0, hsm0] at hwg
  obtain ⟨_, hmay, hgo⟩ := hS
  obtain ⟨g', hst, qn, hq⟩ := hgo hwg
  obtain ⟨r0, hr0⟩ := hrl (by omega)
  have hW : (smA x.Wg).block < (w.setCell (smA x.Wg) (.int .u32 1)).heap.size := by rw [cell_size]; exact (hG.shl x.Wg (.inl rfl)).1
  have hwk : wk x.P g g' = true := by
    unfold wk
    rw [hmay]
    rcases hq.status with y | y <;> rw [y] <;> rfl
  refine wstep hG hP hk hg hst (only_sm hwg _) (s' := { s with ph := upd s.ph k 8, lp := 8 }) rfl rfl rfl rfl (fun i hi => rfl) (pot_late hk (by omega) (by omega) (by omega) (by omega)) ⟨ok_last ok hk (by omega) (by omega) (by omega), ?_, (cell_other w _ _ (Ne.symm F.wn)).trans hnx, a, r, tm, (cell_other w _ _ (Ne.symm F.wc)).trans hch⟩ (fun e he => ⟨evN_sem (.inl rfl) hW e he, ?_⟩) (.inl hwk)
    (th' := ⟨1, true, x.AtD4, (T (x.m0 + k)).O, w, qn, 1⟩) (.inr (.inl ⟨rfl, rfl, hq⟩)) rfl ⟨?_, rfl, by simp, by simp, fun y => absurd rfl y⟩ (by rw [hd]; rfl) (fun _ => ⟨r0, hr0.sem⟩) sl
  · have e1 : x.stv { s with ph := upd s.ph k 8, lp := 8 } = 0 := by unfold Cx.stv; simp only; rw [if_neg (by omega), if_neg (by omega), if_pos (by omega)]; rfl
    have e2 : smv { s with ph := upd s.ph k 8, lp := 8 } = 1 := by unfold smv; simp only; rw [if_pos ⟨hm, trivial⟩]
    rw [e1, e2]; exact hwg.setSm 1
  · have : e = ConcR.mk .disable ∨ e = rd (smA x.Wg) ∨ e = wr (smA x.Wg) ∨ e = ConcR.mk .enable := by simpa [semEvents, ConcR.mk, rd, wr] using he
    rcases this with rfl | rfl | rfl | rfl <;> simp [MemAct.ofEvent, ConcR.mk, rd, wr]
  · unfold Cx.Sw
    simp only [upd_same]
end
section
variable {x : Cx} {tz : Nat} {Sx : Nat → Prop} {s : Sg} {j : Nat} {T : Nat → Th} {q : Nat → Nat} {gs : Array Goroutine} {w : World} {t : Trace} {g : Goroutine}
theorem pot_m {m vs lp : Nat} (h : x.mw { s with mp := m, vs := vs, lp := lp } < x.mw s) : x.pot { s with mp := m, vs := vs, lp := lp } < x.pot s := by
  unfold Cx.pot
  simp only
  omega
theorem ok_m (h : x.ok s) {m vs lp : Nat} (a1 : m < 4 → s.j = 0) (a2 : 4 < m → s.j = x.n) (a3 : m ≤ 11)
    (a4 : ∀ i, i < s.j → 5 ≤ s.ph i → s.ph i ≤ 7 → (m = 7 ∨ m = 8) ∧ lp = s.ph i)
    (a5 : (m = 7 ∨ m = 8) → (lp = 0 ∧ 0 < x.v s) ∨ (5 ≤ lp ∧ lp ≤ 7 ∧ ∃ i, i < s.j ∧ s.ph i = lp) ∨ (lp = 8 ∧ ∀ i, i < s.j → s.ph i = 8))
    (a6 : 9 ≤ m → ∀ i, i < s.j → s.ph i = 8) (a7 : m = 6 → 1 ≤ vs ∧ x.v s ≤ vs) (hw : x.mw { s with mp := m, vs := vs, lp := lp } < x.mw s) : x.ok { s with mp := m, vs := vs, lp := lp } :=
  ⟨h.jn, a1, a2, a3, h.ph8, h.late, fun i hi y z => ⟨(a4 i hi y z).1, (a4 i hi y z).2, (h.last i hi y z).2.2⟩, a5, a6, a7, h.perm, by
    have := pot_m hw
    have := h.big
    simp only
    omega⟩
/-- Where nobody waits, nobody is at the last steps. -/
theorem none_last (h : x.ok s) (hm : s.mp ≠ 7 ∧ s.mp ≠ 8) : ∀ i, i < s.j → 5 ≤ s.ph i → s.ph i ≤ 7 → False := fun i hi y z => by
  have := (h.last i hi y z).1
  omega
theorem ev_one {m : Mark} {B : Nat} (h1 : (MemAct.mark m).touch? = none) (h2 : (MemAct.mark m).low B) (h3 : m ≠ .release (sA x.Wg)) : ∀ e ∈ #[ConcR.mk m], EvN x.Atm x.Fz (fun g b => (T g).O b) 0 B e ∧ MemAct.ofEvent e ≠ .mark (.release (sA x.Wg)) := fun e he => by
  have : e = ConcR.mk m := by simpa using he
  subst this
  exact ⟨evN_mk h1 h2, fun y => h3 (by injection y)⟩
theorem ev_say {m : Mark} {a : Addr} {B : Nat} (hm : m = .read a ∨ m = .write a) (ha : a.block = x.Wg) (hb : x.Wg < B) : ∀ e ∈ #[ConcR.mk m], EvN x.Atm x.Fz (fun g b => (T g).O b) 0 B e ∧ MemAct.ofEvent e ≠ .mark (.release (sA x.Wg)) := fun e he => by
  have : e = ConcR.mk m := by simpa using he
  subst this
  exact ⟨evN_said hm (.inl ha) (ha ▸ hb), fun y => by
    have : m = .release (sA x.Wg) := by injection y
    rcases hm with z | z <;> rw [z] at this <;> cases this⟩
/-- A word of the detector's: the world stands. -/
theorem m_mk [Payload] (hG : GI x.P x.m0 tz Sx x.Atm x.Fz x.Sh x.Ex j T q gs w t) (hP : PI x.pro x.Wg x.m0 s j T w t) (hg : gs[0]? = some g) (hk0 : (T 0).kind = 0) {mk : Mark} {S : (Nat → Prop) → Goroutine → World → Prop} (hS : x.AtMk mk S (T 0).O g w) {m vs lp : Nat}
    (hok : x.ok { s with mp := m, vs := vs, lp := lp }) (hst : x.stv { s with mp := m, vs := vs, lp := lp } = x.stv s) (hsm : smv { s with mp := m, vs := vs, lp := lp } = smv s) (hw : x.mw { s with mp := m, vs := vs, lp := lp } < x.mw s)
    (hev : ∀ e ∈ #[ConcR.mk mk], EvN x.Atm x.Fz (fun g b => (T g).O b) 0 w.heap.size e ∧ MemAct.ofEvent e ≠ .mark (.release (sA x.Wg))) (hSm : ∀ O g w, x.CoM S O g w → x.CoM (x.Sm { s with mp := m, vs := vs, lp := lp }) O g w)
    (hd : deafBehind (if s.mp = 0 ∨ s.mp = 4 ∨ s.mp = 11 then 0 else 1) #[ConcR.mk mk] = if m = 0 ∨ m = 4 ∨ m = 11 then 0 else 1) (sl : Option (Nat × Nat)) : x.Goes tz Sx s gs w t sl 0 := by
  obtain ⟨_, hwg, hnx, hch⟩ := hP.wld
  obtain ⟨g', hstp, hco⟩ := hS
  exact mstep hG hP hg hk0 hstp (Cx.Only.refl w) (s' := { s with mp := m, vs := vs, lp := lp }) rfl rfl rfl (pot_m hw) ⟨hok, by rw [hst, hsm]; exact hwg, hnx, hch⟩ hev (fun w' r => hSm _ _ _ (hco w' r)) hd sl
theorem v_m {m vs lp : Nat} : x.v { s with mp := m, vs := vs, lp := lp } = x.v s := rfl
theorem m_add [Payload] (F : x.Fit) (hG : GI x.P x.m0 tz Sx x.Atm x.Fz x.Sh x.Ex j T q gs w t) (hP : PI x.pro x.Wg x.m0 s j T w t) (hg : gs[0]? = some g) (hk0 : (T 0).kind = 0) (hm : s.mp = 1) (hS : x.AtAa (T 0).O g w) (sl : Option (Nat × Nat)) : x.Goes tz Sx s gs w t sl 0 := by
  obtain ⟨ok, hwg, hnx, a, r, tm, hch⟩ := hP.wld
  have hj := ok.j0 (by omega)
  have e0 : x.stv s = 0 := by unfold Cx.stv; rw [if_pos (by omega)]
  have e1 : smv s = 0 := by unfold smv; rw [if_neg (by omega)]
  have hv : x.v s = x.n := by unfold Cx.v cnt; rw [hj]; simp [sumTo]
  rw [e0, e1] at hwg
  obtain ⟨g', hst, hco⟩ := hS hwg
  have hmw : x.mw { s with mp := 2, vs := s.vs, lp := s.lp } < x.mw s := by unfold Cx.mw; simp only [hm]; simp
  refine mstep hG hP hg hk0 hst (only_st hwg _) (s' := { s with mp := 2, vs := s.vs, lp := s.lp }) rfl rfl rfl (pot_m hmw) ⟨ok_m ok (fun _ => hj) (fun y => by omega) (by omega) (fun i hi => by omega) (fun y => by omega) (fun y => by omega) (fun y => by omega) hmw, ?_, (cell_other w _ _ (Ne.symm F.wn)).trans hnx, a, r, tm, (cell_other w _ _ (Ne.symm F.wc)).trans hch⟩ (ev_wg hG (cell_size _ _ _)) hco (by simp only [hm]; rfl) sl
  have e2 : x.stv { s with mp := 2, vs := s.vs, lp := s.lp } = x.n * KK := by unfold Cx.stv; simp only [v_m, hv]; rfl
  have e3 : smv { s with mp := 2, vs := s.vs, lp := s.lp } = 0 := by unfold smv; simp
  rw [e2, e3]
  exact hwg.setSt _
theorem m_load [Payload] (F : x.Fit) (hG : GI x.P x.m0 tz Sx x.Atm x.Fz x.Sh x.Ex j T q gs w t) (hP : PI x.pro x.Wg x.m0 s j T w t) (hg : gs[0]? = some g) (hk0 : (T 0).kind = 0) (hm : s.mp = 5) (hS : x.AtW1 (T 0).O g w) (sl : Option (Nat × Nat)) : x.Goes tz Sx s gs w t sl 0 := by
  obtain ⟨ok, hwg, hnx, hch⟩ := hP.wld
  have e0 : x.stv s = x.v s * KK := by unfold Cx.stv; rw [if_neg (by omega), if_pos (by omega)]
  have e1 : smv s = 0 := by unfold smv; rw [if_neg (by omega)]
  have hvl := v_le ok
  have hn := F.n1
  rw [e0, e1] at hwg
  obtain ⟨g', hst, hco⟩ := hS (x.v s) (by omega) hwg
  have hev := ev_wg hG (i := 0) (w' := w) rfl
  have hno := none_last ok (by omega)
  have hj := ok.jN (by omega)
  by_cases hv : x.v s = 0
  · have hmw : x.mw { s with mp := 10, vs := s.vs, lp := s.lp } < x.mw s := by unfold Cx.mw; simp only [hm]; simp
    have h8 : ∀ i, i < s.j → s.ph i = 8 := fun i hi => by
      have hc : cnt s = 0 := by unfold Cx.v at hv; omega
      have h5 := zero_cnt hc i hi
      have h8 := ok.ph8 i hi
      exact Classical.byContradiction fun hne => hno i hi h5 (by omega)
    refine mstep hG hP hg hk0 hst (Cx.Only.refl w) (s' := { s with mp := 10, vs := s.vs, lp := s.lp }) rfl rfl rfl (pot_m hmw) ⟨ok_m ok (fun y => by omega) (fun _ => hj) (by omega) (fun i hi y z => (hno i hi y z).elim) (fun y => by omega) (fun _ => h8) (fun y => by omega) hmw, ?_, hnx, hch⟩ (fun e he => hev e (mem_rd he)) (fun w' r => (hco w' r).1 hv) (by simp only [hm]; rfl) sl
    have e2 : x.stv { s with mp := 10, vs := s.vs, lp := s.lp } = 0 := by unfold Cx.stv; simp
    have e3 : smv { s with mp := 10, vs := s.vs, lp := s.lp } = 0 := by unfold smv; simp
    rw [e2, e3]
    rw [hv] at hwg
    simpa using hwg
  · have hmw : x.mw { s with mp := 6, vs := x.v s, lp := s.lp } < x.mw s := by unfold Cx.mw; simp only [hm]; simp
    refine mstep hG hP hg hk0 hst (Cx.Only.refl w) (s' := { s with mp := 6, vs := x.v s, lp := s.lp }) rfl rfl rfl (pot_m hmw) ⟨ok_m ok (fun y => by omega) (fun _ => hj) (by omega) (fun i hi y z => (hno i hi y z).elim) (fun y => by omega) (fun y => by omega) (fun _ => ⟨by omega, Nat.le_refl _⟩) hmw, ?_, hnx, hch⟩ (fun e he => hev e (mem_rd he)) (fun w' r => (hco w' r).2 hv) (by simp only [hm]; rfl) sl
    have e2 : x.stv { s with mp := 6, vs := x.v s, lp := s.lp } = x.v s * KK := by unfold Cx.stv; simp only [v_m]; rfl
    have e3 : smv { s with mp := 6, vs := x.v s, lp := s.lp } = 0 := by unfold smv; simp
    rw [e2, e3]
    exact hwg
theorem m_cas [Payload] (F : x.Fit) (hAW : ∀ O g w, x.AnchW O g w → x.CoM x.AtW1 O g w) (hG : GI x.P x.m0 tz Sx x.Atm x.Fz x.Sh x.Ex j T q gs w t) (hP : PI x.pro x.Wg x.m0 s j T w t) (hg : gs[0]? = some g) (hk0 : (T 0).kind = 0) (hm : s.mp = 6) (hS : x.AtW2 s.vs (T 0).O g w) (sl : Option (Nat × Nat)) : x.Goes tz Sx s gs w t sl 0 := by
  obtain ⟨ok, hwg, hnx, a, r, tm, hch⟩ := hP.wld
  have e0 : x.stv s = x.v s * KK := by unfold Cx.stv; rw [if_neg (by omega), if_pos (by omega)]
  have e1 : smv s = 0 := by unfold smv; rw [if_neg (by omega)]
  have hvl := v_le ok
  have hn := F.n1
  rw [e0, e1] at hwg
  have hno := none_last ok (by omega)
  have hj := ok.jN (by omega)
  have hcas := ok.cas hm
  obtain ⟨hA, hB⟩ := hS (x.v s) (by omega) hwg
  by_cases hv : x.v s = s.vs
  · obtain ⟨g', hst, hco⟩ := hA hv
    have hmw : x.mw { s with mp := 7, vs := s.vs, lp := 0 } < x.mw s := by unfold Cx.mw; simp only [hm]; simp; omega
    refine mstep hG hP hg hk0 hst (only_st hwg _) (s' := { s with mp := 7, vs := s.vs, lp := 0 }) rfl rfl rfl (pot_m hmw) ⟨ok_m ok (fun y => by omega) (fun _ => hj) (by omega) (fun i hi y z => (hno i hi y z).elim) (fun _ => .inl ⟨rfl, by omega⟩) (fun y => by omega) (fun y => by omega) hmw, ?_, (cell_other w _ _ (Ne.symm F.wn)).trans hnx, a, r, tm, (cell_other w _ _ (Ne.symm F.wc)).trans hch⟩ (ev_wg hG (cell_size _ _ _)) hco (by simp only [hm]; rfl) sl
    have e2 : x.stv { s with mp := 7, vs := s.vs, lp := 0 } = x.v s * KK + 1 := by unfold Cx.stv; simp only [v_m]; rfl
    have e3 : smv { s with mp := 7, vs := s.vs, lp := 0 } = 0 := by unfold smv; simp
    rw [e2, e3]
    exact hwg.setSt _
  · obtain ⟨g', hst, hco⟩ := hB hv
    have hev := ev_wg hG (i := 0) (w' := w) rfl
    have hmw : x.mw { s with mp := 5, vs := s.vs, lp := s.lp } < x.mw s := by unfold Cx.mw; simp only [hm, v_m]; simp; omega
    refine mstep hG hP hg hk0 hst (Cx.Only.refl w) (s' := { s with mp := 5, vs := s.vs, lp := s.lp }) rfl rfl rfl (pot_m hmw) ⟨ok_m ok (fun y => by omega) (fun _ => hj) (by omega) (fun i hi y z => (hno i hi y z).elim) (fun y => by omega) (fun y => by omega) (fun y => by omega) hmw, ?_, hnx, a, r, tm, hch⟩ (fun e he => hev e (mem_rd he)) (fun w' r => (hco w' r).bind (fun _ h => h) hAW) (by simp only [hm]; rfl) sl
    have e2 : x.stv { s with mp := 5, vs := s.vs, lp := s.lp } = x.v s * KK := by unfold Cx.stv; simp only [v_m]; rfl
    have e3 : smv { s with mp := 5, vs := s.vs, lp := s.lp } = 0 := by unfold smv; simp
    rw [e2, e3]
    exact hwg
theorem m_sem [Payload] (F : x.Fit) (hG : GI x.P x.m0 tz Sx x.Atm x.Fz x.Sh x.Ex j T q gs w t) (hP : PI x.pro x.Wg x.m0 s j T w t) (hg : gs[0]? = some g) (hk0 : (T 0).kind = 0) (hm : s.mp = 8) (hS : x.AtW3 (T 0).O g w) (sl : Option (Nat × Nat)) :
    (stepG x.P true g w = .go { g with status := .blocked } w #[] ∧ g.offers = none ∧ x.pro.slp s) ∨ x.Goes tz Sx s gs w t sl 0 := by
  obtain ⟨ok, hwg, hnx, a, r, tm, hch⟩ := hP.wld
  obtain ⟨ho, hA, hB⟩ := hS
  by_cases h8 : s.lp = 8
  · have e0 : x.stv s = 0 := by unfold Cx.stv; rw [if_neg (by omega), if_neg (by omega), if_pos (by omega), if_neg (by omega), if_neg (by omega)]
    have e1 : smv s = 1 := by unfold smv; rw [if_pos ⟨.inr hm, h8⟩]
    rw [e0, e1] at hwg
    obtain ⟨g', hst, hco⟩ := hB hwg
    have hj := ok.jN (by omega)
    have hall : ∀ i, i < s.j → s.ph i = 8 := by
      rcases ok.reg (.inr hm) with y | y | y
      · omega
      · omega
      · exact y.2
    have hmw : x.mw { s with mp := 9, vs := s.vs, lp := s.lp } < x.mw s := by unfold Cx.mw; simp only [hm]; simp
    have hW : (smA x.Wg).block < (w.setCell (smA x.Wg) (.int .u32 0)).heap.size := by rw [cell_size]; exact (hG.shl x.Wg (.inl rfl)).1
    refine .inr (mstep hG hP hg hk0 hst (only_sm hwg _) (s' := { s with mp := 9, vs := s.vs, lp := s.lp }) rfl rfl rfl (pot_m hmw) ⟨ok_m ok (fun y => by omega) (fun _ => hj) (by omega) (fun i hi y z => by have := hall i hi; omega) (fun y => by omega) (fun _ => hall) (fun y => by omega) hmw, ?_, (cell_other w _ _ (Ne.symm F.wn)).trans hnx, a, r, tm, (cell_other w _ _ (Ne.symm F.wc)).trans hch⟩ (fun e he => ⟨evN_sem (.inl rfl) hW e he, ?_⟩) hco (by simp only [hm]; rfl) sl)
    · have e2 : x.stv { s with mp := 9, vs := s.vs, lp := s.lp } = 0 := by unfold Cx.stv; simp
      have e3 : smv { s with mp := 9, vs := s.vs, lp := s.lp } = 0 := by unfold smv; simp
      rw [e2, e3]
      exact hwg.setSm 0
    · have : e = ConcR.mk .disable ∨ e = rd (smA x.Wg) ∨ e = wr (smA x.Wg) ∨ e = ConcR.mk .enable := by simpa [semEvents, ConcR.mk, rd, wr] using he
      rcases this with rfl | rfl | rfl | rfl <;> simp [MemAct.ofEvent, ConcR.mk, rd, wr]
  · have e1 : smv s = 0 := by unfold smv; rw [if_neg (fun y => h8 y.2)]
    rw [e1] at hwg
    exact .inl ⟨hA ⟨_, hwg⟩, ho, hm, h8⟩
theorem m_look [Payload] (hG : GI x.P x.m0 tz Sx x.Atm x.Fz x.Sh x.Ex j T q gs w t) (hP : PI x.pro x.Wg x.m0 s j T w t) (hg : gs[0]? = some g) (hk0 : (T 0).kind = 0) (hm : s.mp = 9) (hS : x.AtW4 (T 0).O g w) (sl : Option (Nat × Nat)) : x.Goes tz Sx s gs w t sl 0 := by
  obtain ⟨ok, hwg, hnx, hch⟩ := hP.wld
  have e0 : x.stv s = 0 := by unfold Cx.stv; rw [if_neg (by omega), if_neg (by omega), if_neg (by omega)]
  have e1 : smv s = 0 := by unfold smv; rw [if_neg (by omega)]
  rw [e0, e1] at hwg
  obtain ⟨g', hst, hco⟩ := hS hwg
  have hev := ev_wg hG (i := 0) (w' := w) rfl
  have hno := none_last ok (by omega)
  have hmw : x.mw { s with mp := 10, vs := s.vs, lp := s.lp } < x.mw s := by unfold Cx.mw; simp only [hm]; simp
  refine mstep hG hP hg hk0 hst (Cx.Only.refl w) (s' := { s with mp := 10, vs := s.vs, lp := s.lp }) rfl rfl rfl (pot_m hmw) ⟨ok_m ok (fun y => by omega) (fun _ => ok.jN (by omega)) (by omega) (fun i hi y z => (hno i hi y z).elim) (fun y => by omega) (fun _ => ok.fin (by omega)) (fun y => by omega) hmw, ?_, hnx, hch⟩ (fun e he => hev e (mem_rd he)) hco (by simp only [hm]; rfl) sl
  have e2 : x.stv { s with mp := 10, vs := s.vs, lp := s.lp } = 0 := by unfold Cx.stv; simp
  have e3 : smv { s with mp := 10, vs := s.vs, lp := s.lp } = 0 := by unfold smv; simp
  rw [e2, e3]
  exact hwg
end
section
variable [Payload] {x : Cx} {tz : Nat} {Sx : Nat → Prop} {s : Sg} {j : Nat} {T : Nat → Th} {q : Nat → Nat} {gs : Array Goroutine} {w : World} {t : Trace} {g : Goroutine}
theorem m_go (hG : GI x.P x.m0 tz Sx x.Atm x.Fz x.Sh x.Ex j T q gs w t) (hP : PI x.pro x.Wg x.m0 s j T w t) (hg : gs[0]? = some g) (hk0 : (T 0).kind = 0) (hm : s.mp = 4) (hjn : s.j < x.n) (hS : x.AtGo (x.n - s.j) (T 0).O g w) (sl : Option (Nat × Nat)) : x.Goes tz Sx s gs w t sl 0 := by
  obtain ⟨ok, hwg, hnx, hch⟩ := hP.wld
  have hj : s.j = j := hP.cnt
  have hp := hG.pos
  obtain ⟨r, hr⟩ : ∃ r, x.n - s.j = r + 1 := ⟨x.n - s.j - 1, by omega⟩
  rw [hr] at hS
  obtain ⟨g', child, hst, hco, hch1⟩ := hS
  have hcn : cnt { s with j := s.j + 1, ph := upd s.ph s.j 0 } = cnt s + 1 := by
    unfold cnt
    simp only [sumTo, upd_same]
    rw [sumTo_congr (g := fun i => if s.ph i ≤ 4 then 1 else 0) fun i hi => by simp only [upd_ne s.ph 0 (show i ≠ s.j by omega)]]
    rfl
  have hv : x.v { s with j := s.j + 1, ph := upd s.ph s.j 0 } = x.v s := by
    unfold Cx.v
    rw [hcn]
    simp only
    omega
  have hmw : x.mw { s with j := s.j + 1, ph := upd s.ph s.j 0 } = x.mw s := by unfold Cx.mw; simp only [hm]; rfl
  have hpt : x.pot { s with j := s.j + 1, ph := upd s.ph s.j 0 } < x.pot s := by
    have hw0 : sumTo (s.j + 1) (fun i => wgt (upd s.ph s.j 0 i)) = sumTo s.j (fun i => wgt (s.ph i)) + 10 := by
      simp only [sumTo, upd_same]
      rw [sumTo_congr (g := fun i => wgt (s.ph i)) fun i hi => by rw [upd_ne _ _ (by omega)]]
      rfl
    unfold Cx.pot
    rw [hmw]
    simp only
    rw [hw0]
    omega
  have hno := none_last ok (by omega)
  have hhd : hands { s with j := s.j + 1, ph := upd s.ph s.j 0 } = hands s := by
    unfold hands
    simp only [List.range_succ, List.filterMap_append, List.filterMap_cons, List.filterMap_nil, upd_same]
    rw [fm_same (f := fun i => if s.ph i = 1 then some (s.hd i) else none) fun i hi => by rw [upd_ne _ _ (by omega)]]
    simp
  have hold : ∀ i, i < s.j + 1 → i ≠ s.j → i < s.j := fun i h1 h2 => by omega
  have hok : x.ok { s with j := s.j + 1, ph := upd s.ph s.j 0 } := by
    refine ⟨by simp only; omega, fun y => by simp only at y; omega, fun y => by simp only at y; omega, ok.mp, fun i hi => ?_, fun i hi y => ?_, fun i hi y z => ?_, fun y => by simp only at y; omega, fun y => by simp only at y; omega, fun y => by simp only at y; omega, by rw [hhd]; exact ok.perm, by have := ok.big; simp only; omega⟩
    · by_cases hik : i = s.j
      · rw [hik]; simp [upd_same]
      · simp only [upd_ne _ _ hik]; exact ok.ph8 i (hold i hi hik)
    · by_cases hik : i = s.j
      · rw [hik] at y; simp [upd_same] at y
      · simp only [upd_ne _ _ hik] at y; exact ok.late i (hold i hi hik) y
    · by_cases hik : i = s.j
      · rw [hik] at y; simp [upd_same] at y
      · simp only [upd_ne _ _ hik] at y z; exact (hno i (hold i hi hik) y z).elim
  have hd0 : (T 0).d = 0 := by
    have := (hP.tag 0 (.inl rfl)).2.2.2.2 (by rw [hk0]; decide)
    rw [this]
    simp only [Cx.pro, if_true, hm]
    rfl
  have hrr : ∀ O, x.R O w w := fun O => Rly.refl (fun _ h => h) w
  obtain ⟨gs', u, f1, f2, f3, _, _⟩ := hG.spawn (th' := ⟨0, false, x.AtGo r, (T 0).O, w, 0, 0⟩) (c' := ⟨0, false, x.AtTake, fun _ => False, w, 0, 0⟩) hg hst (.inl ⟨rfl, hco w (hrr _), hrr _⟩) rfl hd0 rfl (.inl ⟨rfl, hch1 w (hrr _), hrr _⟩) (fun _ h => h) rfl sl
  refine ⟨gs', w, u, f1, { s with j := s.j + 1, ph := upd s.ph s.j 0 }, j + 1, _, q, hpt, f3, by simp only [Cx.pro]; omega, fun i hi => ?_, ⟨hok, ?_, hnx, hch⟩, fun i hi hrl => ?_, hP.nor.app fun op hop => (f2 op hop).2.2 _⟩
  · by_cases hij : i = x.m0 + j
    · subst hij
      rw [upd_same]
      simp only [Cx.pro, if_neg (show x.m0 + j ≠ 0 by omega), show x.m0 + j - x.m0 = j by omega, hj, upd_same]
      refine ⟨?_, by simp, by simp, fun y => (by cases y), fun _ => rfl⟩
      unfold Cx.Sw
      simp only [upd_same]
    · rw [upd_ne _ _ hij]
      by_cases hi0 : i = 0
      · subst hi0
        rw [upd_same]
        simp only [Cx.pro, if_true]
        refine ⟨?_, rfl, by simp, fun y => (by cases y), fun _ => by simp only [hm]; rfl⟩
        unfold Cx.Sm
        simp only [hm]
        rw [show x.n - (s.j + 1) = r by omega]
      · rw [upd_ne _ _ hi0]
        have hic : inCrowd x.m0 j i := hi.imp id fun z => ⟨z.1, by omega⟩
        have hne : i - x.m0 ≠ s.j := by rcases hic with z | z <;> omega
        obtain ⟨a1, a2, a3, a4, a5⟩ := hP.tag i hic
        simp only [Cx.pro, if_neg hi0] at a1 a2 a3 a4 a5 ⊢
        simp only [upd_ne _ _ hne]
        refine ⟨a1.trans ?_, a2, a3, a4, a5⟩
        unfold Cx.Sw
        simp only [upd_ne _ _ hne]
  · have e1 : x.stv { s with j := s.j + 1, ph := upd s.ph s.j 0 } = x.stv s := by unfold Cx.stv; rw [hv]
    rw [e1]; exact hwg
  · by_cases hij : i = x.m0 + j
    · subst hij
      have := hrl.2
      rw [show x.m0 + j - x.m0 = s.j by omega] at this
      simp [upd_same] at this
    · have hi0 := hrl.1
      have hic : inCrowd x.m0 j i := hi.imp id fun z => ⟨z.1, by omega⟩
      have hne : i - x.m0 ≠ s.j := by rcases hic with z | z <;> omega
      have h3 := hrl.2
      simp only [upd_ne _ _ hne] at h3
      obtain ⟨r0, h0⟩ := hP.rel i hic ⟨hi0, h3⟩
      exact ⟨r0, h0.still fun op hop => (f2 op hop).1⟩
/-- All have left; what they sent lies in the channel; the starter goes on. -/
structure Cx.Fin (x : Cx) (Sx : Nat → Prop) (gs : Array Goroutine) (w : World) (t : Trace) : Prop where
  main : ∃ O g, gs[0]? = some g ∧ x.CoM x.Next O g w ∧ (∀ b, O b → b < w.heap.size ∧ ¬ x.Fz b ∧ ¬ x.Sh b ∧ ¬ Sx b)
  size : gs.size = x.m0 + x.n
  gone : ∃ q, Leavers x.P t gs q
  past : Past (ShunB fun b => Sx b ∨ b = x.Wg) w.heap.size t
  deaf : Deaf t 0 = 0
  chan : ∃ (bl : List Nat) (a r : Nat) (tm : Bool), bl.Perm (List.range x.len) ∧ w.heap[x.Ch]? = some (.chan x.len (bl.map x.sight).toArray false a r tm)
  low : (∀ b, x.Fz b → b < w.heap.size ∧ ¬ x.Sh b ∧ ¬ Sx b) ∧ (∀ b, x.Sh b → b < w.heap.size ∧ ¬ Sx b) ∧ ∀ b, Sx b → b < w.heap.size
theorem m_acq (F : x.Fit) (hG : GI x.P x.m0 tz Sx x.Atm x.Fz x.Sh x.Ex j T q gs w t) (hP : PI x.pro x.Wg x.m0 s j T w t) (hg : gs[0]? = some g) (hk0 : (T 0).kind = 0) (hm : s.mp = 11) (hS : x.AtAcq (T 0).O g w) (sl : Option (Nat × Nat)) :
    ∃ gs' w' u, runT x.P (crowd gs w sl) 0 = (.next (crowd gs' w' sl), u) ∧ x.Fin Sx gs' w' (t ++ u) := by
  obtain ⟨ok, hwg, hnx, a, r, tm, hch⟩ := hP.wld
  have hj : s.j = j := hP.cnt
  have hn : s.j = x.n := ok.jN (by omega)
  have hp := hG.pos
  obtain ⟨g', hst, hco⟩ := hS
  have hall := ok.fin (by omega)
  have hW := (hG.shl x.Wg (.inl rfl)).1
  have hd0 : (T 0).d = 0 := by
    have := (hP.tag 0 (.inl rfl)).2.2.2.2 (by rw [hk0]; decide)
    rw [this]
    simp only [Cx.pro, if_true, hm]
    rfl
  have hdf : Deaf t 0 = 0 := by
    obtain ⟨_, _, _, h⟩ := hG.th 0 (.inl rfl)
    rw [h, hd0]
  have hOe : (fun g b => (upd T 0 ⟨0, false, x.Next, (T 0).O, w, 0, 0⟩ g).O b) = fun g b => (T g).O b := by
    funext g
    by_cases hgi : g = 0
    · subst hgi; rw [upd_same]
    · rw [upd_ne _ _ hgi]
  have hrr : x.R (T 0).O w w := Rly.refl (fun _ h => h) w
  obtain ⟨f1, f2⟩ := hG.go ex_trans (.inl rfl) (w' := w) (th' := ⟨0, false, x.Next, (T 0).O, w, 0, 0⟩) hg hst (.inl ⟨rfl, hco w hrr, hrr⟩) (by rw [hd0]; rfl) (fun b y => y) (fun b y => .inl y) (fun _ _ _ _ => rfl) (Nat.le_refl _) rfl rfl rfl (fun h => h)
    (fun e he => by rw [hOe]; exact (ev_one (x := x) (T := T) (m := .acquire (stA x.Wg)) (B := w.heap.size) rfl hW (by simp) e he).1) sl
  have eu : MemOp.ofEvents 0 g.frame.fn g.frame.place #[ConcR.mk (.acquire (stA x.Wg))] = #[{ g := 0, fn := g.frame.fn, pos := g.frame.place, act := .mark (.acquire (stA x.Wg)) }] := by simp [ofEvents_eq, ConcR.mk, MemAct.ofEvent]
  refine ⟨_, _, _, f1, ?_, by rw [f2.sz]; omega, ⟨fun i => if i < x.m0 then q i else (T i).q, fun i y hi hy => ?_, fun i hi => ?_⟩, ?_, ?_, ⟨s.bl, a, r, tm, ?_, hch⟩, ⟨hG.fzl, hG.shl, hG.sxl⟩⟩
  · obtain ⟨z, hz, hzI, _⟩ := f2.th 0 (.inl rfl)
    rw [upd_same] at hzI
    refine ⟨(T 0).O, z, hz, ?_, fun b => hG.olow 0 b⟩
    rcases hzI with ⟨_, hz1, _⟩ | ⟨hz1, _⟩ | ⟨hz1, _⟩
    · exact hz1
    · cases hz1
    · cases hz1
  · by_cases him : i < x.m0
    · simp only [if_pos him]
      exact f2.lv i y hi him hy
    · simp only [if_neg him]
      have hlt : i < gs.size := by
        have := (Array.getElem?_eq_some_iff.1 hy).1
        simpa using this
      rw [hG.sz] at hlt
      have hic : inCrowd x.m0 j i := .inr ⟨by omega, hlt⟩
      obtain ⟨z, hz, hzI, hzd⟩ := f2.th i hic
      rw [hy] at hz
      cases hz
      rw [upd_ne _ _ (by omega)] at hzI hzd
      have hq1 : (T i).kind = 1 := (hP.tag i hic).2.2.1.2 ⟨by omega, hall _ (by omega)⟩
      have hq2 : (wakeTh (wk x.P g g') (T i)).kind = 1 := (wakeTh_kind _ _).1.2 hq1
      rcases hzI with ⟨z1, _⟩ | ⟨_, _, z1⟩ | ⟨z1, _⟩
      · rw [hq2] at z1; cases z1
      · rw [hzd]; exact z1
      · rw [hq2] at z1; cases z1
  · exact f2.above i (by rw [← f2.sz]; exact hi)
  · rw [eu]
    have hti := hG.ti
    rw [← hj, hn] at hti
    exact past_end hti (fun k h1 h2 => hP.rel k (.inr ⟨h1, by omega⟩) ⟨by omega, by rw [hall _ (by omega)]; omega⟩) hP.nor hdf hW rfl rfl
  · obtain ⟨_, _, _, h⟩ := f2.th 0 (.inl rfl)
    rw [h, upd_same]
  · have hpm := ok.perm
    have hh : hands s = [] := by
      unfold hands
      rw [fm_same (f := fun _ => none) fun i hi => by rw [if_neg (by rw [hall i hi]; decide)]]
      simp
    have hl := ok.late 0 (by have := F.n0; omega) (by rw [hall 0 (by have := F.n0; omega)]; decide)
    rw [hh, List.append_nil, show min s.c x.len = x.len by omega] at hpm
    exact hpm
theorem scan_runs (F : x.Fit) (hAT : ∀ O g w, x.AnchT O g w → x.CoW false x.AtTake O g w) (hAW : ∀ O g w, x.AnchW O g w → x.CoM x.AtW1 O g w) (sl : Option (Nat × Nat))
    (hG : GI x.P x.m0 tz Sx x.Atm x.Fz x.Sh x.Ex j T q gs w t) (hP : PI x.pro x.Wg x.m0 s j T w t) :
    ∃ N gs' w' sl' t', runNT x.P N (crowd gs w sl) t = (.next (crowd gs' w' sl'), t') ∧ x.Fin Sx gs' w' t' := by
  refine engine (pr := x.pro) ex_trans ex_of w_of (fun s i h => ?_) (fun s h => h.1 rfl) (x.Fin Sx) ?_ ?_ (x.pot s) s rfl j T q gs w t sl hG hP
  · simp only [Cx.pro]
    have h1 := h.1
    have h2 := h.2
    simp [h1, h2]
  · intro s j T q gs w t hG hP hk
    obtain ⟨ok, _⟩ := hP.wld
    have hj : s.j = j := hP.cnt
    obtain ⟨_, hm, hl⟩ := (hP.tag 0 (.inl rfl)).2.2.2.1 hk
    have hn := ok.jN (by omega)
    have hp := hG.pos
    obtain ⟨i, hi, h8⟩ : ∃ i, i < s.j ∧ s.ph i ≠ 8 := by
      rcases ok.reg (.inr hm) with ⟨_, y⟩ | ⟨y1, y2, i, hi, y3⟩ | ⟨y, _⟩
      · apply Classical.byContradiction
        intro hc
        have : cnt s = 0 := cnt_zero fun i hi => Classical.byContradiction fun h => hc ⟨i, hi, h⟩
        unfold Cx.v at y
        omega
      · exact ⟨i, hi, by omega⟩
      · exact (hl y).elim
    have hic : inCrowd x.m0 j (x.m0 + i) := .inr ⟨by omega, by omega⟩
    refine ⟨x.m0 + i, hic, ?_⟩
    obtain ⟨z, hz, hzI, _⟩ := hG.th _ hic
    obtain ⟨_, _, a3, a4, _⟩ := hP.tag _ hic
    rcases hzI with ⟨z1, _⟩ | ⟨z1, _⟩ | ⟨z1, _⟩
    · exact z1
    · have := (a3.1 z1).2
      rw [show x.m0 + i - x.m0 = i by omega] at this
      exact (h8 this).elim
    · have := (a4 z1).1
      omega
  · intro s j T q gs w t sl i g hG hP hic hg hk _ hS
    obtain ⟨ok, _⟩ := hP.wld
    have hj : s.j = j := hP.cnt
    have hp := hG.pos
    have fin : x.Goes tz Sx s gs w t sl i → ∃ gs' w' u, runT x.P (crowd gs w sl) i = (.next (crowd gs' w' sl), u) ∧ (x.Fin Sx gs' w' (t ++ u) ∨ ∃ s' j' T' q', x.pro.Φ s' < x.pro.Φ s ∧ GI x.P x.m0 tz Sx x.Atm x.Fz x.Sh x.Ex j' T' q' gs' w' (t ++ u) ∧ PI x.pro x.Wg x.m0 s' j' T' w' (t ++ u)) := fun ⟨gs', w', u, h1, h2⟩ => ⟨gs', w', u, h1, .inr h2⟩
    obtain ⟨a1, _, a3, _⟩ := hP.tag i hic
    by_cases hi0 : i = 0
    · subst hi0
      rw [a1] at hS
      simp only [Cx.pro, if_true] at hS
      have hm11 := ok.mp
      have hW := (hG.shl x.Wg (.inl rfl)).1
      unfold Cx.Sm at hS
      rcases (by omega : s.mp = 0 ∨ s.mp = 1 ∨ s.mp = 2 ∨ s.mp = 3 ∨ s.mp = 4 ∨ s.mp = 5 ∨ s.mp = 6 ∨ s.mp = 7 ∨ s.mp = 8 ∨ s.mp = 9 ∨ s.mp = 10 ∨ s.mp = 11) with hm | hm | hm | hm | hm | hm | hm | hm | hm | hm | hm | hm <;> simp only [hm] at hS
      · have hmw : x.mw { s with mp := 1, vs := s.vs, lp := s.lp } < x.mw s := by unfold Cx.mw; simp only [hm]; simp
        exact .inr (fin (m_mk hG hP hg hk hS (ok_m ok (fun _ => ok.j0 (by omega)) (fun y => by omega) (by omega) (fun i hi y z => (none_last ok (by omega) i hi y z).elim) (fun y => by omega) (fun y => by omega) (fun y => by omega) hmw) (by unfold Cx.stv; simp only [hm, v_m]; rfl) (by unfold smv; simp only [hm]; rfl) hmw (ev_one rfl trivial (by simp)) (fun _ _ _ h => h) (by simp only [hm]; rfl) sl))
      · exact .inr (fin (m_add F hG hP hg hk hm hS sl))
      · have hmw : x.mw { s with mp := 3, vs := s.vs, lp := s.lp } < x.mw s := by unfold Cx.mw; simp only [hm]; simp
        exact .inr (fin (m_mk hG hP hg hk hS (ok_m ok (fun _ => ok.j0 (by omega)) (fun y => by omega) (by omega) (fun i hi y z => (none_last ok (by omega) i hi y z).elim) (fun y => by omega) (fun y => by omega) (fun y => by omega) hmw) (by unfold Cx.stv; simp only [hm, v_m]; rfl) (by unfold smv; simp only [hm]; rfl) hmw (ev_say (.inl rfl) rfl hW) (fun _ _ _ h => h) (by simp only [hm]; rfl) sl))
      · have hmw : x.mw { s with mp := 4, vs := s.vs, lp := s.lp } < x.mw s := by unfold Cx.mw; simp only [hm]; simp
        exact .inr (fin (m_mk hG hP hg hk hS (ok_m ok (fun y => by omega) (fun y => by omega) (by omega) (fun i hi y z => (none_last ok (by omega) i hi y z).elim) (fun y => by omega) (fun y => by omega) (fun y => by omega) hmw) (by unfold Cx.stv; simp only [hm, v_m]; rfl) (by unfold smv; simp only [hm]; rfl) hmw (ev_one rfl trivial (by simp)) (fun _ _ _ h => by
          unfold Cx.Sm
          simp only
          rw [ok.j0 (by omega)]
          exact h) (by simp only [hm]; rfl) sl))
      · by_cases hjn : s.j < x.n
        · exact .inr (fin (m_go hG hP hg hk hm hjn hS sl))
        · have hjj : s.j = x.n := by have := ok.jn; omega
          rw [show x.n - s.j = 0 by omega] at hS
          have hvl := v_le ok
          have hmw : x.mw { s with mp := 5, vs := s.vs, lp := s.lp } < x.mw s := by unfold Cx.mw; simp only [hm, v_m]; simp; omega
          exact .inr (fin (m_mk hG hP hg hk hS (ok_m ok (fun y => by omega) (fun _ => hjj) (by omega) (fun i hi y z => (none_last ok (by omega) i hi y z).elim) (fun y => by omega) (fun y => by omega) (fun y => by omega) hmw) (by unfold Cx.stv; simp only [hm, v_m]; rfl) (by unfold smv; simp only [hm]; rfl) hmw (ev_one rfl trivial (by simp)) (fun _ _ _ h => h.bind (fun _ h => h) hAW) (by simp only [hm]; rfl) sl))
      · exact .inr (fin (m_load F hG hP hg hk hm hS sl))
      · exact .inr (fin (m_cas F hAW hG hP hg hk hm hS sl))
      · have hmw : x.mw { s with mp := 8, vs := s.vs, lp := s.lp } < x.mw s := by unfold Cx.mw; simp only [hm]; simp
        exact .inr (fin (m_mk hG hP hg hk hS (ok_m ok (fun y => by omega) (fun _ => ok.jN (by omega)) (by omega) (fun i hi y z => ⟨.inr rfl, (ok.last i hi y z).2.1⟩) (fun _ => ok.reg (.inl hm)) (fun y => by omega) (fun y => by omega) hmw) (by unfold Cx.stv; simp only [hm, v_m]; rfl) (by unfold smv; simp only [hm]; simp) hmw (ev_say (.inr rfl) rfl hW) (fun _ _ _ h => h) (by simp only [hm]; rfl) sl))
      · rcases m_sem F hG hP hg hk hm hS sl with ⟨y1, y2, y3⟩ | y
        · exact .inl ⟨rfl, y1, y2, y3⟩
        · exact .inr (fin y)
      · exact .inr (fin (m_look hG hP hg hk hm hS sl))
      · have hmw : x.mw { s with mp := 11, vs := s.vs, lp := s.lp } < x.mw s := by unfold Cx.mw; simp only [hm]; simp
        exact .inr (fin (m_mk hG hP hg hk hS (ok_m ok (fun y => by omega) (fun _ => ok.jN (by omega)) (by omega) (fun i hi y z => (none_last ok (by omega) i hi y z).elim) (fun y => by omega) (fun _ => ok.fin (by omega)) (fun y => by omega) hmw) (by unfold Cx.stv; simp only [hm, v_m]; rfl) (by unfold smv; simp only [hm]; rfl) hmw (ev_one rfl trivial (by simp)) (fun _ _ _ h => h) (by simp only [hm]; rfl) sl))
      · obtain ⟨gs', w', u, h1, h2⟩ := m_acq F hG hP hg hk hm hS sl
        exact .inr ⟨gs', w', u, h1, .inl h2⟩
    · obtain ⟨k, rfl⟩ : ∃ k, i = x.m0 + k := ⟨i - x.m0, by rcases hic with y | y <;> omega⟩
      have hkj : k < s.j := by rcases hic with y | y <;> omega
      have h8 : s.ph k ≤ 7 := by
        have := ok.ph8 k hkj
        have : s.ph k ≠ 8 := fun y => by
          have := a3.2 ⟨hi0, by rw [show x.m0 + k - x.m0 = k by omega]; exact y⟩
          rw [hk] at this
          cases this
        omega
      rw [a1] at hS
      simp only [Cx.pro, if_neg hi0] at hS
      rw [show x.m0 + k - x.m0 = k by omega] at hS
      unfold Cx.Sw at hS
      refine .inr (fin ?_)
      rcases (by omega : s.ph k = 0 ∨ s.ph k = 1 ∨ s.ph k = 2 ∨ s.ph k = 3 ∨ s.ph k = 4 ∨ s.ph k = 5 ∨ s.ph k = 6 ∨ s.ph k = 7) with hm | hm | hm | hm | hm | hm | hm | hm <;> simp only [hm] at hS
      · exact w_take F hG hP hkj hm hg hk hS sl
      · exact w_send F hAT hG hP hkj hm hg hk hS sl
      · exact w_rel F hG hP hkj hm hg hk hS sl
      · exact w_dis F hG hP hkj hm hg hk hS sl
      · exact w_dec F hG hP hkj hm hg hk hS sl
      · exact w_d2 F hG hP hkj hm hg hk hS sl
      · exact w_d3 F hG hP hkj hm hg hk hS sl
      · exact w_d4 F hG hP hkj hm hg hk hS sl
end
end Go.Proofs.YtobpjijdebnaoaaDoor

/-
  More facts of the ghost's program.
-/
import Derived.Test.YtdkafcgangcgbagGreatDoorQFacts
import Derived.Test.YtdkafcgangcgbagGreatDoorQ9
namespace Go.Proofs.YtdkafcgangcgbagGreatDoorQ
open Go
namespace Al
theorem ntmps3 : type_of% Tryz.ntmps3 := Tryz.ntmps3
theorem ntmps6 : type_of% Tryz.ntmps6 := Tryz.ntmps6
theorem ntmps7 : type_of% Tryz.ntmps7 := Tryz.ntmps7
theorem ntmps8 : type_of% Tryz.ntmps8 := Tryz.ntmps8
end Al
end Go.Proofs.YtdkafcgangcgbagGreatDoorQ
/-
  What the call of the document's NewestOf gives: what is newest.
-/
namespace Go.Proofs.YtdkafcgangcgbagGreatDoorQ
open Go.Proofs.YtdkafcgangcgbagGreatDoorM
open Go.RowKit
set_option linter.unusedVariables false

theorem stP_kind {p : List Nat} (h : stP p = 2) : 1 ≤ kdP p ∧ kdP p ≤ 3 := by
  unfold stP at h
  by_cases he : erasedB p = true
  · rw [if_pos he] at h; cases h
  · rw [if_neg he] at h
    by_cases hv : validB p = true
    · have hk : kdP p = kindP p := (tell_valid (fun e => he ((erasedB_iff p).2 e)) ((validB_iff p).1 hv)).2.1
      have hf := ((validB_iff p).1 hv).1
      rw [hk]
      exact ⟨hf.k0, hf.k1⟩
    · rw [if_neg hv] at h; cases h
/-- In a round of the document's: the row, and the box of what is new. -/
structure RI (w : World) (a : Option Addr) (cap : Nat) (M : List Fd) (xb : Nat) (x : Fd) (wr : World) : Prop where
  own : OwnF wr w.heap.size a cap M
  bel : Below w.heap.size w wr
  box : FAt (fun o => wr.cell? ⟨xb, o, none⟩) 0 x
  apart : ∀ b, blk a b → b ≠ xb
  at0 : w.heap.size ≤ xb
theorem RI.below {w wr wr' : World} {a : Option Addr} {cap : Nat} {M : List Fd} {xb : Nat} {x : Fd} (h : RI w a cap M xb x wr) (hb : Below wr.heap.size wr wr') : RI w a cap M xb x wr' :=
  ⟨h.own.below hb, h.bel.trans (hb.mono h.bel.size), ⟨lies_cell hb h.box.1, lies_cell hb h.box.2.1, lies_cell hb h.box.2.2.1, lies_cell hb h.box.2.2.2⟩, h.apart, h.at0⟩
def NewOwn (w w' : World) (e : Ending) (L : List Pg) : Prop := ∃ a cap, e = .returned (.slice a (newF L).length cap) ∧ OwnF w' w.heap.size a cap (newF L) ∧ Below w.heap.size w w'
theorem newF_nil : newF [] = [] := List.eq_nil_of_length_eq_zero (Nat.le_zero.1 (newF_len []))
theorem take_le {L : List Pg} {k : Nat} : (newF (L.take k)).length ≤ k := Nat.le_trans (newF_len _) (by rw [List.length_take]; exact Nat.min_le_left _ _)
theorem OwnF.cap_le {w : World} {base cap : Nat} {a : Option Addr} {M : List Fd} (h : OwnF w base a cap M) : M.length ≤ cap := by
  rcases h.parts with ⟨_, _, rfl⟩ | ⟨_, _, _, _, _, h, _⟩
  · simp
  · exact h
theorem OwnF.nil_cap {w : World} {base cap : Nat} {a : Option Addr} {M : List Fd} (h : OwnF w base a cap M) : a = none → cap = 0 := by
  rcases h.parts with ⟨_, h, _⟩ | ⟨_, _, e, _⟩
  · exact fun _ => h
  · rw [e]; intro e; cases e
theorem OwnF.some_at {w : World} {base cap : Nat} {a : Option Addr} {M : List Fd} {q : Nat} (h : OwnF w base a cap M) (hq : q < M.length) : ∃ g, a = some ⟨g, 0, none⟩ ∧ base ≤ g ∧ g < w.heap.size ∧ FAt (fun o => w.cell? ⟨g, o, none⟩) (q * 4) (gF M q) := by
  rcases h.parts with ⟨_, _, rfl⟩ | ⟨g, cur, rfl, h1, h2, _⟩
  · simp at hq
  · obtain ⟨g', off, e, hat⟩ := h.at.resolve_left (fun e => by rw [e] at hq; simp at hq)
    cases e
    have := hat q hq
    rw [Nat.zero_add] at this
    exact ⟨g, rfl, h1, heap_lt h2, this⟩
theorem jn_cut {y : Fd} {xs : List Fd} {k : Nat} (hk : k ≤ xs.length) (hl : ∀ i, i < k → (gF xs i).lb < y.lb) (hg : k < xs.length → y.lb < (gF xs k).lb) : jn xs [y] = xs.take k ++ y :: xs.drop k := by
  by_cases h : k < xs.length
  · exact jn_more h hl (hg h)
  · have e : k = xs.length := by omega
    subst e
    rw [jn_end hl, List.take_length, List.drop_length]
theorem set_same {M : List Fd} {q : Nat} (h : q < M.length) : M.set q (gF M q) = M := by
  unfold gF
  rw [List.getElem?_eq_getElem h]
  exact List.set_getElem_self h
theorem dropA_nil {w : World} {base cap q : Nat} {a : Option Addr} {M : List Fd} (h : OwnF w base a cap M) : dropA a cap q = none → cap - q = 0 := by
  rcases h.parts with ⟨rfl, rfl, _⟩ | ⟨g, cur, rfl, _⟩
  · intro _; omega
  · unfold dropA
    split
    · intro e; cases e
    · intro e; cases e
theorem RI.start {w w1 : World} {a : Option Addr} {cap : Nat} {M : List Fd} (h1 : OwnF w1 w.heap.size a cap M) (h2 : Below w.heap.size w w1) (o : Obj) (x : Fd) : RI w a cap M (w1.heap.size + 1) x ((w1.alloc o).alloc (.cells #[.int .i64 (x.lb : Nat), .int .i64 (x.pg : Nat), .int .i64 (x.sq : Nat), .int .i64 (x.kd : Nat)] 46)) := by
  have hb1 := alloc_below' w1 o
  have hb2 := alloc_below' (w1.alloc o) (.cells #[.int .i64 (x.lb : Nat), .int .i64 (x.pg : Nat), .int .i64 (x.sq : Nat), .int .i64 (x.kd : Nat)] 46)
  have hs : (w1.alloc o).heap.size = w1.heap.size + 1 := by simp
  refine ⟨(h1.below hb1).below hb2, (h2.trans (hb1.mono h2.size)).trans (hb2.mono (h2.trans (hb1.mono h2.size)).size), ?_, fun b hb e => by have := (h1.blk hb).2; omega, by have := h2.size; omega⟩
  rw [← hs]
  exact ⟨World.cell?_alloc_at _ _ _ 0 rfl, World.cell?_alloc_at _ _ _ 1 rfl, World.cell?_alloc_at _ _ _ 2 rfl, World.cell?_alloc_at _ _ _ 3 rfl⟩
theorem box_at {w : World} {xb : Nat} {x : Fd} (h : FAt (fun o => w.cell? ⟨xb, o, none⟩) 0 x) : w.cell? ⟨xb, 0, none⟩ = some (.int .i64 (x.lb : Nat)) ∧ w.cell? ⟨xb, 1, none⟩ = some (.int .i64 (x.pg : Nat)) ∧ w.cell? ⟨xb, 2, none⟩ = some (.int .i64 (x.sq : Nat)) ∧ w.cell? ⟨xb, 3, none⟩ = some (.int .i64 (x.kd : Nat)) := h
end Go.Proofs.YtdkafcgangcgbagGreatDoorQ
/-
  What the call of the document's NewestOf gives: what is newest.
-/
namespace Go.Proofs.YtdkafcgangcgbagGreatDoorQ
open Go.Proofs.YtdkafcgangcgbagGreatDoorM
open Go.RowKit
set_option linter.unusedVariables false

set_option maxRecDepth 100000 in
set_option maxHeartbeats 12800000 in
theorem refNewest_nil (pa : Option Addr) (pc : Nat) (w : World) : Calls (Al.progOf Tryz.prog) 8 #[.slice pa 0 pc] w fun e w' => NewOwn w w' e [] := by
  have HE : Hid (NewOwn w w (.returned (.slice none 0 0)) []) := ⟨none, 0, by rw [newF_nil]; rfl, by rw [newF_nil]; exact OwnF.nil _ _, Below.refl _ _⟩
  go_enter Al.func8, Tryz.ntmps8
  go_wp2
  go_loopw [3, 4] (fun o j wr => o = .slice none 0 0 ∧ j = .int .i64 0 ∧ wr = w) (fun _ _ _ => 0)
  case atStart => exact ⟨rfl, rfl, rfl⟩
  case round =>
    obtain ⟨rfl, rfl, rfl⟩ := hrel
    go_wp2
    go_ret
    exact HE.out
set_option maxRecDepth 100000 in
set_option maxHeartbeats 12800000 in
theorem refNewest_some (b off pc : Nat) (L : List Pg) (w : World) (hl : L.length ≤ 4096) (hp : PagesAt w b off L) :
    Calls (Al.progOf Tryz.prog) 8 #[.slice (some ⟨b, off, none⟩) L.length pc] w fun e w' => NewOwn w w' e L := by
  have HO : Hid (∀ W k, k < L.length → Below w.heap.size w W → Calls (Al.progOf Tryz.prog) 10 #[.slice (gP L k).a (gP L k).p.length (gP L k).c] W fun e w' => ∃ a d c, e = .returned (.tuple #[FV (kdP (gP L k).p : Nat) (lbP (gP L k).p : Nat) (sqP (gP L k).p : Nat) a d c, .int .i64 (stP (gP L k).p : Nat)]) ∧ Hid (Below W.heap.size W w')) := fun W k hk hb => by
    have h := (hp k hk).2
    exact ref_sight _ _ _ W h.all (h.lies.below hb) h.cap h.most
  have HC : Hid (∀ W k, k < L.length → Below w.heap.size w W → W.cell? ⟨b, off + k, none⟩ = some (.slice (gP L k).a (gP L k).p.length (gP L k).c)) := fun W k hk hb => lies_cell hb (hp k hk).1
  have H0 : Hid (OwnF w w.heap.size none 0 [] ∧ Below w.heap.size w w ∧ [] = newF (L.take 0)) := ⟨OwnF.nil _ _, Below.refl _ _, newF_nil.symm⟩
  clear hp
  go_enter Al.func8, Tryz.ntmps8
  go_wp2
  go_loopw [3, 4] (fun o j wr => ∃ (k : Nat) (a : Option Addr) (cap : Nat) (M : List Fd), k ≤ L.length ∧ M.length ≤ k ∧ o = .slice a M.length cap ∧ j = .int .i64 (k : Nat) ∧ Hid (OwnF wr w.heap.size a cap M ∧ Below w.heap.size w wr ∧ M = newF (L.take k))) (fun _ j _ => L.length - (intOf j).toNat)
  case atStart => exact ⟨0, none, 0, [], Nat.zero_le _, Nat.le_refl _, rfl, rfl, H0⟩
  case round =>
    clear H0
    obtain ⟨k, a, cap, M, hk, hM, rfl, rfl, hR⟩ := hrel
    by_cases hlt : k < L.length
    · have cc := HC.out wr k hlt hR.out.2.1
      have HOk : Hid (Calls (Al.progOf Tryz.prog) 10 #[.slice (gP L k).a (gP L k).p.length (gP L k).c] wr fun e w' => ∃ a d c, e = .returned (.tuple #[FV (kdP (gP L k).p : Nat) (lbP (gP L k).p : Nat) (sqP (gP L k).p : Nat) a d c, .int .i64 (stP (gP L k).p : Nat)]) ∧ Hid (Below wr.heap.size wr w')) := HO.out wr k hlt hR.out.2.1
      have k0 : (0 : Int) ≤ (k : Int) := by omega
      have k1 : (k : Int) < (L.length : Int) := by omega
      have HS := fun h => stP_kind (p := (gP L k).p) h
      have HN : Hid (cntP L k = false → newF (L.take (k + 1)) = M) := fun h => (newF_snoc_no hlt h).trans hR.out.2.2.symm
      have HY : Hid (cntP L k = true → newF (L.take (k + 1)) = jn M [fdP L k]) := fun h => (newF_snoc_yes hlt h).trans (by rw [← hR.out.2.2])
      have HCt : Hid (cntP L k = (stP (gP L k).p == 2 && (kdP (gP L k).p == 1 || kdP (gP L k).p == 2))) := rfl
      have HFd : Hid (fdP L k = ⟨lbP (gP L k).p, k, sqP (gP L k).p, kdP (gP L k).p⟩) := rfl
      have HR : Hid (OwnF wr w.heap.size a cap M ∧ Below w.heap.size w wr) := ⟨hR.out.1, hR.out.2.1⟩
      clear hR HO
      generalize (gP L k).p.length = pl at *
      generalize (gP L k).a = pA at *
      generalize (gP L k).c = pC at *
      generalize kdP (gP L k).p = kd at *
      generalize lbP (gP L k).p = lb at *
      generalize sqP (gP L k).p = sq at *
      generalize stP (gP L k).p = st at *
      go_wp2_with fail
      refine HOk.out.mono ?_
      rintro e w1 ⟨fa, fd, fc, rfl, hB1⟩
      clear HOk cc
      have H1 : Hid (OwnF w1 w.heap.size a cap M ∧ Below w.heap.size w w1) := ⟨HR.out.1.below hB1.out, HR.out.2.trans (hB1.out.mono HR.out.2.size)⟩
      clear HR hB1
      by_cases hst : st = 2
      case neg =>
        have hs2 : ((st : Int) == 2) = false := by rw [beq_eq_false_iff_ne]; omega
        have HN2 : Hid (newF (L.take (k + 1)) = M) := HN.out (by rw [HCt.out]; simp [hst])
        clear HY HN HCt HFd HS hst
        go_wp2
        exact ⟨⟨k + 1, a, cap, M, by omega, by omega, rfl, by go_num, ⟨H1.out.1.below (alloc_below' _ _), H1.out.2.trans ((alloc_below' _ _).mono H1.out.2.size), HN2.out.symm⟩⟩, by simp [intOf]; omega⟩
      subst hst
      have hkd := HS rfl
      by_cases hk3 : kd = 3
      · subst hk3
        have HN2 : Hid (newF (L.take (k + 1)) = M) := HN.out (by rw [HCt.out]; rfl)
        clear HY HN HCt HFd HS
        go_wp2
        exact ⟨⟨k + 1, a, cap, M, by omega, by omega, rfl, by go_num, ⟨H1.out.1.below (alloc_below' _ _), H1.out.2.trans ((alloc_below' _ _).mono H1.out.2.size), HN2.out.symm⟩⟩, by simp [intOf]; omega⟩
      · have hk3' : ((kd : Int) == 3) = false := by rw [beq_eq_false_iff_ne]; omega
        have HN2 : Hid (newF (L.take (k + 1)) = jn M [⟨lb, k, sq, kd⟩]) := by
          show _ = _
          rw [HY.out (by rw [HCt.out]; have : kd = 1 ∨ kd = 2 := by omega
                         rcases this with rfl | rfl <;> rfl), HFd.out]
        clear HY HN HCt HFd HS hkd hk3
        have HI0 := RI.start H1.out.1 H1.out.2 (.cells #[.int .i64 (kd : Nat), .int .i64 (lb : Nat), .int .i64 (sq : Nat), .slice fa fd fc] 38) ⟨lb, k, sq, kd⟩
        have HI1 : Hid (RI w a cap M (w1.heap.size + 1) ⟨lb, k, sq, kd⟩ ((w1.alloc (.cells #[.int .i64 (kd : Nat), .int .i64 (lb : Nat), .int .i64 (sq : Nat), .slice fa fd fc] 38)).alloc (.cells #[.int .i64 (lb : Nat), .int .i64 (k : Nat), .int .i64 (sq : Nat), .int .i64 (kd : Nat)] 46))) := HI0
        clear HI0 H1
        go_wp2
        generalize (w1.alloc (.cells #[.int .i64 (kd : Nat), .int .i64 (lb : Nat), .int .i64 (sq : Nat), .slice fa fd fc] 38)).alloc (.cells #[.int .i64 (lb : Nat), .int .i64 (k : Nat), .int .i64 (sq : Nat), .int .i64 (kd : Nat)] 46) = W2 at HI1 ⊢
        generalize w1.heap.size + 1 = xb at HI1 ⊢
        go_loopw [8] (fun j wr => ∃ q : Nat, q ≤ M.length ∧ j = .int .i64 (q : Nat) ∧ Hid ((∀ i, i < q → (gF M i).lb < lb) ∧ RI w a cap M xb ⟨lb, k, sq, kd⟩ wr)) (fun j _ => M.length - (intOf j).toNat)
        case atStart => exact ⟨0, Nat.zero_le _, rfl, fun i hi => absurd hi (Nat.not_lt_zero _), HI1.out⟩
        case round =>
          clear HI1
          obtain ⟨q, hq, rfl, hI⟩ := hrel
          obtain ⟨x0, x1, x2, x3⟩ := box_at hI.out.2.box
          simp only at x0 x1 x2 x3
          by_cases hql : q < M.length
          · obtain ⟨g, hag, hbg, hgl, hat⟩ := hI.out.2.own.some_at hql
            obtain ⟨c0, c1, c2, c3⟩ := hat
            simp only at c0 c1 c2 c3
            have q0 : (0 : Int) ≤ (q : Int) := by omega
            have q1 : (q : Int) < (M.length : Int) := by omega
            by_cases hlt2 : (gF M q).lb < lb
            · have HS : Hid (∀ W, Below wr.heap.size wr W → (∀ i, i < q + 1 → (gF M i).lb < lb) ∧ RI w a cap M xb ⟨lb, k, sq, kd⟩ W) := fun W hb => ⟨fun i hi => by
                  by_cases e : i = q
                  · rw [e]; exact hlt2
                  · exact hI.out.1 i (by omega), hI.out.2.below hb⟩
              generalize gF M q = E at *
              obtain ⟨y0, y1, y2, y3⟩ := E
              simp only at c0 c1 c2 c3 hlt2
              have hlt3 : (y0 : Int) < (lb : Int) := by omega
              subst hag
              clear hI
              go_wp2
              go_quiet (fail)
              go_wp2
              exact ⟨⟨q + 1, by omega, by go_num, HS.out _ (below_drewN (Below.refl _ _) _)⟩, by simp [intOf]; omega⟩
            · by_cases heq : (gF M q).lb = lb
              · by_cases hsq : (gF M q).sq ≤ sq
                · have HJ : Hid (M.set q ⟨lb, k, sq, kd⟩ = newF (L.take (k + 1))) := by
                    show _ = _
                    rw [HN2.out, jn_same (y := ⟨lb, k, sq, kd⟩) hql hI.out.1 heq]
                    unfold bst
                    rw [if_pos hsq]
                  have HRI : Hid (RI w a cap M xb ⟨lb, k, sq, kd⟩ wr) := hI.out.2
                  have HGX : Hid (g ≠ xb) := hI.out.2.apart g ⟨_, hag, rfl⟩
                  generalize gF M q = E at *
                  obtain ⟨y0, y1, y2, y3⟩ := E
                  simp only at c0 c1 c2 c3 hlt2 heq hsq
                  subst heq
                  have hs3 : (y2 : Int) ≤ (sq : Int) := by omega
                  subst hag
                  clear hI HN2 hlt2
                  go_wp2
                  go_quiet (fail)
                  go_wp2
                  go_quiet (fail)
                  go_wp2
                  go_quiet (fail)
                  generalize hW1 : World.drewN _ _ = W1
                  have HB1 : Hid (Below wr.heap.size wr W1) := by
                    show Below wr.heap.size wr W1
                    rw [← hW1]
                    repeat (first | exact Below.refl _ _ | refine below_drewN ?_ _)
                  obtain ⟨z0, z1, z2, z3⟩ := box_at (HRI.out.below HB1.out).box
                  simp only at z0 z1 z2 z3
                  obtain ⟨hfz, hcl, hown⟩ := HRI.out.own.put (w2 := W1) (HB1.out.block g hgl) hql ⟨y0, k, sq, kd⟩
                  obtain ⟨v0, hv0⟩ := hcl 0 (by omega)
                  obtain ⟨v1, hv1⟩ := hcl 1 (by omega)
                  obtain ⟨v2, hv2⟩ := hcl 2 (by omega)
                  obtain ⟨v3, hv3⟩ := hcl 3 (by omega)
                  rw [Nat.add_zero] at hv0
                  have hf0 := hfz (q * 4)
                  have hf1 := hfz (q * 4 + 1)
                  have hf2 := hfz (q * 4 + 2)
                  have hf3 := hfz (q * 4 + 3)
                  have HO : Hid (OwnF ((((W1.setCell ⟨g, q * 4, none⟩ (.int .i64 (y0 : Nat))).setCell ⟨g, q * 4 + 1, none⟩ (.int .i64 (k : Nat))).setCell ⟨g, q * 4 + 2, none⟩ (.int .i64 (sq : Nat))).setCell ⟨g, q * 4 + 3, none⟩ (.int .i64 (kd : Nat))) w.heap.size (some ⟨g, 0, none⟩) cap (M.set q ⟨y0, k, sq, kd⟩)) := hown
                  have HK : Hid (Below w.heap.size w ((((W1.setCell ⟨g, q * 4, none⟩ (.int .i64 (y0 : Nat))).setCell ⟨g, q * 4 + 1, none⟩ (.int .i64 (k : Nat))).setCell ⟨g, q * 4 + 2, none⟩ (.int .i64 (sq : Nat))).setCell ⟨g, q * 4 + 3, none⟩ (.int .i64 (kd : Nat)))) := by
                    have hb := (HRI.out.below HB1.out).bel
                    exact hb.trans ((keep_set (keep_set (keep_set (keep_set (Keep.refl (fun b => b = g) W1) (q * 4) _) (q * 4 + 1) _) (q * 4 + 2) _) (q * 4 + 3) _).below hb.size fun b e => by rw [e]; exact hbg)
                  clear hW1 x0 x1 x2 x3 c0 c1 c2 c3 hfz hcl hown HRI HB1
                  go_wp2
                  exact ⟨⟨k + 1, some ⟨g, 0, none⟩, cap, M.set q ⟨y0, k, sq, kd⟩, by omega, by rw [List.length_set]; omega, by rw [List.length_set], by go_num, ⟨HO.out, HK.out, HJ.out⟩⟩, by simp [intOf]; omega⟩
                · have HJ : Hid (M = newF (L.take (k + 1))) := by
                    show _ = _
                    rw [HN2.out, jn_same (y := ⟨lb, k, sq, kd⟩) hql hI.out.1 heq]
                    unfold bst
                    rw [if_neg hsq, set_same hql]
                  have HRI : Hid (RI w a cap M xb ⟨lb, k, sq, kd⟩ wr) := hI.out.2
                  generalize gF M q = E at *
                  obtain ⟨y0, y1, y2, y3⟩ := E
                  simp only at c0 c1 c2 c3 hlt2 heq hsq
                  subst heq
                  have hs3 : ¬ (y2 : Int) ≤ (sq : Int) := by omega
                  subst hag
                  clear hI HN2 hlt2
                  go_wp2
                  go_quiet (fail)
                  go_wp2
                  go_quiet (fail)
                  go_wp2
                  go_quiet (fail)
                  go_wp2
                  exact ⟨⟨k + 1, some ⟨g, 0, none⟩, cap, M, by omega, by omega, rfl, by go_num, ⟨(HRI.out.below (by repeat (first | exact Below.refl _ _ | refine below_drewN ?_ _))).own, (HRI.out.below (by repeat (first | exact Below.refl _ _ | refine below_drewN ?_ _))).bel, HJ.out⟩⟩, by simp [intOf]; omega⟩
              · have HGT : q < M.length → lb < (gF M q).lb := fun _ => by omega
                have hge : ¬ (gF M q).lb < lb := hlt2
                have HJ : Hid (newF (L.take (k + 1)) = M.take q ++ ⟨lb, k, sq, kd⟩ :: M.drop q) := HN2.out.trans (jn_cut hq hI.out.1 HGT)
                have S1 := fun w => slice_toF a M.length cap q (Nat.le_trans hq hI.out.2.own.cap_le) w
                have S2 := fun w => slice_fromF a M.length cap q hq hI.out.2.own.cap_le w
                obtain ⟨T1, HT1⟩ : ∃ T1, Hid (T1 = M.take q) := ⟨_, rfl⟩
                obtain ⟨T4, HT4⟩ : ∃ T4, Hid (T4 = M.drop q) := ⟨_, rfl⟩
                obtain ⟨T3, HT3⟩ : ∃ T3, Hid (T3 = (T1 ++ [(⟨lb, k, sq, kd⟩ : Fd)]) ++ T4) := ⟨_, rfl⟩
                obtain ⟨aD, HaD⟩ : ∃ aD, Hid (aD = dropA a cap q) := ⟨_, rfl⟩
                have HTN : Hid (T3 = newF (L.take (k + 1))) := by
                  show _ = _
                  rw [HT3.out, HJ.out, HT1.out, HT4.out, List.append_assoc]
                  rfl
                have hT1 : T1.length = q := by rw [HT1.out, List.length_take]; omega
                have HT1l : Hid (q = T1.length) := hT1.symm
                have HL : Hid (T1.length ≤ 4096 ∧ T3.length ≤ k + 1 ∧ M.length - q = T4.length ∧ T1.length + 1 = (T1 ++ [(⟨lb, k, sq, kd⟩ : Fd)]).length ∧ k ≤ 4096) := ⟨by omega, by rw [HTN.out]; exact take_le, by rw [HT4.out, List.length_drop], by rw [List.length_append]; rfl, by omega⟩
                have HX : Hid (∀ W, Below wr.heap.size wr W → FRow W a T1 ∧ FRow W aD T4 ∧ RI w a cap M xb ⟨lb, k, sq, kd⟩ W) := fun W hb => ⟨by rw [HT1.out]; exact (hI.out.2.below hb).own.at.take q, by rw [HaD.out, HT4.out]; exact (hI.out.2.below hb).own.at.drop q hI.out.2.own.cap_le, hI.out.2.below hb⟩
                have HNil : Hid ((a = none → cap = 0) ∧ (aD = none → cap - q = 0)) := ⟨hI.out.2.own.nil_cap, by rw [HaD.out]; exact dropA_nil hI.out.2.own⟩
                have HBw : Hid (Below w.heap.size w wr) := hI.out.2.bel
                rw [← HaD.out] at S2
                generalize gF M q = E at *
                obtain ⟨y0, y1, y2, y3⟩ := E
                simp only at c0 c1 c2 c3 hlt2 heq
                have hs2 : ¬ (y0 : Int) < (lb : Int) := by omega
                have hs3 : ((y0 : Int) == (lb : Int)) = false := by rw [beq_eq_false_iff_ne]; omega
                clear hlt2 hge heq hI hT1 HJ HN2 HGT HT1 HT4 HaD
                subst hag
                go_wp2
                go_quiet (fail)
                go_wp2
                go_quiet (fail)
                go_wp2_with (at_builtin; refine app_moreF rfl (.tmp 81) (.tmp 84) rfl wr.heap.size none 0 [] 0 rfl rfl (OwnF.nil _ _) (some ⟨g, 0, none⟩) cap T1 q HT1l.out rfl HNil.out.1 (HX.out _ (by repeat (first | exact Below.refl _ _ | refine below_drewN ?_ _))).1 T1 rfl (Nat.le_trans HL.out.1 (by omega)) (Nat.le_refl _) ?_)
                intro a1 c1 w3 o1 k1
                have B3 : Hid (OwnF w3 wr.heap.size a1 c1 T1 ∧ Below wr.heap.size wr w3) := ⟨o1, Below.trans (by repeat (first | exact Below.refl _ _ | refine below_drewN ?_ _)) (k1.below (Nat.le_refl _) (fun b hb => by obtain ⟨x, e, _⟩ := hb; cases e))⟩
                clear o1 k1
                obtain ⟨z0, z1, z2, z3⟩ := box_at (HX.out w3 B3.out.2).2.2.box
                simp only at z0 z1 z2 z3
                go_wp2_with (at_builtin; refine app_stepF rfl (.tmp 86) (.tmp 88) rfl w3 wr.heap.size c1 a1 T1 ⟨lb, k, sq, kd⟩ rfl rfl B3.out.1 (by have := HL.out.1; omega) B3.out.2.size ?_)
                intro a2 c2 w4 o2 k2
                have B4 : Hid (OwnF w4 wr.heap.size a2 c2 (T1 ++ [⟨lb, k, sq, kd⟩]) ∧ Below wr.heap.size wr w4) := ⟨o2, B3.out.2.trans (k2.below B3.out.2.size (fun b hb => (B3.out.1.blk hb).1))⟩
                clear o2 k2 B3 z0 z1 z2 z3
                go_wp2_with (at_builtin; refine app_moreF rfl (.tmp 90) (.tmp 93) rfl wr.heap.size a2 c2 (T1 ++ [⟨lb, k, sq, kd⟩]) (T1.length + 1) HL.out.2.2.2.1 rfl B4.out.1 aD (cap - q) T4 (M.length - q) HL.out.2.2.1 rfl HNil.out.2 (HX.out w4 B4.out.2).2.1 T3 HT3.out (by have := HL.out.2.1; have := HL.out.2.2.2.2; omega) B4.out.2.size ?_)
                intro a3 c3 w5 o3 k3
                have B5 : Hid (OwnF w5 w.heap.size a3 c3 T3 ∧ Below w.heap.size w w5) := ⟨o3.base HBw.out.size, HBw.out.trans ((B4.out.2.trans (k3.below B4.out.2.size (fun b hb => (B4.out.1.blk hb).1))).mono HBw.out.size)⟩
                clear o3 k3 B4
                go_wp2
                exact ⟨⟨k + 1, a3, c3, T3, by omega, HL.out.2.1, rfl, by go_num, ⟨B5.out.1, B5.out.2, HTN.out⟩⟩, by simp [intOf]; omega⟩
          · have HGT : q < M.length → lb < (gF M q).lb := fun h => absurd h hql
            have HJ : Hid (newF (L.take (k + 1)) = M.take q ++ ⟨lb, k, sq, kd⟩ :: M.drop q) := HN2.out.trans (jn_cut hq hI.out.1 HGT)
            have S1 := fun w => slice_toF a M.length cap q (Nat.le_trans hq hI.out.2.own.cap_le) w
            have S2 := fun w => slice_fromF a M.length cap q hq hI.out.2.own.cap_le w
            obtain ⟨T1, HT1⟩ : ∃ T1, Hid (T1 = M.take q) := ⟨_, rfl⟩
            obtain ⟨T4, HT4⟩ : ∃ T4, Hid (T4 = M.drop q) := ⟨_, rfl⟩
            obtain ⟨T3, HT3⟩ : ∃ T3, Hid (T3 = (T1 ++ [(⟨lb, k, sq, kd⟩ : Fd)]) ++ T4) := ⟨_, rfl⟩
            obtain ⟨aD, HaD⟩ : ∃ aD, Hid (aD = dropA a cap q) := ⟨_, rfl⟩
            have HTN : Hid (T3 = newF (L.take (k + 1))) := by
              show _ = _
              rw [HT3.out, HJ.out, HT1.out, HT4.out, List.append_assoc]
              rfl
            have hT1 : T1.length = q := by rw [HT1.out, List.length_take]; omega
            have HT1l : Hid (q = T1.length) := hT1.symm
            have HL : Hid (T1.length ≤ 4096 ∧ T3.length ≤ k + 1 ∧ M.length - q = T4.length ∧ T1.length + 1 = (T1 ++ [(⟨lb, k, sq, kd⟩ : Fd)]).length ∧ k ≤ 4096) := ⟨by omega, by rw [HTN.out]; exact take_le, by rw [HT4.out, List.length_drop], by rw [List.length_append]; rfl, by omega⟩
            have HX : Hid (∀ W, Below wr.heap.size wr W → FRow W a T1 ∧ FRow W aD T4 ∧ RI w a cap M xb ⟨lb, k, sq, kd⟩ W) := fun W hb => ⟨by rw [HT1.out]; exact (hI.out.2.below hb).own.at.take q, by rw [HaD.out, HT4.out]; exact (hI.out.2.below hb).own.at.drop q hI.out.2.own.cap_le, hI.out.2.below hb⟩
            have HNil : Hid ((a = none → cap = 0) ∧ (aD = none → cap - q = 0)) := ⟨hI.out.2.own.nil_cap, by rw [HaD.out]; exact dropA_nil hI.out.2.own⟩
            have HBw : Hid (Below w.heap.size w wr) := hI.out.2.bel
            rw [← HaD.out] at S2
            clear hI hT1 HJ HN2 HGT HT1 HT4 HaD
            go_wp2
            go_quiet (fail)
            go_wp2
            go_quiet (fail)
            go_wp2_with (at_builtin; refine app_moreF rfl (.tmp 81) (.tmp 84) rfl wr.heap.size none 0 [] 0 rfl rfl (OwnF.nil _ _) a cap T1 q HT1l.out rfl HNil.out.1 (HX.out _ (by repeat (first | exact Below.refl _ _ | refine below_drewN ?_ _))).1 T1 rfl (Nat.le_trans HL.out.1 (by omega)) (Nat.le_refl _) ?_)
            intro a1 c1 w3 o1 k1
            have B3 : Hid (OwnF w3 wr.heap.size a1 c1 T1 ∧ Below wr.heap.size wr w3) := ⟨o1, Below.trans (by repeat (first | exact Below.refl _ _ | refine below_drewN ?_ _)) (k1.below (Nat.le_refl _) (fun b hb => by obtain ⟨x, e, _⟩ := hb; cases e))⟩
            clear o1 k1
            obtain ⟨z0, z1, z2, z3⟩ := box_at (HX.out w3 B3.out.2).2.2.box
            simp only at z0 z1 z2 z3
            go_wp2_with (at_builtin; refine app_stepF rfl (.tmp 86) (.tmp 88) rfl w3 wr.heap.size c1 a1 T1 ⟨lb, k, sq, kd⟩ rfl rfl B3.out.1 (by have := HL.out.1; omega) B3.out.2.size ?_)
            intro a2 c2 w4 o2 k2
            have B4 : Hid (OwnF w4 wr.heap.size a2 c2 (T1 ++ [⟨lb, k, sq, kd⟩]) ∧ Below wr.heap.size wr w4) := ⟨o2, B3.out.2.trans (k2.below B3.out.2.size (fun b hb => (B3.out.1.blk hb).1))⟩
            clear o2 k2 B3 z0 z1 z2 z3
            go_wp2_with (at_builtin; refine app_moreF rfl (.tmp 90) (.tmp 93) rfl wr.heap.size a2 c2 (T1 ++ [⟨lb, k, sq, kd⟩]) (T1.length + 1) HL.out.2.2.2.1 rfl B4.out.1 aD (cap - q) T4 (M.length - q) HL.out.2.2.1 rfl HNil.out.2 (HX.out w4 B4.out.2).2.1 T3 HT3.out (by have := HL.out.2.1; have := HL.out.2.2.2.2; omega) B4.out.2.size ?_)
            intro a3 c3 w5 o3 k3
            have B5 : Hid (OwnF w5 w.heap.size a3 c3 T3 ∧ Below w.heap.size w w5) := ⟨o3.base HBw.out.size, HBw.out.trans ((B4.out.2.trans (k3.below B4.out.2.size (fun b hb => (B4.out.1.blk hb).1))).mono HBw.out.size)⟩
            clear o3 k3 B4
            go_wp2
            exact ⟨⟨k + 1, a3, c3, T3, by omega, HL.out.2.1, rfl, by go_num, ⟨B5.out.1, B5.out.2, HTN.out⟩⟩, by simp [intOf]; omega⟩
    · obtain rfl : k = L.length := by omega
      have HE : Hid (NewOwn w wr (.returned (.slice a M.length cap)) L) := by
        have h := hR.out.2.2
        rw [List.take_length] at h
        subst h
        exact ⟨a, cap, rfl, hR.out.1, hR.out.2.1⟩
      clear hR hlt HO HC
      go_wp2
      go_ret
      exact HE.out
end Go.Proofs.YtdkafcgangcgbagGreatDoorQ

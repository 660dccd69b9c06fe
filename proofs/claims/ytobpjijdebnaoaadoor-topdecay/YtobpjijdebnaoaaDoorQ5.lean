/- Part of the proof. -/
import Derived.Test.YtobpjijdebnaoaaDoorQ4
import Derived.Lib.SliceRun
namespace Go.Proofs.YtobpjijdebnaoaaDoorQ
open Go.Proofs.YtobpjijdebnaoaaDoorM
open Go.RowKit
set_option linter.unusedVariables false
/-- What page i tells. -/
def fdP (L : List Pg) (i : Nat) : Fd := ⟨lbP (gP L i).p, i, sqP (gP L i).p, kdP (gP L i).p⟩
/-- It counts: valid, of data or gone. -/
def cntP (L : List Pg) (i : Nat) : Bool := stP (gP L i).p == 2 && (kdP (gP L i).p == 1 || kdP (gP L i).p == 2)
def flt (L : List Pg) (k : Nat) : List Nat := (List.range k).filter (cntP L)
theorem flt_len (L : List Pg) (k : Nat) : (flt L k).length ≤ k := by
  have := List.length_filter_le (cntP L) (List.range k)
  rw [List.length_range] at this
  exact this
theorem flt_yes {L : List Pg} {k : Nat} (h : cntP L k = true) : flt L (k + 1) = flt L k ++ [k] := by unfold flt; rw [List.range_succ, List.filter_append]; simp [h]
theorem flt_no {L : List Pg} {k : Nat} (h : cntP L k = false) : flt L (k + 1) = flt L k := by unfold flt; rw [List.range_succ, List.filter_append]; simp [h]
/-- First of each lba that stand beside one another. -/
def kep (M : List Fd) (n : Nat) : List Nat := (List.range n).filter fun i => i == 0 || (gF M i).lb != (gF M (i - 1)).lb
def cpt (M : List Fd) : List Fd := (kep M M.length).map (gF M)
/-- THE NEWEST, as scan.Newest says it. -/
def newF (L : List Pg) : List Fd := cpt ((srt (fdP L) (flt L L.length)).map (fdP L))
def CompactIs : Prop := ∀ (M : List Fd) (a : Option Addr) (cap base : Nat) (w : World), M.length ≤ 4096 → OwnF w base a cap M →
  Calls (Al.progOf Tryd.prog) 30 #[.slice a M.length cap, .func (.func 31) #[] #[]] w fun e w' => e = .returned (.slice a (cpt M).length cap) ∧ OwnF w' base a cap (cpt M) ∧ Keep (blk a) w w'
theorem sort_any (F : Nat → Fd) (hF : ∀ i, (F i).pg = i) (a : Option Addr) (cap base : Nat) (c : List Nat) (w : World) (hcl : c.length ≤ 4096) (hO : OwnF w base a cap (c.map F)) :
    Calls (Al.progOf Tryd.prog) 26 #[.slice a c.length cap, .func (.func 27) #[] #[]] w fun e w' => e = .returned (.tuple #[]) ∧ OwnF w' base a cap ((srt F c).map F) ∧ Keep (blk a) w w' := by
  rcases hO.parts with ⟨rfl, rfl, h⟩ | ⟨g, cur, rfl, _⟩
  · obtain rfl : c = [] := List.map_eq_nil_iff.1 h
    exact (sort_none none 0 _ w).mono fun e w' ⟨h1, h2⟩ => ⟨h1, by rw [h2, show srt F [] = [] from List.eq_nil_of_length_eq_zero (srt_len F [])]; exact hO, by rw [h2]; exact Keep.refl _ _⟩
  · exact (sort_some F hF g cap base c w hcl hO).mono fun e w' ⟨h1, h2, h3⟩ => ⟨h1, h2, h3.mono fun k hk => ⟨_, rfl, hk.symm⟩⟩
/-- Between two rounds. -/
structure NR (w w1 wr : World) (L : List Pg) (k : Nat) (a : Option Addr) (cap : Nat) : Prop where
  own : OwnF wr w1.heap.size a cap ((flt L k).map (fdP L))
  bel : Below w1.heap.size w1 wr
def NewPost (w w' : World) (e : Ending) (L : List Pg) : Prop := ∃ a cap, e = .returned (.tuple #[.slice a (newF L).length cap, .nilIface]) ∧ OwnF w' w.heap.size a cap (newF L) ∧ Below w.heap.size w w'
def lenW : Value → Nat
  | .slice _ n _ => n
  | _ => 0
set_option maxRecDepth 20000 in
set_option maxHeartbeats 4000000 in
theorem newest_of (hcp : CompactIs) (pa : Option Addr) (pc : Nat) (L : List Pg) (n : Int) (w : World) (h0 : ¬ n < 1) (h8 : ¬ n > 8) (hl : L.length ≤ 4096) (hp : Pgs w pa L) :
    Calls (Al.progOf Tryd.prog) 11 #[.slice pa L.length pc, .int .i64 n] w fun e w' => NewPost w w' e L := by
  have HLk : Hid (Calls (Al.progOf Tryd.prog) 25 #[.slice pa L.length pc, .int .i64 n] w fun e w' => LookPost w w' e L) := lookq_any pa pc L n w h0 h8 hl hp
  have HCp : Hid CompactIs := hcp
  clear hp hcp h0 h8
  go_enter Al.func11, Tryd.ntmps11
  go_wp2_with (go_at_call 25; refine HLk.out.mono ?_; rintro e w1 ⟨rfl, hRS⟩)
  obtain ⟨g, hg⟩ : ∃ g, g = w.heap.size := ⟨_, rfl⟩
  have HR : Hid (RS w w1 L L.length) := hRS
  have hgl : g < w1.heap.size := by rw [hg]; exact heap_lt hRS.row.choose_spec.1
  have HW : Hid (∀ wr, Below w1.heap.size w1 wr → Below w.heap.size w wr) := fun wr h => hRS.bel.trans (h.mono hRS.bel.size)
  have HX : Hid (∀ wr, Below w1.heap.size w1 wr → ∀ k, k < L.length → wr.cell? ⟨g, k * 5, none⟩ = some (.int .i64 (stP (gP L k).p : Nat)) ∧ FAt (fun o => wr.cell? ⟨g, o, none⟩) (k * 5 + 1) (fdP L k)) := fun wr h k hk => by
    obtain ⟨cs, h1, h2, h3⟩ := hRS.row
    have h4 := h3 k hk
    rw [← hg] at h1
    have h5 : wr.heap[g]? = some (.cells cs 66 (0, 0)) := (h.block g hgl).trans h1
    have hc : ∀ o, wr.cell? ⟨g, o, none⟩ = cs[o]? := fun o => by simp [World.cell?, h5]
    have e : k * 5 = 5 * k := by omega
    rw [e]
    exact ⟨(hc _).trans h4.c0, (hc _).trans h4.c1, (hc _).trans h4.c2, (hc _).trans h4.c3, (hc _).trans h4.c4⟩
  rw [← hg]
  clear hRS HLk hg
  go_loopw [8, 22] (fun v j wr => ∃ (k : Nat) (a : Option Addr) (cap : Nat), k ≤ L.length ∧ j = .int .i64 k ∧ v = .slice a ((flt L k).map (fdP L)).length cap ∧ Hid (NR w w1 wr L k a cap)) (fun _ j _ => L.length - (intOf j).toNat)
  case atStart => exact ⟨0, none, 0, Nat.zero_le _, rfl, rfl, ⟨OwnF.nil _ _, Below.refl _ _⟩⟩
  case round =>
    obtain ⟨k, a, cap, hk, rfl, rfl, hN⟩ := hrel
    by_cases hlt : k < L.length
    · obtain ⟨c0, c1, c2, c3, c4⟩ := HX.out wr hN.out.bel k hlt
      have k0 : (0 : Int) ≤ (k : Int) := by omega
      have k1 : (k : Int) < (L.length : Int) := by omega
      simp only [Nat.add_assoc, Nat.reduceAdd] at c1 c2 c3 c4
      have HS : Hid (cntP L k = (stP (gP L k).p == 2 && ((fdP L k).kd == 1 || (fdP L k).kd == 2))) := rfl
      have HB : Hid (∀ o1 : Obj, cntP L k = false → NR w w1 (wr.alloc o1) L (k + 1) a cap) := fun o1 hc => by
        have hb : Below wr.heap.size wr (wr.alloc o1) := alloc_below' wr o1
        exact ⟨by rw [flt_no hc]; exact hN.out.own.below hb, hN.out.bel.trans (hb.mono hN.out.bel.size)⟩
      have HA : Hid (∀ (o1 : Obj) a1 cap1 w2, cntP L k = true → OwnF w2 w1.heap.size a1 cap1 ((flt L k).map (fdP L) ++ [fdP L k]) → Keep (blk a) (wr.alloc o1) w2 → NR w w1 w2 L (k + 1) a1 cap1) := fun o1 a1 cap1 w2 hc ho hk2 => by
        have hb : Below wr.heap.size wr (wr.alloc o1) := alloc_below' wr o1
        refine ⟨by rw [flt_yes hc, List.map_append]; exact ho, (hN.out.bel.trans (hb.mono hN.out.bel.size)).trans (hk2.below (Nat.le_trans hN.out.bel.size hb.size) fun b hb => (hN.out.own.blk hb).1)⟩
      have HO : Hid (∀ o1 : Obj, OwnF (wr.alloc o1) w1.heap.size a cap ((flt L k).map (fdP L)) ∧ w1.heap.size ≤ (wr.alloc o1).heap.size) := fun o1 => by
        have hb : Below wr.heap.size wr (wr.alloc o1) := alloc_below' wr o1
        exact ⟨hN.out.own.below hb, Nat.le_trans hN.out.bel.size hb.size⟩
      have HM : Hid (((flt L k).map (fdP L)).length ≤ 4096) := by
        show _ ≤ 4096
        rw [List.length_map]
        have := flt_len L k
        omega
      have HF1 : Hid (cntP L k = false → ((flt L (k + 1)).map (fdP L)).length = ((flt L k).map (fdP L)).length) := fun h => by rw [flt_no h]
      have HF2 : Hid (cntP L k = true → ((flt L (k + 1)).map (fdP L)).length = ((flt L k).map (fdP L)).length + 1) := fun h => by rw [flt_yes h]; simp
      generalize hE : fdP L k = E at *
      obtain ⟨lb, pg, sq, kd⟩ := E
      simp only at c1 c2 c3 c4 HS
      generalize stP (gP L k).p = sv at *
      generalize hM : (flt L k).map (fdP L) = M at *
      clear hN
      have hx : ∀ (W : World) (m : Nat), m = W.heap.size → Value.slice (some ⟨m, 0, none⟩) 1 1 = Value.slice (some ⟨W.heap.size, 0, none⟩) 1 1 := fun W m h => by rw [h]
      by_cases hs : sv = 2
      · have hs2 : ((sv : Int) == 2) = true := by rw [beq_iff_eq]; omega
        by_cases h1 : kd = 1
        · have hcn : Hid (cntP L k = true) := by show _ = _; rw [HS.out]; simp [hs, h1]
          subst h1
          subst hs
          clear hs2
          clear HS
          go_wp2_with (at_builtin; refine app_stepF rfl (.tmp 41) (.tmp 44) rfl (wr.alloc _) w1.heap.size cap a M ⟨lb, pg, sq, 1⟩ (by rfl) (hx (wr.alloc _) _ (by simp)) (HO.out _).1 (by have := HM.out; omega) (HO.out _).2 ?_)
          intro a1 cap1 w2 ho hk2
          have HN := HA.out _ a1 cap1 w2 hcn.out ho hk2
          go_wp2
          exact ⟨⟨k + 1, a1, cap1, by omega, by go_num, by rw [HF2.out hcn.out], HN⟩, by simp [intOf]; omega⟩
        · have hs1 : ((kd : Int) == 1) = false := by rw [beq_eq_false_iff_ne]; omega
          by_cases h2 : kd = 2
          · have hcn : Hid (cntP L k = true) := by show _ = _; rw [HS.out]; simp [hs, h2]
            subst h2
            subst hs
            clear hs2 hs1 h1
            clear HS
            go_wp2_with (at_builtin; refine app_stepF rfl (.tmp 41) (.tmp 44) rfl (wr.alloc _) w1.heap.size cap a M ⟨lb, pg, sq, 2⟩ (by rfl) (hx (wr.alloc _) _ (by simp)) (HO.out _).1 (by have := HM.out; omega) (HO.out _).2 ?_)
            intro a1 cap1 w2 ho hk2
            have HN := HA.out _ a1 cap1 w2 hcn.out ho hk2
            go_wp2
            exact ⟨⟨k + 1, a1, cap1, by omega, by go_num, by rw [HF2.out hcn.out], HN⟩, by simp [intOf]; omega⟩
          · have hs3 : ((kd : Int) == 2) = false := by rw [beq_eq_false_iff_ne]; omega
            have hcn : Hid (cntP L k = false) := by show _ = _; rw [HS.out]; simp [h1, h2]
            clear HS
            go_wp2
            exact ⟨⟨k + 1, a, cap, by omega, by go_num, by rw [HF1.out hcn.out], HB.out _ hcn.out⟩, by simp [intOf]; omega⟩
      · have hs2 : ((sv : Int) == 2) = false := by rw [beq_eq_false_iff_ne]; omega
        have hcn : Hid (cntP L k = false) := by show _ = _; rw [HS.out]; simp [hs]
        clear HS
        go_wp2
        exact ⟨⟨k + 1, a, cap, by omega, by go_num, by rw [HF1.out hcn.out], HB.out _ hcn.out⟩, by simp [intOf]; omega⟩
    · obtain rfl : k = L.length := by omega
      have hcl : (flt L L.length).length ≤ 4096 := Nat.le_trans (flt_len L L.length) hl
      have HS : Hid (Calls (Al.progOf Tryd.prog) 26 #[.slice a ((flt L L.length).map (fdP L)).length cap, .func (.func 27) #[] #[]] wr fun e w' => e = .returned (.tuple #[]) ∧ Hid (OwnF w' w1.heap.size a cap ((srt (fdP L) (flt L L.length)).map (fdP L)) ∧ Below w1.heap.size w1 w')) := by
        have := sort_any (fdP L) (fun _ => rfl) a cap w1.heap.size (flt L L.length) wr hcl hN.out.own
        rw [← List.length_map (fdP L)] at this
        exact this.mono fun e w' ⟨h1, h2, h3⟩ => ⟨h1, h2, hN.out.bel.trans (h3.below hN.out.bel.size fun b hb => (hN.out.own.blk hb).1)⟩
      have HC : Hid (∀ w2, OwnF w2 w1.heap.size a cap ((srt (fdP L) (flt L L.length)).map (fdP L)) ∧ Below w1.heap.size w1 w2 → Calls (Al.progOf Tryd.prog) 30 #[.slice a ((flt L L.length).map (fdP L)).length cap, .func (.func 31) #[] #[]] w2 fun e w' => e = .returned (.slice a (newF L).length cap) ∧ Hid (NewPost w w' (.returned (.tuple #[.slice a (newF L).length cap, .nilIface])) L)) := fun w2 ⟨h1, h2⟩ => by
        have hln : ((srt (fdP L) (flt L L.length)).map (fdP L)).length = ((flt L L.length).map (fdP L)).length := by rw [List.length_map, List.length_map, srt_len]
        have := HCp.out ((srt (fdP L) (flt L L.length)).map (fdP L)) a cap w1.heap.size w2 (by rw [hln, List.length_map]; exact hcl) h1
        rw [hln] at this
        refine this.mono fun e w' ⟨g1, g2, g3⟩ => ⟨g1, a, cap, rfl, ?_, HW.out _ (h2.trans (g3.below h2.size fun b hb => (h1.blk hb).1))⟩
        exact g2.base (HR.out.bel.size)
      clear hN hlt HX HW HR HCp hcl
      generalize ((flt L L.length).map (fdP L)).length = ml at *
      go_wp2_with (first | (go_at_call 26; refine HS.out.mono ?_; rintro e w2 ⟨rfl, h2⟩) | (go_at_call 30; refine (HC.out _ h2.out).mono ?_; rintro e w3 ⟨rfl, h3⟩))
      go_ret2
      exact h3.out
end Go.Proofs.YtobpjijdebnaoaaDoorQ
namespace Go.Proofs.YtobpjijdebnaoaaDoorQ
open Go.Proofs.YtobpjijdebnaoaaDoorM
open Go.RowKit Go.Sort
set_option linter.unusedVariables false
def kpB (M : List Fd) (i : Nat) : Bool := i == 0 || (gF M i).lb != (gF M (i - 1)).lb
theorem kep_def (M : List Fd) (n : Nat) : kep M n = (List.range n).filter (kpB M) := rfl
theorem kep_len (M : List Fd) (n : Nat) : (kep M n).length ≤ n := by
  have := List.length_filter_le (kpB M) (List.range n)
  rw [List.length_range] at this
  exact this
theorem kep_yes {M : List Fd} {n : Nat} (h : kpB M n = true) : kep M (n + 1) = kep M n ++ [n] := by rw [kep_def, kep_def, List.range_succ, List.filter_append]; simp [h]
theorem kep_no {M : List Fd} {n : Nat} (h : kpB M n = false) : kep M (n + 1) = kep M n := by rw [kep_def, kep_def, List.range_succ, List.filter_append]; simp [h]
theorem kep_all {M : List Fd} {n : Nat} (h : ∀ i, i < n → kpB M i = true) : kep M n = List.range n := by
  rw [kep_def]
  exact List.filter_eq_self.2 fun a ha => h a (List.mem_range.1 ha)
theorem cpt_all {M : List Fd} (h : ∀ i, i < M.length → kpB M i = true) : cpt M = M := by
  unfold cpt
  rw [kep_all h]
  apply List.ext_getElem
  · simp
  · intro i h1 h2
    have hi : i < M.length := h2
    simp [gF, hi]
/-- The first loop: nothing was left out. -/
structure CO (w wr : World) (M : List Fd) (k : Nat) : Prop where
  all : ∀ i, i < k → kpB M i = true
  bel : Below w.heap.size w wr
theorem kp0 (M : List Fd) {i n : Nat} (hi : i < n) (hn : n ≤ 1) : kpB M i = true := by
  obtain rfl : i = 0 := by omega
  rfl
theorem CO.start (w : World) (M : List Fd) : CO w w M 1 := ⟨fun i hi => kp0 M hi (Nat.le_refl _), Below.refl _ _⟩
theorem kp_succ (M : List Fd) (m : Nat) : kpB M (m + 1) = ((gF M (m + 1)).lb != (gF M m).lb) := by simp [kpB]
theorem below_grow (w : World) (q : Nat) (os : Array Obj) : Below w.heap.size w (grow (w.drewN q) os) := by
  have h1 : Below w.heap.size w (w.drewN q) := below_drewN (Below.refl _ _) q
  refine ⟨h1.os, h1.tape, h1.output, Nat.le_trans h1.size (by rw [size_grow]; omega), fun k hk => ?_⟩
  rw [heap_grow_old _ _ (Nat.lt_of_lt_of_le hk h1.size)]
  exact h1.block k hk
theorem wrap_ok {x : Int} (h0 : -9223372036854775808 ≤ x) (h1 : x ≤ 9223372036854775807) : IntKind.i64.wrap x = x := by unfold IntKind.wrap; simp [IntKind.bits, IntKind.signed]; omega
/-- A world behind wr. -/
def SB (wr W : World) : Prop := Below wr.heap.size wr W
theorem SB.drew {wr W : World} (h : Hid (SB wr W)) : Hid (SB wr W.drew) := h.out.trans ((Below.refl _ _).drew)
theorem two_eq {wr W : World} {g o1 o2 x0 x1 x2 x3 y0 y1 y2 y3 : Nat} {bb : Bool} (hbb : ((x0 : Int) == (y0 : Int)) = bb) (h : W.cell? ⟨g, o1, none⟩ = some (.int .i64 (x0 : Nat)) ∧ W.cell? ⟨g, o1 + 1, none⟩ = some (.int .i64 (x1 : Nat)) ∧ W.cell? ⟨g, o1 + 2, none⟩ = some (.int .i64 (x2 : Nat)) ∧ W.cell? ⟨g, o1 + 3, none⟩ = some (.int .i64 (x3 : Nat)) ∧ W.cell? ⟨g, o2, none⟩ = some (.int .i64 (y0 : Nat)) ∧ W.cell? ⟨g, o2 + 1, none⟩ = some (.int .i64 (y1 : Nat)) ∧ W.cell? ⟨g, o2 + 2, none⟩ = some (.int .i64 (y2 : Nat)) ∧ W.cell? ⟨g, o2 + 3, none⟩ = some (.int .i64 (y3 : Nat)) ∧ Hid (SB wr W)) :
    Calls (Al.progOf Tryd.prog) 31 #[.agg #[.int .i64 (x0 : Nat), .int .i64 (x1 : Nat), .int .i64 (x2 : Nat), .int .i64 (x3 : Nat)], .agg #[.int .i64 (y0 : Nat), .int .i64 (y1 : Nat), .int .i64 (y2 : Nat), .int .i64 (y3 : Nat)]] W fun e w' => e = .returned (.bool bb) ∧ w'.cell? ⟨g, o1, none⟩ = some (.int .i64 (x0 : Nat)) ∧ w'.cell? ⟨g, o1 + 1, none⟩ = some (.int .i64 (x1 : Nat)) ∧ w'.cell? ⟨g, o1 + 2, none⟩ = some (.int .i64 (x2 : Nat)) ∧ w'.cell? ⟨g, o1 + 3, none⟩ = some (.int .i64 (x3 : Nat)) ∧ w'.cell? ⟨g, o2, none⟩ = some (.int .i64 (y0 : Nat)) ∧ w'.cell? ⟨g, o2 + 1, none⟩ = some (.int .i64 (y1 : Nat)) ∧ w'.cell? ⟨g, o2 + 2, none⟩ = some (.int .i64 (y2 : Nat)) ∧ w'.cell? ⟨g, o2 + 3, none⟩ = some (.int .i64 (y3 : Nat)) ∧ Hid (SB wr w') := by
  refine (second_any _ _ _ _ _ _ _ _ W).mono ?_
  rintro e w' ⟨h1, q, os, h2⟩
  have hb : Below W.heap.size W w' := by rw [h2]; exact below_grow W q os
  obtain ⟨a0, a1, a2, a3, b0, b1, b2, b3, hs⟩ := h
  exact ⟨by rw [h1, hbb], lies_cell hb a0, lies_cell hb a1, lies_cell hb a2, lies_cell hb a3, lies_cell hb b0, lies_cell hb b1, lies_cell hb b2, lies_cell hb b3, hs.out.trans (hb.mono hs.out.size)⟩
/-- The second loop: q pages were gone through, p of them are left, and lie first. -/
structure CI (w wr : World) (g cap : Nat) (M : List Fd) (q p : Nat) : Prop where
  cnt : p = (kep M q).length
  lt : p < q
  kee : Keep (fun b => b = g) w wr
  row : ∃ cur, wr.heap[g]? = some (.cells cur 44 (0, 0)) ∧ cur.size = cap * 4 ∧ (∀ i, i < p → FAt (fun o => cur[o]?) (i * 4) (gF M ((kep M q)[i]?.getD 0))) ∧ (∀ i, q ≤ i + 1 → i < M.length → FAt (fun o => cur[o]?) (i * 4) (gF M i))
theorem CI.sb {w wr W : World} {g cap q p : Nat} {M : List Fd} (h : CI w wr g cap M q p) (hb : SB wr W) : CI w W g cap M q p := by
  obtain ⟨cur, h1, h2⟩ := h.row
  exact ⟨h.cnt, h.lt, h.kee.trans (Keep.of_below hb), cur, (hb.block g (heap_lt h1)).trans h1, h2⟩
theorem CI.start {w wr : World} {base g cap k : Nat} {M : List Fd} (hO : OwnF w base (some ⟨g, 0, none⟩) cap M) (h : CO w wr M k) (hk : k < M.length) (hd : kpB M k = false) : CI w wr g cap M (k + 1) k := by
  have e : kep M (k + 1) = List.range k := by rw [kep_no hd, kep_all h.all]
  rcases hO.parts with ⟨e, _⟩ | ⟨g', cur, e', h1, h2, h3, h4, h5, h6⟩
  · cases e
  · cases e'
    have hcur : ∀ i, i < M.length → FAt (fun o => cur[o]?) (i * 4) (gF M i) := fun i hi => by
      have hc : ∀ j, j < M.length * 4 → cur[j]? = (cellsF M)[j]? := fun j hj => by rw [← h6, List.getElem?_take, if_pos hj, Array.getElem?_toList]
      obtain ⟨q0, q1, q2, q3⟩ := cellsF_at M i hi
      exact ⟨(hc _ (by omega)).trans q0, (hc _ (by omega)).trans q1, (hc _ (by omega)).trans q2, (hc _ (by omega)).trans q3⟩
    refine ⟨by rw [e, List.length_range], Nat.lt_succ_self _, Keep.of_below h.bel, cur, (h.bel.block g (heap_lt h2)).trans h2, h5, fun i hi => ?_, fun i _ hi => hcur i hi⟩
    rw [e, List.getElem?_range hi]
    exact hcur i (by omega)
theorem CI.skip {w wr : World} {g cap q p : Nat} {M : List Fd} (h : CI w wr g cap M q p) (hd : kpB M q = false) : CI w wr g cap M (q + 1) p := by
  obtain ⟨cur, h1, h2, h3, h4⟩ := h.row
  have e := kep_no hd
  exact ⟨by rw [e]; exact h.cnt, by have := h.lt; omega, h.kee, cur, h1, h2, by rw [e]; exact h3, fun i hi => h4 i (by omega)⟩
theorem set_row {w : World} {g : Nat} {cur : Array Value} {t : TypeId} {f : Nat × Nat} (h : w.heap[g]? = some (.cells cur t f)) (o : Nat) (v : Value) : (w.setCell ⟨g, o, none⟩ v).heap[g]? = some (.cells (cur.setIfInBounds o v) t f) := by
  rw [setCell_eq]
  simp [mapBlock, Array.getElem?_modify, h, onCells]
theorem keep_set {w wr : World} {g : Nat} (h : Keep (fun b => b = g) w wr) (o : Nat) (v : Value) : Keep (fun b => b = g) w (wr.setCell ⟨g, o, none⟩ v) := Keep.set (p := ⟨g, o, none⟩) h rfl v
/-- Four cells are set. -/
def put4 (wr : World) (g o : Nat) (x : Fd) : World := (((wr.setCell ⟨g, o, none⟩ (.int .i64 (x.lb : Nat))).setCell ⟨g, o + 1, none⟩ (.int .i64 (x.pg : Nat))).setCell ⟨g, o + 2, none⟩ (.int .i64 (x.sq : Nat))).setCell ⟨g, o + 3, none⟩ (.int .i64 (x.kd : Nat))
theorem set4_far (cur : Array Value) (o : Nat) (v0 v1 v2 v3 : Value) (j : Nat) (h : j < o ∨ o + 4 ≤ j) : ((((cur.setIfInBounds o v0).setIfInBounds (o + 1) v1).setIfInBounds (o + 2) v2).setIfInBounds (o + 3) v3)[j]? = cur[j]? := by
  rw [Array.getElem?_setIfInBounds_ne (by omega), Array.getElem?_setIfInBounds_ne (by omega), Array.getElem?_setIfInBounds_ne (by omega), Array.getElem?_setIfInBounds_ne (by omega)]
theorem CI.put {w wr : World} {g cap q p : Nat} {M : List Fd} (h : CI w wr g cap M q p) (hq : q < M.length) (hc : M.length ≤ cap) (hd : kpB M q = true) : CI w (put4 wr g (p * 4) (gF M q)) g cap M (q + 1) (p + 1) := by
  obtain ⟨cur, h1, h2, h3, h4⟩ := h.row
  have e := kep_yes hd
  have hlt := h.lt
  refine ⟨by rw [e, List.length_append, ← h.cnt]; rfl, by omega, keep_set (keep_set (keep_set (keep_set h.kee _ _) _ _) _ _) _ _, _, set_row (set_row (set_row (set_row h1 _ _) _ _) _ _) _ _, by simp [h2], fun i hi => ?_, fun i hi hi2 => ?_⟩
  · by_cases e2 : i = p
    · have ep : (kep M (q + 1))[i]?.getD 0 = q := by rw [e, e2, h.cnt, List.getElem?_append_right (Nat.le_refl _)]; simp
      rw [ep, e2]
      have hb : p * 4 + 3 < cur.size := by omega
      refine ⟨?_, ?_, ?_, ?_⟩ <;> simp [Array.getElem?_setIfInBounds] <;> omega
    · have ep : (kep M (q + 1))[i]?.getD 0 = (kep M q)[i]?.getD 0 := by rw [e, List.getElem?_append_left (by rw [← h.cnt]; omega)]
      rw [ep]
      obtain ⟨q0, q1, q2, q3⟩ := h3 i (by omega)
      exact ⟨(set4_far _ _ _ _ _ _ _ (by omega)).trans q0, (set4_far _ _ _ _ _ _ _ (by omega)).trans q1, (set4_far _ _ _ _ _ _ _ (by omega)).trans q2, (set4_far _ _ _ _ _ _ _ (by omega)).trans q3⟩
  · obtain ⟨q0, q1, q2, q3⟩ := h4 i (by omega) hi2
    exact ⟨(set4_far _ _ _ _ _ _ _ (by omega)).trans q0, (set4_far _ _ _ _ _ _ _ (by omega)).trans q1, (set4_far _ _ _ _ _ _ _ (by omega)).trans q2, (set4_far _ _ _ _ _ _ _ (by omega)).trans q3⟩
theorem CI.two {w wr : World} {g cap q p : Nat} {M : List Fd} (h : CI w wr g cap M q p) {i : Nat} (hi : q ≤ i + 1) (hi2 : i < M.length) : FAt (fun o => wr.cell? ⟨g, o, none⟩) (i * 4) (gF M i) := by
  obtain ⟨cur, h1, h2, h3, h4⟩ := h.row
  obtain ⟨q0, q1, q2, q3⟩ := h4 i hi hi2
  have hc : ∀ o, wr.cell? ⟨g, o, none⟩ = cur[o]? := fun o => by simp [World.cell?, h1]
  exact ⟨(hc _).trans q0, (hc _).trans q1, (hc _).trans q2, (hc _).trans q3⟩
theorem cells_set {g : Nat} {t : TypeId} {f : Nat × Nat} : ∀ (vs : List Value) (o : Nat) (w : World) (cur : Array Value), w.heap[g]? = some (.cells cur t f) →
    (∃ cur', (w.setCells g o vs).heap[g]? = some (.cells cur' t f) ∧ cur'.size = cur.size ∧ ∀ j, j < o → cur'[j]? = cur[j]?) ∧ Keep (fun b => b = g) w (w.setCells g o vs)
  | [], o, w, cur, h => ⟨⟨cur, h, rfl, fun _ _ => rfl⟩, Keep.refl _ _⟩
  | v :: r, o, w, cur, h => by
    obtain ⟨⟨cur', h1, h2, h3⟩, h4⟩ := cells_set r (o + 1) (w.setCell ⟨g, o, none⟩ v) (cur.setIfInBounds o v) (set_row h o v)
    refine ⟨⟨cur', h1, by rw [h2]; simp, fun j hj => ?_⟩, (keep_set (Keep.refl _ w) o v).trans h4⟩
    rw [h3 j (by omega), Array.getElem?_setIfInBounds_ne (by omega)]
abbrev zF : Value := .agg #[.int .i64 0, .int .i64 0, .int .i64 0, .int .i64 0]
theorem zF_one (n : Nat) : ∀ v ∈ (Builtin.zeroCells zF.cells n).toList, v.oneCell' = true := by
  intro v hv
  have e : zF.cells = #[.int .i64 0, .int .i64 0, .int .i64 0, .int .i64 0] := by rfl
  rw [e] at hv
  simp only [Builtin.zeroCells, Array.toList_map, List.mem_map] at hv
  obtain ⟨i, _, rfl⟩ := hv
  have hm : i % 4 = 0 ∨ i % 4 = 1 ∨ i % 4 = 2 ∨ i % 4 = 3 := by omega
  rcases hm with h | h | h | h <;> simp [h] <;> rfl
theorem zF_len (n : Nat) : (Builtin.zeroCells zF.cells n).toList.length = n * 4 := by
  have e : zF.cells = #[.int .i64 0, .int .i64 0, .int .i64 0, .int .i64 0] := by rfl
  rw [e]
  simp [Builtin.zeroCells]
theorem run_clearF (w : World) (ty : TypeId) (g o n c : Nat) (hn : 0 < n) (hc : ∀ j, j < n * 4 → (w.cell? ⟨g, o + j, none⟩).isSome = true) (hf : ∀ j, j < n * 4 → w.frozen? ⟨g, o + j, none⟩ = false) :
    (Builtin.clear_ #[39] ty #[.slice (some ⟨g, o, none⟩) n c]).run (Al.progOf Tryd.prog) w = .ok (.tuple #[]) (w.setCells g o (Builtin.zeroCells zF.cells n).toList) := by
  have hst := run_storeCells_cells (P := (Al.progOf Tryd.prog)) g o (Builtin.zeroCells zF.cells n).toList 0 w (by rw [zF_len]; simpa using hc) (by rw [zF_len]; simpa using hf) (zF_one n)
  simp only [Nat.add_zero] at hst
  generalize hZ : (Builtin.zeroCells zF.cells n).toList = Z at *
  obtain ⟨m, rfl⟩ : ∃ m, n = m + 1 := ⟨n - 1, by omega⟩
  simp [Builtin.clear_, run_underlying undF, hZ, hst]
theorem CI.cells {w wr : World} {g cap q p : Nat} {M : List Fd} (h : CI w wr g cap M q p) (hc : M.length ≤ cap) : (∀ j, j < (M.length - p) * 4 → (wr.cell? ⟨g, p * 4 + j, none⟩).isSome = true) ∧ ∀ j, wr.frozen? ⟨g, j, none⟩ = false := by
  obtain ⟨cur, h1, h2, _, _⟩ := h.row
  refine ⟨fun j hj => ?_, fun j => row_free h1 j⟩
  have : p * 4 + j < cur.size := by omega
  simp [World.cell?, h1, this]
theorem CI.have1 {w wr : World} {g cap q p : Nat} {M : List Fd} (h : CI w wr g cap M q p) (hc : M.length ≤ cap) {j : Nat} (hj : j < M.length * 4) : ∃ v, wr.cell? ⟨g, j, none⟩ = Option.some v := by
  obtain ⟨cur, h1, h2, _, _⟩ := h.row
  have : j < cur.size := by omega
  exact ⟨cur[j], by simp [World.cell?, h1, this]⟩
theorem CI.done {w wr : World} {base g cap p : Nat} {M : List Fd} (h : CI w wr g cap M M.length p) (hb : base ≤ g) (hc : M.length ≤ cap) (hm : cap ≤ maxLen) (vs : List Value) : p = (cpt M).length ∧ OwnF (wr.setCells g (p * 4) vs) base (some ⟨g, 0, none⟩) cap (cpt M) ∧ Keep (blk (some ⟨g, 0, none⟩)) w (wr.setCells g (p * 4) vs) := by
  obtain ⟨cur, h1, h2, h3, _⟩ := h.row
  obtain ⟨⟨cur', g1, g2, g3⟩, g4⟩ := cells_set vs (p * 4) wr cur h1
  have hp : p = (cpt M).length := by unfold cpt; rw [List.length_map]; exact h.cnt
  have hlt := h.lt
  refine ⟨hp, ⟨by rw [cellsF_len], .inr ⟨g, cap, cur', rfl, hb, g1, by omega, hm, by omega, ?_⟩⟩, (h.kee.trans g4).mono fun k hk => ⟨_, rfl, hk.symm⟩⟩
  apply List.ext_getElem?
  intro j
  rw [List.getElem?_take]
  by_cases hj : j < (cpt M).length * 4
  · rw [if_pos hj, Array.getElem?_toList, g3 j (by omega)]
    obtain ⟨a0, a1, a2, a3⟩ := h3 (j / 4) (by omega)
    have hgi : gF (cpt M) (j / 4) = gF M ((kep M M.length)[j / 4]?.getD 0) := by
      have hl : j / 4 < (kep M M.length).length := by rw [← h.cnt]; omega
      unfold cpt gF
      rw [List.getElem?_map, List.getElem?_eq_getElem hl]
      rfl
    rw [← hgi] at a0 a1 a2 a3
    obtain ⟨b0, b1, b2, b3⟩ := cellsF_at (cpt M) (j / 4) (by omega)
    have hm : j = j / 4 * 4 ∨ j = j / 4 * 4 + 1 ∨ j = j / 4 * 4 + 2 ∨ j = j / 4 * 4 + 3 := by omega
    generalize j / 4 = i at *
    rcases hm with rfl | rfl | rfl | rfl
    · exact a0.trans b0.symm
    · exact a1.trans b1.symm
    · exact a2.trans b2.symm
    · exact a3.trans b3.symm
  · rw [if_neg hj, List.getElem?_eq_none (by rw [cellsF_len]; omega)]
end Go.Proofs.YtobpjijdebnaoaaDoorQ

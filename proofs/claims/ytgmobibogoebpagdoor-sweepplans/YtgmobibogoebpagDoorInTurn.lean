/-
  What the call of sweep.inTurn gives: the blocks that can be emptied, in the order in which they are chosen.
-/
import Derived.Test.YtgmobibogoebpagDoorSort
import Derived.Test.YtgmobibogoebpagDoorSortNone
namespace Go.Proofs.YtgmobibogoebpagDoor
open Go.Shelf Go.RowKit Go.Lib Go.Sort
set_option linter.unusedVariables false

/-- Those of the first k that can be emptied. -/
def cands (l : List Bl) (p : Int) : Nat → List Nat
  | 0 => []
  | k + 1 => if (gB l k).used = true ∧ (gB l k).live < p then cands l p k ++ [k] else cands l p k
theorem cands_yes {l : List Bl} {p : Int} {k : Nat} (h : (gB l k).used = true ∧ (gB l k).live < p) : cands l p (k + 1) = cands l p k ++ [k] := by rw [cands, if_pos h]
theorem cands_no {l : List Bl} {p : Int} {k : Nat} (h : ¬ ((gB l k).used = true ∧ (gB l k).live < p)) : cands l p (k + 1) = cands l p k := by rw [cands, if_neg h]
theorem cands_mem (l : List Bl) (p : Int) : ∀ (k i : Nat), i ∈ cands l p k ↔ i < k ∧ (gB l i).used = true ∧ (gB l i).live < p
  | 0, i => by simp [cands]
  | k + 1, i => by
    have ih := cands_mem l p k i
    by_cases h : (gB l k).used = true ∧ (gB l k).live < p
    · rw [cands_yes h, List.mem_append, ih, List.mem_singleton]
      constructor
      · rintro (⟨a, b⟩ | rfl)
        · exact ⟨by omega, b⟩
        · exact ⟨by omega, h⟩
      · rintro ⟨a, b⟩
        by_cases e : i = k
        · exact Or.inr e
        · exact Or.inl ⟨by omega, b⟩
    · rw [cands_no h, ih]
      constructor
      · rintro ⟨a, b⟩; exact ⟨by omega, b⟩
      · rintro ⟨a, b⟩
        by_cases e : i = k
        · subst e; exact absurd b h
        · exact ⟨by omega, b⟩
theorem cands_nodup (l : List Bl) (p : Int) : ∀ k, (cands l p k).Nodup
  | 0 => by simp [cands]
  | k + 1 => by
    by_cases h : (gB l k).used = true ∧ (gB l k).live < p
    · rw [cands_yes h, List.nodup_append]
      refine ⟨cands_nodup l p k, by simp, fun a ha b hb => ?_⟩
      have := ((cands_mem l p k a).1 ha).1
      simp at hb
      omega
    · rw [cands_no h]; exact cands_nodup l p k
theorem cands_len (l : List Bl) (p : Int) : ∀ k, (cands l p k).length ≤ k
  | 0 => by simp [cands]
  | k + 1 => by
    have := cands_len l p k
    by_cases h : (gB l k).used = true ∧ (gB l k).live < p
    · rw [cands_yes h, List.length_append, List.length_singleton]; omega
    · rw [cands_no h]; omega
theorem ord_of {l : List Bl} {p : Int} {o : List Nat} (hp : o.Perm (cands l p l.length)) (hs : o.Pairwise (fun i j => ¬ ltB l j i)) : IsOrd l p o := by
  refine ⟨fun i => by rw [hp.mem_iff, cands_mem]; exact Iff.rfl, ?_⟩
  have hn : o.Nodup := hp.nodup_iff.2 (cands_nodup l p _)
  exact (hs.and hn).imp (fun h => (ltB_tot h.2).resolve_right h.1)
theorem ord_none {l : List Bl} {p : Int} (h : cands l p l.length = []) : IsOrd l p [] := ord_of (by rw [h]) List.Pairwise.nil
/-- What lies there while the numbers are gathered. -/
structure TS (w wr : World) (g off cap : Nat) (l : List Bl) (a : Option Addr) (ca : Nat) (c : List Nat) : Prop where
  bel : Below w.heap.size w wr
  sz : w.heap.size + 1 ≤ wr.heap.size
  bx : wr.cell? ⟨w.heap.size, 0, none⟩ = some (.slice (some ⟨g, off, none⟩) l.length cap)
  own : OwnI wr (w.heap.size + 1) a ca c
theorem TS.below {w wr w' : World} {g off cap ca : Nat} {l : List Bl} {a : Option Addr} {c : List Nat} (h : TS w wr g off cap l a ca c) (hb : Below wr.heap.size wr w') : TS w w' g off cap l a ca c :=
  ⟨h.bel.trans (hb.mono h.bel.size), Nat.le_trans h.sz hb.size, (hb.cell (p := ⟨w.heap.size, 0, none⟩) h.sz).trans h.bx, h.own.below hb⟩
theorem TS.turn {w wr w' : World} {g off cap ca ca' : Nat} {l : List Bl} {a a' : Option Addr} {c c' : List Nat} (h : TS w wr g off cap l a ca c) (hk : Keep (blk a) wr w') (ho : OwnI w' (w.heap.size + 1) a' ca' c') : TS w w' g off cap l a' ca' c' :=
  ⟨h.bel.trans (hk.below h.bel.size (fun b hb => by have := (h.own.blk hb).1; omega)), Nat.le_trans h.sz hk.size, (hk.cell (p := ⟨w.heap.size, 0, none⟩) h.sz (fun hb => by have := (h.own.blk hb).1; simp at this; omega)).trans h.bx, ho⟩
def TurnPost (w w' : World) (e : Ending) (l : List Bl) (p : Int) : Prop := ∃ a cap o, e = .returned (.slice a o.length cap) ∧ IsOrd l p o ∧ OwnI w' w.heap.size a cap o ∧ Below w.heap.size w w'
theorem TS.sort {w wr : World} {g off cap ca : Nat} {l : List Bl} {a : Option Addr} {c : List Nat} {p : Int} (h : TS w wr g off cap l a ca c) (hc : c = cands l p l.length) (h64 : l.length ≤ 64) (hat : ∀ i, i < l.length → BlAt w g off i (gB l i)) (hg : g < w.heap.size) :
    Calls Tryd.prog 14 #[.slice a c.length ca, .func (.func 15) #[] #[.pointer (some ⟨w.heap.size, 0, none⟩)]] wr fun e w' => e = .returned (.tuple #[]) ∧ TurnPost w w' (.returned (.slice a c.length ca)) l p := by
  rcases h.own.parts with ⟨rfl, rfl, rfl⟩ | ⟨gr, cur, rfl, q1, q2, q3, _⟩
  · exact (sort_none none 0 _ wr).mono fun e w' ⟨e1, e2⟩ => ⟨e1, none, 0, [], rfl, ord_none hc.symm, e2 ▸ h.own.base (by omega), e2 ▸ h.bel⟩
  · by_cases h0 : 0 < c.length
    · refine (sort_some w.heap.size g off cap l wr (w.heap.size + 1) gr ca c h64 (fun i hi => by rw [hc, cands_mem] at hi; exact hi.1) h0 (by rw [hc]; have := cands_len l p l.length; omega) h.bx (fun i hi => (hat i hi).keep (S := fun _ => False) (Keep.of_below h.bel) (fun e => e)) h.own (by omega) (by omega)).mono ?_
      rintro e w' ⟨e1, o, hp, hs, ho, hk⟩
      refine ⟨e1, some ⟨gr, 0, none⟩, ca, o, by rw [hp.length_eq], ord_of (hc ▸ hp) hs, ho.base (by omega), h.bel.trans (hk.below h.bel.size (fun b hb => by omega))⟩
    · have hz : c = [] := List.length_eq_zero_iff.1 (by omega)
      subst hz
      refine (sort_none (some ⟨gr, 0, none⟩) ca (.func (.func 15) #[] #[.pointer (some ⟨w.heap.size, 0, none⟩)]) wr).mono ?_
      rintro e w' ⟨e1, e2⟩
      exact ⟨e1, some ⟨gr, 0, none⟩, ca, [], rfl, ord_none hc.symm, e2 ▸ h.own.base (by omega), e2 ▸ h.bel⟩
set_option maxHeartbeats 3200000 in
theorem inTurn_some (g off cap : Nat) (l : List Bl) (p : Int) (w : World) (h64 : l.length ≤ 64) (h0 : 0 < l.length) (hat : ∀ i, i < l.length → BlAt w g off i (gB l i)) :
    Calls Tryd.prog 11 #[.slice (some ⟨g, off, none⟩) l.length cap, .int .i64 p] w fun e w' => TurnPost w w' e l p := by
  have hg := (hat 0 h0).lt
  have HA : Hid (∀ wr, Below w.heap.size w wr → ∀ i, i < l.length → BlAt wr g off i (gB l i)) := fun wr hb i hi => (hat i hi).keep (S := fun _ => False) (Keep.of_below hb) (fun e => e)
  have HS : Hid (∀ wr a ca c, TS w wr g off cap l a ca c → c = cands l p l.length → Calls Tryd.prog 14 #[.slice a c.length ca, .func (.func 15) #[] #[.pointer (some ⟨w.heap.size, 0, none⟩)]] wr fun e w' => e = .returned (.tuple #[]) ∧ TurnPost w w' (.returned (.slice a c.length ca)) l p) := fun wr a ca c h hc => h.sort hc h64 hat hg
  have H0 : Hid (TS w (w.alloc (.cells #[.slice (some ⟨g, off, none⟩) l.length cap] 23)) g off cap l none 0 []) := ⟨alloc_below' w _, by simp, by simp, OwnI.nil _ _⟩
  clear hat h0 hg
  go_enter Tryd.func11, Tryd.ntmps11
  go_wp2
  go_loopw [5, 10] (fun s j wr => ∃ (k : Nat) (a : Option Addr) (ca : Nat) (c : List Nat), k ≤ l.length ∧ j = .int .i64 k ∧ s = .slice a c.length ca ∧ Hid (TS w wr g off cap l a ca c ∧ c = cands l p k)) (fun _ j _ => l.length - (intOf j).toNat)
  case atStart => exact ⟨0, none, 0, [], Nat.zero_le _, rfl, rfl, H0.out, rfl⟩
  case round =>
    obtain ⟨k, a, ca, c, hk, rfl, rfl, hR⟩ := hrel
    clear H0
    by_cases hlt : k < l.length
    · obtain ⟨c0, c1, c2⟩ := HA.out wr hR.out.1.bel k hlt
      have HB : Hid (TS w (wr.alloc (.cells #[.bool (gB l k).used, .int .i64 (gB l k).live, .int .i64 (gB l k).wear] 39)) g off cap l a ca c) := hR.out.1.below (alloc_below' wr _)
      have HY : Hid ((gB l k).used = true ∧ (gB l k).live < p → c ++ [k] = cands l p (k + 1)) := fun h => by rw [cands_yes h, ← hR.out.2]
      have HN : Hid (¬ ((gB l k).used = true ∧ (gB l k).live < p) → c = cands l p (k + 1)) := fun h => by rw [cands_no h, ← hR.out.2]
      have HL : Hid (c.length ≤ 4096) := by have := cands_len l p k; rw [← hR.out.2] at this; exact Nat.le_trans this (by omega)
      clear hR
      generalize (gB l k).used = u at *
      generalize (gB l k).live = li at *
      generalize (gB l k).wear = we at *
      cases u with
      | false =>
        go_wp2
        exact ⟨⟨k + 1, a, ca, c, by omega, by go_num, rfl, HB.out, HN.out (by simp)⟩, by simp [intOf]; omega⟩
      | true =>
        by_cases hp : li < p
        · go_wp2_with (at_builtin; refine app_stepI rfl (.tmp 23) (.tmp 25) rfl (wr.alloc (.cells #[.bool true, .int .i64 li, .int .i64 we] 39)) (w.heap.size + 1) ca a c k (by rfl) (by simp [Act.eval]) HB.out.own HL.out HB.out.sz ?_; intro g2 ca2 w2 ho2 hk2; have HF : Hid (TS w w2 g off cap l (some ⟨g2, 0, none⟩) ca2 (c ++ [k])) := HB.out.turn hk2 ho2; clear ho2 hk2 HB)
          exact ⟨⟨k + 1, some ⟨g2, 0, none⟩, ca2, c ++ [k], by omega, by go_num, by simp, HF.out, HY.out ⟨rfl, hp⟩⟩, by simp [intOf]; omega⟩
        · go_wp2
          exact ⟨⟨k + 1, a, ca, c, by omega, by go_num, rfl, HB.out, HN.out (by simp [hp])⟩, by simp [intOf]; omega⟩
    · obtain rfl : k = l.length := by omega
      clear hlt
      have HT := HS.out wr a ca c hR.out.1 hR.out.2
      clear HS HA hR
      go_wp2_with fail
      refine HT.mono ?_
      rintro e w3 ⟨rfl, hP⟩
      have HP : Hid (TurnPost w w3 (.returned (.slice a c.length ca)) l p) := hP
      clear hP HT
      go_wp2
      go_ret
      exact HP.out
set_option maxHeartbeats 1600000 in
theorem inTurn_none (a : Option Addr) (cap : Nat) (p : Int) (w : World) : Calls Tryd.prog 11 #[.slice a 0 cap, .int .i64 p] w fun e w' => TurnPost w w' e [] p := by
  have HS : Hid (∀ fv wr, Calls Tryd.prog 14 #[.slice none 0 0, fv] wr fun e w' => e = .returned (.tuple #[]) ∧ w' = wr) := fun fv wr => sort_none none 0 fv wr
  have HP : Hid (∀ o, TurnPost w (w.alloc o) (.returned (.slice none 0 0)) [] p) := fun o => ⟨none, 0, [], rfl, ord_none rfl, OwnI.nil _ _, alloc_below' w _⟩
  go_enter Tryd.func11, Tryd.ntmps11
  go_wp2
  go_loopw [5, 10] (fun s j wr => s = .slice none 0 0 ∧ j = .int .i64 0 ∧ wr = w.alloc (.cells #[.slice a 0 cap] 23)) (fun _ _ _ => 0)
  case atStart => exact ⟨rfl, rfl, rfl⟩
  case round =>
    obtain ⟨rfl, rfl, rfl⟩ := hrel
    go_wp2_with fail
    refine (HS.out _ _).mono ?_
    rintro e w3 ⟨rfl, rfl⟩
    go_wp2
    go_ret
    exact HP.out _
end Go.Proofs.YtgmobibogoebpagDoor

/-
  What the calls that build a list give: pagesOf, arePages, pagesLie, listOf, writeList.
-/
import Derived.Test.YtdkafcgangcgbajInts
import Derived.Test.YtdkafcgangcgbajMathBack
namespace Go.Proofs.Ytdkafcgangcgbaj
open Go.RowKit
set_option linter.unusedVariables false

set_option maxHeartbeats 800000 in
theorem pagesOf_any (n : Nat) (w : World) (h : n ≤ 1048576) : Calls Try.prog 16 #[.int .i64 (n : Nat)] w fun e w' => e = .returned (.int .i64 (((n + 63) / 64 : Nat) : Int)) ∧ w = w' := by
  have e1 : ((n : Int) + 64 - 1) / 64 = (((n + 63) / 64 : Nat) : Int) := by omega
  generalize (n + 63) / 64 = q at *
  go_enter Try.func16, Try.ntmps16
  go_wp2
  go_ret
  exact ⟨ret_int e1, rfl⟩
/-- All are pages' addresses. -/
def areF : List Int → Bool
  | [] => true
  | p :: r => decide (pageA p) && areF r
theorem areF_at : ∀ {L : List Int}, areF L = true → ∀ k, k < L.length → pageA (gI L k)
  | [], _, k, h => by simp at h
  | s :: r, h, 0, _ => by simp only [areF, Bool.and_eq_true, decide_eq_true_eq] at h; exact h.1
  | s :: r, h, k + 1, hk => by
    simp only [areF, Bool.and_eq_true] at h
    exact areF_at h.2 k (by simpa using hk)
theorem areF_no : ∀ {L : List Int} k, k < L.length → ¬ pageA (gI L k) → areF L = false
  | [], k, h, _ => by simp at h
  | s :: r, 0, _, h => by
    have : decide (pageA s) = false := decide_eq_false h
    simp only [areF, this, Bool.false_and]
  | s :: r, k + 1, hk, h => by
    have := areF_no (L := r) k (by simpa using hk) h
    simp only [areF, this, Bool.and_false]
theorem areF_drop {L : List Int} {k : Nat} (h : k < L.length) : areF (L.drop k) = (decide (pageA (gI L k)) && areF (L.drop (k + 1))) := by
  rw [List.drop_eq_getElem_cons h]
  unfold gI
  rw [List.getElem?_eq_getElem h]
  rfl
set_option maxRecDepth 20000 in
set_option maxHeartbeats 1600000 in
theorem are_some (g off cap : Nat) (L : List Int) (w : World) (hat : ∀ i, i < L.length → w.cell? ⟨g, off + i, none⟩ = some (.int .i64 (gI L i))) (hlen : L.length ≤ 1048576) :
    Calls Try.prog 17 #[.slice (some ⟨g, off, none⟩) L.length cap] w fun e w' => e = .returned (.bool (areF L)) ∧ w = w' := by
  have HA : Hid (∀ i, i < L.length → w.cell? ⟨g, off + i, none⟩ = some (.int .i64 (gI L i))) := hat
  clear hat
  go_enter Try.func17, Try.ntmps17
  go_wp2
  go_loop [7] (fun j => ∃ k : Nat, k ≤ L.length ∧ j = .int .i64 k ∧ Hid (areF L = areF (L.drop k))) (fun j => L.length - (intOf j).toNat)
  case atStart => exact ⟨0, Nat.zero_le _, rfl, rfl⟩
  case round =>
    obtain ⟨k, hk, rfl, hR⟩ := hrel
    by_cases hlt : k < L.length
    · have c0 := HA.out k hlt
      have k0 : (0 : Int) ≤ (k : Int) := by omega
      have k1 : (k : Int) < (L.length : Int) := by omega
      have HP := isPage_any (gI L k) w
      have HS : Hid (areF L = (decide (pageA (gI L k)) && areF (L.drop (k + 1)))) := by show _ = _; rw [hR.out, areF_drop hlt]
      by_cases hf : pageA (gI L k)
      · rw [decide_eq_true hf] at HP HS
        have HE : Hid (areF L = areF (L.drop (k + 1))) := by show _ = _; rw [HS.out, Bool.true_and]
        clear hf HS hR HA
        generalize gI L k = P at *
        go_wp2_with fail
        refine HP.mono ?_
        rintro e w2 ⟨rfl, rfl⟩
        clear HP
        go_wp2
        go_round
        case rel => exact ⟨k + 1, by omega, by go_num, HE.out⟩
        case measure => simp [intOf]; omega
      · rw [decide_eq_false hf] at HP HS
        have HE : Hid (areF L = false) := by show _ = _; rw [HS.out, Bool.false_and]
        clear hf HS hR HA
        generalize gI L k = P at *
        go_wp2_with fail
        refine HP.mono ?_
        rintro e w2 ⟨rfl, rfl⟩
        clear HP
        go_wp2
        go_ret
        exact ⟨by rw [HE.out]; rfl, rfl⟩
    · obtain rfl : k = L.length := by omega
      have HE : Hid (areF L = true) := by show _ = _; rw [hR.out, List.drop_length]; rfl
      clear hlt hR HA
      go_wp2
      go_ret
      exact ⟨by rw [HE.out]; rfl, rfl⟩
/-- All pages lie in so many bytes. -/
def inF (N : Nat) : List Int → Bool
  | [] => true
  | p :: r => decide (fits N p 64) && inF N r
theorem inF_at {N : Nat} : ∀ {L : List Int}, inF N L = true → ∀ k, k < L.length → fits N (gI L k) 64
  | [], _, k, h => by simp at h
  | s :: r, h, 0, _ => by simp only [inF, Bool.and_eq_true, decide_eq_true_eq] at h; exact h.1
  | s :: r, h, k + 1, hk => by
    simp only [inF, Bool.and_eq_true] at h
    exact inF_at h.2 k (by simpa using hk)
theorem inF_drop {N : Nat} {L : List Int} {k : Nat} (h : k < L.length) : inF N (L.drop k) = (decide (fits N (gI L k) 64) && inF N (L.drop (k + 1))) := by
  rw [List.drop_eq_getElem_cons h]
  unfold gI
  rw [List.getElem?_eq_getElem h]
  rfl
set_option maxRecDepth 20000 in
set_option maxHeartbeats 1600000 in
theorem in_some (mb hb : Nat) (l : List Nat) (g off cap : Nat) (L : List Int) (w : World) (h : MW w mb hb l) (hat : ∀ i, i < L.length → w.cell? ⟨g, off + i, none⟩ = some (.int .i64 (gI L i))) (hlen : L.length ≤ 1048576) (hok : ∀ i, i < L.length → gI L i ≤ 9223372036854775807) :
    Calls Try.prog 19 #[.pointer (some ⟨mb, 0, none⟩), .slice (some ⟨g, off, none⟩) L.length cap] w fun e w' => e = .returned (.bool (inF l.length L)) ∧ Below w.heap.size w w' := by
  have HA : Hid (∀ wr, Below w.heap.size w wr → ∀ i, i < L.length → wr.cell? ⟨g, off + i, none⟩ = some (.int .i64 (gI L i))) := fun wr hb i hi => (hb.cell (p := ⟨g, off + i, none⟩) (World.block_lt_of_cell? w _ (hat i hi))).trans (hat i hi)
  have HM : Hid (∀ wr, Below w.heap.size w wr → MW wr mb hb l) := fun wr hb => h.below hb
  have HK : Hid (∀ i, i < L.length → gI L i ≤ 9223372036854775807) := hok
  clear h hat hok
  go_enter Try.func19, Try.ntmps19
  go_wp2
  go_loopw [9] (fun j wr => ∃ k : Nat, k ≤ L.length ∧ j = .int .i64 k ∧ Hid (Below w.heap.size w wr ∧ inF l.length L = inF l.length (L.drop k))) (fun j _ => L.length - (intOf j).toNat)
  case atStart => exact ⟨0, Nat.zero_le _, rfl, Below.refl _ _, rfl⟩
  case round =>
    obtain ⟨k, hk, rfl, hR⟩ := hrel
    by_cases hlt : k < L.length
    · have c0 := HA.out wr hR.out.1 k hlt
      have k0 : (0 : Int) ≤ (k : Int) := by omega
      have k1 : (k : Int) < (L.length : Int) := by omega
      have HL := lies_any mb hb l (gI L k) 64 wr (HM.out _ hR.out.1) (HK.out k hlt)
      have HS : Hid (inF l.length L = (decide (fits l.length (gI L k) 64) && inF l.length (L.drop (k + 1)))) := by show _ = _; rw [hR.out.2, inF_drop hlt]
      have HB : Hid (Below w.heap.size w wr) := hR.out.1
      by_cases hf : fits l.length (gI L k) 64
      · rw [decide_eq_true hf] at HL HS
        have HE : Hid (inF l.length L = inF l.length (L.drop (k + 1))) := by show _ = _; rw [HS.out, Bool.true_and]
        clear hf HS hR
        generalize gI L k = P at *
        go_wp2_with fail
        refine HL.mono ?_
        rintro e w2 ⟨rfl, hb2⟩
        have HW : Hid (Below w.heap.size w w2) := HB.out.trans (hb2.mono HB.out.size)
        clear HL hb2 HB
        go_wp2
        go_roundw
        case rel => exact ⟨k + 1, by omega, by go_num, HW.out, HE.out⟩
        case measure => simp [intOf]; omega
      · rw [decide_eq_false hf] at HL HS
        have HE : Hid (inF l.length L = false) := by show _ = _; rw [HS.out, Bool.false_and]
        clear hf HS hR
        generalize gI L k = P at *
        go_wp2_with fail
        refine HL.mono ?_
        rintro e w2 ⟨rfl, hb2⟩
        have HW : Hid (Below w.heap.size w w2) := HB.out.trans (hb2.mono HB.out.size)
        clear HL hb2 HB
        go_wp2
        go_ret
        exact ⟨by rw [HE.out]; rfl, HW.out⟩
    · obtain rfl : k = L.length := by omega
      have HE : Hid (inF l.length L = true) := by show _ = _; rw [hR.out.2, List.drop_length]; rfl
      have HW : Hid (Below w.heap.size w wr) := hR.out.1
      clear hlt hR
      go_wp2
      go_ret
      exact ⟨by rw [HE.out]; rfl, HW.out⟩
/-- How long a slice is. -/
def slLen : Value → Nat
  | .slice _ n _ => n
  | _ => 0
/-- While listOf goes. -/
structure OI (w wr : World) (a1 : Option Addr) (c1 : Nat) (N : List Int) (pa : Option Addr) (pc : Nat) (ps : List Int) (R : List Int) (f : Nat) (x : Int) : Prop where
  bel : Below w.heap.size w wr
  own : OwnI wr w.heap.size a1 c1 N
  il : IL wr pa ps
  cap : ps.length ≤ pc
  nil : pa = none → pc = 0
  lt : ∀ b, blk pa b → b < w.heap.size ∨ ps = []
  eq : R = N ++ lstW f x ps
  few : ps.length ≤ 7 * f + 8
  len : N.length + 2 * ps.length ≤ 4096
theorem OI.ils {w wr w' : World} {a1 : Option Addr} {c1 : Nat} {N : List Int} {pa : Option Addr} {pc : Nat} {ps R : List Int} {f : Nat} {x : Int} (h : OI w wr a1 c1 N pa pc ps R f x) (hk : Keep (blk a1) wr w') : IL w' pa ps := by
  by_cases h0 : ps = []
  · exact Or.inl h0
  · refine h.il.keep hk (fun b hb hlt hc => ?_)
    rcases h.lt b hb with h1 | h1
    · have := (h.own.blk hc).1; omega
    · exact h0 h1
set_option maxRecDepth 20000 in
set_option maxHeartbeats 3200000 in
/-- What listOf gives. -/
theorem listOf_any (x0 : Int) (pa : Option Addr) (pc : Nat) (ps : List Int) (w : World) (hI : IL w pa ps) (hcap : ps.length ≤ pc) (hnil : pa = none → pc = 0) (hl : ps.length ≤ 1000) :
    Calls Try.prog 28 #[.int .i64 x0, .slice pa ps.length pc] w fun e w' => ∃ a1 c1, e = .returned (.slice a1 (lstW 1000 x0 ps).length c1) ∧ OwnI w' w.heap.size a1 c1 (lstW 1000 x0 ps) ∧ Below w.heap.size w w' := by
  have H0 : Hid (OI w w none 0 [] pa pc ps (lstW 1000 x0 ps) 1000 x0) := by
    refine ⟨Below.refl _ _, OwnI.nil _ _, hI, hcap, hnil, fun b hb => ?_, by simp, by omega, by simp; omega⟩
    by_cases h0 : ps = []
    · exact .inr h0
    · left
      obtain ⟨g, off, e, hat⟩ := hI.some_of (List.length_pos_iff.2 h0)
      subst e
      obtain ⟨y, e, rfl⟩ := hb
      cases e
      exact World.block_lt_of_cell? w _ (hat 0 (List.length_pos_iff.2 h0))
  clear hI hcap hnil
  generalize lstW 1000 x0 ps = R at *
  go_enter Try.func28, Try.ntmps28
  go_wp2
  go_loopw [0, 1, 5] (fun xv pv nv wr => ∃ (x : Int) (pa1 : Option Addr) (pc1 : Nat) (ps1 : List Int) (a1 : Option Addr) (c1 : Nat) (N : List Int) (f : Nat), xv = .int .i64 x ∧ pv = .slice pa1 ps1.length pc1 ∧ nv = .slice a1 N.length c1 ∧ ps1.length ≤ 1000 ∧ Hid (OI w wr a1 c1 N pa1 pc1 ps1 R f x)) (fun _ pv _ _ => slLen pv)
  case atStart => exact ⟨x0, pa, pc, ps, none, 0, [], 1000, rfl, rfl, rfl, hl, H0.out⟩
  case round =>
    obtain ⟨x, pa1, pc1, ps1, a1, c1, N, f, rfl, rfl, rfl, hl1, hR⟩ := hrel
    clear H0
    by_cases h8 : ps1.length ≤ 8
    · have h8i : ¬ (8 : Int) < (ps1.length : Int) := by omega
      have HF : Hid (R = N ++ ps1 ∧ (N ++ ps1).length * 8 ≤ 140737488355328) := by
        have e : R = N ++ ps1 := by rw [hR.out.eq, lstW_end h8]
        have := hR.out.len
        exact ⟨e, by rw [List.length_append]; omega⟩
      go_wp2_with (at_builtin; refine app_stepI rfl (.tmp 21) (.tmp 22) rfl w.heap.size a1 c1 N (by rfl) hR.out.own pa1 ps1.length pc1 ps1 rfl (by rfl) hR.out.nil hR.out.il (N ++ ps1) rfl HF.out.2 hR.out.bel.size ?_)
      intro a2 c2 w2 hO hK
      have HE : Hid (OwnI w2 w.heap.size a2 c2 (N ++ ps1) ∧ Below w.heap.size w w2) := ⟨hO, hR.out.bel.trans (hK.below hR.out.bel.size (fun b hb => (hR.out.own.blk hb).1))⟩
      have HE2 : Hid (OwnI w2 w.heap.size a2 c2 R ∧ Below w.heap.size w w2 ∧ R.length = N.length + ps1.length) := by
        rw [HF.out.1]
        exact ⟨HE.out.1, HE.out.2, List.length_append⟩
      clear hO hK hR HF HE
      go_wp2
      go_ret
      exact ⟨a2, c2, by rw [HE2.out.2.2]; rfl, HE2.out.1, HE2.out.2.1⟩
    · have h8i : (8 : Int) < (ps1.length : Int) := by omega
      obtain ⟨f, rfl⟩ : ∃ f', f = f' + 1 := by
        have := hR.out.few
        exact ⟨f - 1, by omega⟩
      have hs1 : ∀ wz, (Instr.slice 23 (.slice pa1 ps1.length pc1) none (some (.int .i64 7)) none).run Try.prog wz = .ok (.slice pa1 7 pc1) wz := fun wz => sliceI_to pa1 ps1.length pc1 7 (by have := hR.out.cap; omega) wz
      have hs2 : ∀ wz, (Instr.slice 23 (.slice pa1 ps1.length pc1) (some (.int .i64 7)) none none).run Try.prog wz = .ok (.slice (dropA pa1 pc1 7) (ps1.length - 7) (pc1 - 7)) wz := fun wz => sliceI_from pa1 ps1.length pc1 7 (by omega) hR.out.cap wz
      obtain ⟨X, HXe⟩ : ∃ X, Hid (X = wrap64 (x + 64)) := ⟨_, rfl⟩
      obtain ⟨N2, HN2⟩ : ∃ N2, Hid (N2 = N ++ ps1.take 7) := ⟨_, rfl⟩
      obtain ⟨N3, HN3⟩ : ∃ N3, Hid (N3 = N2 ++ [X]) := ⟨_, rfl⟩
      have hXe : wrap64 (x + 64) = X := HXe.out.symm
      have HL : Hid (N2.length * 8 ≤ 140737488355328 ∧ N3.length * 8 ≤ 140737488355328 ∧ (ps1.take 7).length = 7) := by
        have := hR.out.len
        refine ⟨?_, ?_, ?_⟩ <;> (try rw [HN3.out]) <;> (try rw [HN2.out]) <;> simp only [List.length_append, List.length_take, List.length_cons, List.length_nil] <;> omega
      have HR : Hid (OI w wr a1 c1 N pa1 pc1 ps1 R (f + 1) x) := hR
      have HX : Hid (∀ w3 a3 c3, OwnI w3 w.heap.size a3 c3 N3 → Below w.heap.size w w3 → IL w3 pa1 ps1 → OI w w3 a3 c3 N3 (dropA pa1 pc1 7) (pc1 - 7) (ps1.drop 7) R f X) := fun w3 a3 c3 q1 q2 q3 => by
        refine ⟨q2, q1, q3.drop 7 hR.out.cap, by rw [List.length_drop]; have := hR.out.cap; omega, fun e => ?_, fun b hb => ?_, ?_, ?_, ?_⟩
        · unfold dropA at e
          split at e
          · omega
          · cases hp : pa1 with
            | none => have := hR.out.nil hp; omega
            | some y => rw [hp] at e; cases e
        · left
          obtain ⟨y, e, rfl⟩ := hb
          have hb2 : blk pa1 y.block := by
            unfold dropA at e
            split at e
            · exact ⟨y, e, rfl⟩
            · cases hp : pa1 with
              | none => rw [hp] at e; cases e
              | some z =>
                rw [hp] at e
                have e2 : z.add 7 = y := Option.some.inj e
                exact ⟨z, rfl, by rw [← e2]; unfold Addr.add; split <;> rfl⟩
          rcases hR.out.lt _ hb2 with h1 | h1
          · exact h1
          · rw [h1] at h8; simp at h8
        · rw [hR.out.eq, lstW_more h8, HN3.out, HN2.out, HXe.out]; simp
        · rw [List.length_drop]; have := hR.out.few; omega
        · have := hR.out.len
          rw [HN3.out, HN2.out]
          simp only [List.length_append, List.length_take, List.length_cons, List.length_nil, List.length_drop]
          omega
      have HILK : Hid (∀ w2 w3 a2 c2 (M : List Int), OwnI w2 w.heap.size a2 c2 M → IL w2 pa1 ps1 → ∀ w2', Below w2.heap.size w2 w2' → Keep (blk a2) w2' w3 → IL w3 pa1 ps1) := fun w2 w3 a2 c2 M q1 q2 w2' q3 q4 => by
        refine (q2.below q3).keep q4 (fun b hb hlt hc => ?_)
        rcases hR.out.lt b hb with h1 | h1
        · have := (q1.blk hc).1; omega
        · rw [h1] at h8; simp at h8
      clear hR
      go_wp2_with (at_builtin; refine app_stepI rfl (.tmp 11) (.tmp 13) rfl w.heap.size a1 c1 N (by rfl) HR.out.own pa1 7 pc1 (ps1.take 7) HL.out.2.2 (by rfl) HR.out.nil (HR.out.il.take 7) N2 HN2.out HL.out.1 HR.out.bel.size ?_)
      intro a2 c2 w2 hO hK
      have HE : Hid (OwnI w2 w.heap.size a2 c2 N2 ∧ Below w.heap.size w w2 ∧ IL w2 pa1 ps1) := ⟨hO, HR.out.bel.trans (hK.below HR.out.bel.size (fun b hb => (HR.out.own.blk hb).1)), HR.out.ils hK⟩
      have HLd : Hid ((ps1.drop 7).length = ps1.length - 7) := List.length_drop
      have HI1 : Hid (IL (w2.alloc (.cells #[.int .i64 X] 3)) (some ⟨w2.heap.size, 0, none⟩) [X]) := Or.inr ⟨w2.heap.size, 0, rfl, fun i hi => by simp at hi; subst hi; simp [gI]⟩
      clear hO hK HR HN2
      generalize dropA pa1 pc1 7 = pa2 at *
      go_wp2_with (at_builtin; refine app_stepI rfl (.tmp 15) (.tmp 17) rfl w.heap.size a2 c2 N2 (by rfl) (HE.out.1.below (alloc_below' w2 _)) (some ⟨w2.heap.size, 0, none⟩) 1 1 [X] rfl (by rfl) (fun e => by cases e) HI1.out N3 HN3.out HL.out.2.1 (Nat.le_trans HE.out.2.1.size (by simp)) ?_)
      intro a3 c3 w3 hO hK
      have hb3 : Below w2.heap.size w2 (w2.alloc (.cells #[.int .i64 X] 3)) := alloc_below' w2 _
      have HG : Hid (OI w w3 a3 c3 N3 pa2 (pc1 - 7) (ps1.drop 7) R f X) := by
        have hOw := HE.out.1.below hb3
        refine HX.out w3 a3 c3 hO ((HE.out.2.1.trans (hb3.mono HE.out.2.1.size)).trans (hK.below (Nat.le_trans HE.out.2.1.size hb3.size) (fun b hb => (hOw.blk hb).1))) ?_
        exact HILK.out w2 w3 a2 c2 _ HE.out.1 HE.out.2.2 _ hb3 hK
      clear hO hK HE HX hb3 HILK HN3 HI1
      go_wp2
      go_roundw
      case rel => exact ⟨X, pa2, pc1 - 7, ps1.drop 7, a3, c3, N3, f, rfl, by rw [HLd.out], rfl, by rw [HLd.out]; omega, HG.out⟩
      case measure => show ps1.length - 7 < ps1.length; omega
end Go.Proofs.Ytdkafcgangcgbaj

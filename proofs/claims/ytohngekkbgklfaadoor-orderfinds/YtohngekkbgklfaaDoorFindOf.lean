/-
  What the call of granaryref2.FindOf gives: the document's search.
-/
import Derived.Test.YtohngekkbgklfaaDoorRefFault
import Derived.Test.YtohngekkbgklfaaDoorRight
namespace Go.Proofs.YtohngekkbgklfaaDoor
open Go.RowKit
set_option linter.unusedVariables false

/-- What the document's search gives at one number. -/
def hO (l : List Cl) (n k : Nat) (o : List Nat) (i : Nat) : Option (List Nat) := if stR2 l o i = true then dfs n (stR2 l) k (o ++ [i]) else none
theorem hO_in {l : List Cl} {n k : Nat} {o : List Nat} {i : Nat} (h : i ∈ o) : hO l n k o i = none := by
  unfold hO
  rw [if_neg (fun e => (stR2_of.1 e).1 h)]
theorem stR2_iff {l : List Cl} {o : List Nat} {i : Nat} (hi : ¬ i ∈ o) : stR2 l o i = true ↔ stR l o i = true := by
  rw [stR2_of, stR_of]
  constructor
  · exact fun h => ⟨h.2.1, h.2.2⟩
  · exact fun h => ⟨hi, h.1, h.2⟩
theorem Rt_snoc {l : List Cl} {o : List Nat} {i : Nat} (h : Rt l o) : Rt l (o ++ [i]) ↔ stR l o i = true := by
  constructor
  · intro h2
    have := h2 o.length (by simp)
    rw [List.take_append_of_le_length (Nat.le_refl _), List.take_length] at this
    have e : gN (o ++ [i]) o.length = i := by unfold gN; simp
    rw [e] at this
    exact this
  · exact h.snoc
theorem dfs_succ (n : Nat) (l : List Cl) (k : Nat) (o : List Nat) : dfs n (stR2 l) (k + 1) o = (List.range n).findSome? (hO l n k o) := rfl
/-- Whether a number was met. -/
def SameW (a b : World) : Prop := a = b
def InK (o : List Nat) (i i2 : Nat) (c : Bool) : Prop := c = true ↔ i ∈ o.take i2
theorem own_emptyI (w : World) (base : Nat) (hb : base ≤ w.heap.size) : OwnI (w.alloc (.cells #[] 3)) base (some ⟨w.heap.size, 0, none⟩) 0 [] :=
  ⟨rfl, Or.inr ⟨w.heap.size, 0, #[], rfl, hb, heap_alloc_new w _, Nat.le_refl _, by unfold maxLen; omega, rfl, by simp⟩⟩
theorem OwnI.nil_cap {w : World} {base cap : Nat} {a : Option Addr} {l : List Int} (h : OwnI w base a cap l) : a = none → cap = 0 := fun e => by
  rcases h.parts with ⟨_, h, _⟩ | ⟨g, _, e2, _⟩
  · exact h
  · rw [e] at e2; cases e2
theorem app_stepIq {ops : Array Oper} {rest : List Oper} {o : Oper} {a : Act} {w : World} {Q : Exit → Act → World → Prop} (hgd : o.guard = none) (s x : Operand)
    (ho : o.op = .call { callee := .builtin .append, args := #[s, x], argTypes := #[28, 28] }) (base : Nat) (a0 : Option Addr) (cap0 q0 : Nat) (ys : List Int) (hq0 : ys.length = q0) (hs : a.eval s = .slice a0 q0 cap0) (hown : OwnI w base a0 cap0 ys)
    (sa : Option Addr) (n c : Nat) (zs : List Int) (hn : zs.length = n) (hx : a.eval x = .slice sa n c) (hnil : sa = none → c = 0) (hL : IL w sa zs) (q : Nat) (hq : (ys ++ zs).length = q) (hb : q * 8 ≤ 140737488355328) (hbase : base ≤ w.heap.size)
    (h : ∀ a1 cap1 w', OwnI w' base a1 cap1 (ys ++ zs) → Keep (blk a0) w w' → wpList Tryd.prog ops Q rest (a.put o.dst (.slice a1 q cap1)) w') : wpList Tryd.prog ops Q (o :: rest) a w := by
  subst hq hq0
  exact app_stepI hgd s x ho base a0 cap0 ys hs hown sa n c zs hn hx hnil hL _ rfl hb hbase h
/-- What FindOf gives. -/
def FoPost (l : List Cl) (n k : Nat) (o : List Nat) (w : World) (e : Ending) (w' : World) : Prop :=
  Below w.heap.size w w' ∧ ((∃ r ra rc, dfs n (stR2 l) k o = some r ∧ r.length = n ∧ e = .returned (.tuple #[.slice ra n rc, .bool true]) ∧ IL w' ra (orJ r)) ∨ (dfs n (stR2 l) k o = none ∧ e = .returned (.tuple #[.slice none 0 0, .bool false])))
def FoP (l : List Cl) (n k : Nat) : Prop := ∀ (a : Option Addr) (cap : Nat) (oa : Option Addr) (oc q : Nat) (o : List Nat) (w : World), CL w a l → l.length = n → IL w oa (orJ o) → o.length = q → (oa = none → oc = 0) → q + k = n → Rt l o → (∀ x ∈ o, x < n) →
  Calls Tryd.prog 10 #[.slice a n cap, .slice oa q oc] w (FoPost l n k o w)
set_option maxHeartbeats 1600000 in
theorem fo_full (a : Option Addr) (n cap : Nat) (oa : Option Addr) (oc : Nat) (w : World) :
    Calls Tryd.prog 10 #[.slice a n cap, .slice oa n oc] w fun e w' => e = .returned (.tuple #[.slice oa n oc, .bool true]) ∧ w = w' := by
  go_enter Tryd.func10, Tryd.ntmps10
  go_wp2
  go_ret2
  exact ⟨rfl, rfl⟩
set_option maxRecDepth 20000 in
set_option maxHeartbeats 6400000 in
theorem fo_walk (l : List Cl) (n k : Nat) (IH : FoP l n k) (hn : n ≤ 10) (a : Option Addr) (cap : Nat) (oa : Option Addr) (oc q : Nat) (o : List Nat) (w : World) (hC : CL w a l) (hl : l.length = n) (hI : IL w oa (orJ o)) (hq : o.length = q) (hnil : oa = none → oc = 0) (hk : q + (k + 1) = n) (hR : Rt l o) (hx : ∀ x ∈ o, x < n) :
    Calls Tryd.prog 10 #[.slice a n cap, .slice oa q oc] w (FoPost l n (k + 1) o w) := by
  have HH : Hid (CL w a l ∧ l.length = n ∧ IL w oa (orJ o) ∧ o.length = q ∧ (oa = none → oc = 0) ∧ q + (k + 1) = n ∧ Rt l o ∧ (∀ x ∈ o, x < n) ∧ FoP l n k) := ⟨hC, hl, hI, hq, hnil, hk, hR, hx, IH⟩
  have hqn : q < n := by omega
  have hqe : ((q : Int) == (n : Int)) = false := by simp; omega
  clear hC hl hI hq hnil hk hR hx IH
  go_enter Tryd.func10, Tryd.ntmps10
  go_wp2
  go_loopw [6] (fun j wr => ∃ i : Nat, i ≤ n ∧ j = .int .i64 i ∧ Hid ((∀ j, j < i → hO l n k o j = none) ∧ Below w.heap.size w wr)) (fun j _ => n - (intOf j).toNat)
  case atStart => exact ⟨0, Nat.zero_le _, rfl, fun j hj => by omega, Below.refl _ _⟩
  case round =>
    obtain ⟨i, hi, rfl, hR⟩ := hrel
    by_cases hlt : i < n
    · obtain ⟨wo, rfl⟩ : ∃ wo, wo = wr := ⟨_, rfl⟩
      have HR0 : Hid ((∀ j, j < i → hO l n k o j = none) ∧ Below w.heap.size w wo) := hR
      have HMORE : Hid (hO l n k o i = none → ∀ j, j < i + 1 → hO l n k o j = none) := fun h j hj => by
        by_cases e : j = i
        · rw [e]; exact h
        · exact hR.out.1 j (by omega)
      clear hR
      go_wp2
      go_loopw [7, 8] (fun b j wr => ∃ (i2 : Nat) (c : Bool), i2 ≤ q ∧ j = .int .i64 i2 ∧ b = .bool c ∧ Hid (InK o i i2 c ∧ SameW wo wr)) (fun _ j _ => q - (intOf j).toNat)
      case atStart => exact ⟨0, false, Nat.zero_le _, rfl, rfl, by unfold InK; simp, rfl⟩
      case round =>
        obtain ⟨i2, c, hi2, rfl, rfl, hR⟩ := hrel
        obtain ⟨hc, rfl⟩ := hR.out
        have HC : Hid (c = true ↔ i ∈ o.take i2) := hc
        clear hR hc
        by_cases hlt2 : i2 < q
        · have hil := HH.out.2.2.1.below HR0.out.2
          obtain ⟨g1, o1, rfl, hc1⟩ := hil.some_of (i := i2) (by rw [show (orJ o).length = o.length by simp [orJ], HH.out.2.2.2.1]; exact hlt2)
          have c1 := hc1 i2 (by rw [show (orJ o).length = o.length by simp [orJ], HH.out.2.2.2.1]; exact hlt2)
          rw [gI_orJ (by rw [HH.out.2.2.2.1]; exact hlt2)] at c1
          have HS : Hid (∀ x : Nat, gN o i2 = x → (i ∈ o.take (i2 + 1) ↔ i ∈ o.take i2 ∨ x = i)) := fun x hx => by
            rw [take_snocN (by rw [HH.out.2.2.2.1]; exact hlt2), hx, List.mem_append]
            simp [eq_comm]
          clear hil hc1
          generalize hx : gN o i2 = x at *
          have HS2 : Hid (i ∈ o.take (i2 + 1) ↔ i ∈ o.take i2 ∨ x = i) := HS.out x (by simp)
          clear HS
          cases c with
          | true =>
            have HT : Hid (InK o i (i2 + 1) true) := by
              have := HC.out
              have h2 := HS2.out
              show (true = true ↔ i ∈ o.take (i2 + 1))
              rw [h2, ← this]; simp
            clear HC HS2
            go_wp2
            exact ⟨⟨i2 + 1, true, by omega, by go_num, rfl, HT.out, rfl⟩, by simp [intOf]; omega⟩
          | false =>
            have hxi : ((x : Int) == (i : Int)) = decide (x = i) := by
              by_cases e : x = i
              · simp [e]
              · simp [e]; omega
            have HT : Hid (InK o i (i2 + 1) (decide (x = i))) := by
              have := HC.out
              have h2 := HS2.out
              show (decide (x = i) = true ↔ i ∈ o.take (i2 + 1))
              rw [h2, ← this]; simp
            clear HC HS2
            generalize decide (x = i) = d at *
            go_wp2
            exact ⟨⟨i2 + 1, d, by omega, by go_num, rfl, HT.out, rfl⟩, by simp [intOf]; omega⟩
        · obtain rfl : q = i2 := by omega
          clear hlt2
          cases c with
          | true =>
            have HM : Hid (∀ j, j < i + 1 → hO l n k o j = none) := HMORE.out (hO_in (by
              have := HC.out.1 rfl
              exact List.mem_of_mem_take this))
            clear HC HMORE
            go_wp2
            exact ⟨⟨i + 1, by omega, by go_num, HM.out, HR0.out.2⟩, by simp [intOf]; omega⟩
          | false =>
            have HNI : Hid (¬ i ∈ o) := fun h => by
              have h2 := HC.out.2 (by rw [List.take_of_length_le (by rw [HH.out.2.2.2.1]; exact Nat.le_refl _)]; exact h)
              cases h2
            clear HC
            have hq9 : q < 10 := by omega
            have HE : Hid (OwnI (wo.alloc (.cells #[] 3)) w.heap.size (some ⟨wo.heap.size, 0, none⟩) 0 []) := own_emptyI wo w.heap.size HR0.out.2.size
            have HIo : Hid (IL (wo.alloc (.cells #[] 3)) oa (orJ o)) := (HH.out.2.2.1.below HR0.out.2).below (alloc_below' wo _)
            have HSo : Hid (w.heap.size ≤ (wo.alloc (.cells #[] 3)).heap.size) := Nat.le_trans HR0.out.2.size (alloc_below' wo _).size
            have HLo : Hid ((orJ o).length = q) := by show (orJ o).length = q; rw [show (orJ o).length = o.length by simp [orJ], HH.out.2.2.2.1]
            go_upto_region 13 with (at_builtin; refine app_stepIq rfl (.tmp 41) (.tmp 42) (by rfl) w.heap.size (some ⟨wo.heap.size, 0, none⟩) 0 0 [] rfl (by rfl) HE.out oa q oc (orJ o) HLo.out (by rfl) HH.out.2.2.2.2.1 HIo.out q (by simpa using HLo.out) (by omega) HSo.out ?_; intro a1 cap1 w3 ho3 hk3; have H3 : Hid (OwnI w3 w.heap.size a1 cap1 (orJ o) ∧ Below w.heap.size w w3) := ⟨ho3, (HR0.out.2.trans ((alloc_below' wo _).mono HR0.out.2.size)).trans (hk3.below HSo.out (fun b e => by obtain ⟨x, e, rfl⟩ := e; cases e; exact HR0.out.2.size))⟩; clear ho3 hk3)
            clear HE HIo HSo
            have HE4 : Hid (OwnI (w3.alloc (.cells #[.int .i64 (i : Nat)] 3)) w.heap.size a1 cap1 (orJ o)) := H3.out.1.below (alloc_below' w3 _)
            have HS4 : Hid (w.heap.size ≤ (w3.alloc (.cells #[.int .i64 (i : Nat)] 3)).heap.size) := Nat.le_trans H3.out.2.size (alloc_below' w3 _).size
            go_upto_region 14 with (at_builtin; refine app_stepIq rfl (.tmp 44) (.tmp 46) (by rfl) w.heap.size a1 cap1 q (orJ o) HLo.out (by rfl) HE4.out (some ⟨w3.heap.size, 0, none⟩) 1 1 [((i : Nat) : Int)] rfl (by rfl) (fun e => by cases e) (il_one w3 _) (q + 1) (by simp [HLo.out]) (by omega) HS4.out ?_; intro a2 cap2 w4 ho4 hk4; have H4 : Hid (OwnI w4 w.heap.size a2 cap2 (orJ (o ++ [i])) ∧ Below w.heap.size w w4) := ⟨by unfold orJ at ho4 ⊢; rw [List.map_append]; exact ho4, (H3.out.2.trans ((alloc_below' w3 _).mono H3.out.2.size)).trans (hk4.below HS4.out (fun b e => (H3.out.1.blk e).1))⟩; clear ho4 hk4)
            clear HE4 HS4 H3
            have HXI : Hid (∀ x ∈ o ++ [i], x < n) := fun x hx => by
              rcases List.mem_append.1 hx with h | h
              · exact HH.out.2.2.2.2.2.2.2.1 x h
              · have : x = i := by simpa using h
                omega
            have HLQ : Hid ((o ++ [i]).length = q + 1) := by show (o ++ [i]).length = q + 1; rw [List.length_append, HH.out.2.2.2.1]; rfl
            have HRR : Hid (Calls Tryd.prog 9 #[.slice a n cap, .slice a2 (q + 1) cap2] w4 fun e w' => ∃ b, e = .returned (.bool b) ∧ Hid ((b = true ↔ Rt l (o ++ [i])) ∧ Below w4.heap.size w4 w')) :=
              (right_any a n cap a2 (q + 1) cap2 l (o ++ [i]) w4 HH.out.2.1 HLQ.out (by omega) (by omega) (HH.out.1.below H4.out.2) H4.out.1.il HXI.out).mono fun e w' ⟨b, h1, h2, h3⟩ => ⟨b, h1, h2, h3⟩
            go_wp2_with fail
            refine HRR.out.mono ?_
            rintro e w5 ⟨b, rfl, HB5⟩
            clear HRR
            have HBW5 : Hid (Below w.heap.size w w5) := H4.out.2.trans (HB5.out.2.mono H4.out.2.size)
            cases b with
            | false =>
              have HM : Hid (∀ j, j < i + 1 → hO l n k o j = none) := HMORE.out (by
                unfold hO
                rw [if_neg]
                intro e
                have h1 := (stR2_iff HNI.out).1 e
                have h2 := HB5.out.1.2 ((Rt_snoc HH.out.2.2.2.2.2.2.1).2 h1)
                cases h2)
              clear HMORE HB5 H4
              go_wp2
              exact ⟨⟨i + 1, by omega, by go_num, HM.out, HBW5.out⟩, by simp [intOf]; omega⟩
            | true =>
              have HST : Hid (stR l o i = true) := (Rt_snoc HH.out.2.2.2.2.2.2.1).1 (HB5.out.1.1 rfl)
              have HRT2 : Hid (Rt l (o ++ [i])) := HB5.out.1.1 rfl
              have H5 : Hid (IL w5 a2 (orJ (o ++ [i]))) := H4.out.1.il.below HB5.out.2
              have HIH : Hid (Calls Tryd.prog 10 #[.slice a n cap, .slice a2 (q + 1) cap2] w5 (FoPost l n k (o ++ [i]) w5)) :=
                HH.out.2.2.2.2.2.2.2.2 a cap a2 cap2 (q + 1) (o ++ [i]) w5 (HH.out.1.below HBW5.out) HH.out.2.1 H5.out HLQ.out H4.out.1.nil_cap (by have := HH.out.2.2.2.2.2.1; omega) HRT2.out HXI.out
              clear HB5 H4 HRT2 H5
              go_wp2_with fail
              refine HIH.out.mono ?_
              intro e w6 hp
              obtain ⟨hb6, hp⟩ := hp
              have HBW6 : Hid (Below w.heap.size w w6) := HBW5.out.trans (hb6.mono HBW5.out.size)
              have HOI : Hid (hO l n k o i = dfs n (stR2 l) k (o ++ [i])) := by
                show hO l n k o i = _
                unfold hO
                rw [if_pos ((stR2_iff HNI.out).2 HST.out)]
              clear HIH hb6
              rcases hp with ⟨r, ra, rc, hd, hrl, rfl, hir⟩ | ⟨hd, rfl⟩
              · have HF : Hid (FoPost l n (k + 1) o w (.returned (.tuple #[.slice ra n rc, .bool true])) w6) :=
                  ⟨HBW6.out, Or.inl ⟨r, ra, rc, findSome_at n i hlt HR0.out.1 (HOI.out.trans hd), hrl, rfl, hir⟩⟩
                clear hd hrl hir HMORE
                go_wp2
                go_ret2
                exact HF.out
              · have HM : Hid (∀ j, j < i + 1 → hO l n k o j = none) := HMORE.out (HOI.out.trans hd)
                clear hd HMORE
                go_wp2
                exact ⟨⟨i + 1, by omega, by go_num, HM.out, HBW6.out⟩, by simp [intOf]; omega⟩
    · obtain rfl : i = n := by omega
      have HF : Hid (FoPost l i (k + 1) o w (.returned (.tuple #[.slice none 0 0, .bool false])) wr) := ⟨hR.out.2, Or.inr ⟨findSome_no hR.out.1, rfl⟩⟩
      clear hlt hR
      go_wp2
      go_ret2
      exact HF.out
theorem fo_any (l : List Cl) (n : Nat) (hn : n ≤ 10) : ∀ k, FoP l n k
  | 0 => by
    intro a cap oa oc q o w hC hl hI hq hnil hk hR hx
    obtain rfl : q = n := by omega
    refine (fo_full a q cap oa oc w).mono ?_
    rintro e w' ⟨rfl, rfl⟩
    exact ⟨Below.refl _ _, Or.inl ⟨o, oa, oc, rfl, hq, rfl, hI⟩⟩
  | k + 1 => by
    intro a cap oa oc q o w hC hl hI hq hnil hk hR hx
    exact fo_walk l n k (fo_any l n hn k) hn a cap oa oc q o w hC hl hI hq hnil hk hR hx
end Go.Proofs.YtohngekkbgklfaaDoor

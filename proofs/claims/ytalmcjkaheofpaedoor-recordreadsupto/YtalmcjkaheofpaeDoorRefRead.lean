/-
  What the call of granaryref1.RecordRead gives: the same as the program's Read.
-/
import Derived.Test.YtalmcjkaheofpaeDoorRefNum
import Derived.Test.YtalmcjkaheofpaeDoorBytes
import Derived.Test.YtalmcjkaheofpaeDoorRead
namespace Go.Proofs.YtalmcjkaheofpaeDoor
open Go.RowKit
set_option linter.unusedVariables false

def cellsN : List En → List Value
  | [] => []
  | e :: r => .int .i64 e.k :: .int .i64 e.a :: .int .i64 e.b :: cellsN r
theorem cellsN_len : ∀ es, (cellsN es).length = es.length * 3
  | [] => rfl
  | e :: r => by simp only [cellsN, List.length_cons, cellsN_len r]; omega
theorem cellsN_app : ∀ es x, cellsN (es ++ [x]) = cellsN es ++ [.int .i64 x.k, .int .i64 x.a, .int .i64 x.b]
  | [], x => rfl
  | e :: r, x => by simp only [List.cons_append, cellsN, cellsN_app r]
theorem cellsN_at : ∀ (es : List En) (i : Nat), i < es.length → (cellsN es)[i * 3]? = some (.int .i64 (es[i]?.getD en0).k) ∧ (cellsN es)[i * 3 + 1]? = some (.int .i64 (es[i]?.getD en0).a) ∧ (cellsN es)[i * 3 + 2]? = some (.int .i64 (es[i]?.getD en0).b)
  | [], i, h => by simp at h
  | e :: r, 0, _ => ⟨rfl, rfl, rfl⟩
  | e :: r, i + 1, h => by
    have ih := cellsN_at r i (by simpa using h)
    have e1 : (i + 1) * 3 = i * 3 + 1 + 1 + 1 := by omega
    rw [e1]
    exact ih
/-- A ROW OF ENTRIES OF THE CALL's OWN. -/
def OwnN (w : World) (base : Nat) (a : Option Addr) (cap : Nat) (es : List En) : Prop := w.ownsRow base 45 3 (.slice a es.length cap) es.length (cellsN es)
theorem ownN_new (w : World) (base : Nat) (hb : base ≤ w.heap.size) (cs : Array Value) (hcs : cs = #[]) : OwnN (w.alloc (.cells cs 45)) base (some ⟨w.heap.size, 0, none⟩) 0 [] := by
  subst hcs
  exact ⟨rfl, Or.inr ⟨w.heap.size, 0, #[], rfl, hb, heap_alloc_new w _, Nat.le_refl _, by unfold maxLen; omega, rfl, rfl⟩⟩
theorem OwnN.ge {w : World} {base cap : Nat} {a : Option Addr} {es : List En} (h : OwnN w base a cap es) {b : Nat} (hb : blk a b) : base ≤ b := by
  obtain ⟨x, rfl, rfl⟩ := hb
  rcases h.2 with ⟨e, _⟩ | ⟨g, cap', cur, hv, r1, r2, r3⟩
  · simp at e
  · simp at hv
    obtain ⟨rfl, _⟩ := hv
    exact r1
theorem OwnN.own {w : World} {base base' cap : Nat} {a : Option Addr} {es : List En} (h : OwnN w base a cap es) (hb : base' ≤ base) : EnsOwn w base' a es := by
  rcases h.2 with ⟨e, e2⟩ | ⟨g, cap', cur, hv, r1, r2, r3, r4, r5, r6⟩
  · exact Or.inl (List.eq_nil_of_length_eq_zero e2)
  · simp at hv
    obtain ⟨rfl, rfl⟩ := hv
    refine Or.inr ⟨g, cur, rfl, by omega, r2, fun i hi => ?_⟩
    have e : ∀ j, j < es.length * 3 → cur[j]? = (cellsN es)[j]? := fun j hj => by
      rw [← r6, List.getElem?_take, if_pos hj, Array.getElem?_toList]
    obtain ⟨q0, q1, q2⟩ := cellsN_at es i hi
    exact ⟨by rw [e _ (by omega)]; exact q0, by rw [e _ (by omega)]; exact q1, by rw [e _ (by omega)]; exact q2⟩
theorem OwnN.below {w w' : World} {base cap : Nat} {a : Option Addr} {es : List En} (h : OwnN w base a cap es) (hb : Below w.heap.size w w') : OwnN w' base a cap es := by
  refine ⟨h.1, ?_⟩
  rcases h.2 with h2 | ⟨g, cap', cur, hv, r1, r2, r3⟩
  · exact Or.inl h2
  · exact Or.inr ⟨g, cap', cur, hv, r1, (hb.block g (heap_lt r2)).trans r2, r3⟩
/-- ONE ENTRY MORE IS APPENDED. -/
theorem app_stepE {ops : Array Oper} {rest : List Oper} {o : Oper} {a : Act} {Q : Exit → Act → World → Prop} (hgd : o.guard = none) (s x : Operand)
    (ho : o.op = .call { callee := .builtin .append, args := #[s, x], argTypes := #[41, 41] }) (w : World) (base cap0 : Nat) (a0 : Option Addr) (es : List En) (e : En)
    (H : Nat) (hH : w.heap.size = H) (hs : a.eval s = .slice a0 es.length cap0) (hx : a.eval x = .slice (some ⟨H, 0, none⟩) 1 1) (h : OwnN w base a0 cap0 es) (hk : es.length ≤ 1048576) (hb : base ≤ w.heap.size)
    (hc : ∀ a1 cap1 w', OwnN w' base a1 cap1 (es ++ [e]) → Keep (blk a0) w w' → wpList Tryd.prog ops Q rest (a.put o.dst (.slice a1 (es.length + 1) cap1)) w') :
    wpList Tryd.prog ops Q (o :: rest) a (w.alloc (.cells #[.int .i64 e.k, .int .i64 e.a, .int .i64 e.b] 45)) := by
  obtain ⟨i0, hi, hz0, hz1, hz2⟩ := info_parts infoE
  subst hH
  have hbl : Below w.heap.size w (w.alloc (.cells #[.int .i64 e.k, .int .i64 e.a, .int .i64 e.b] 45)) := (Below.refl _ _).alloc (Nat.le_refl _) _
  have ho' : (w.alloc (.cells #[.int .i64 e.k, .int .i64 e.a, .int .i64 e.b] 45)).ownsRow base 45 3 (.slice a0 es.length cap0) es.length (cellsN es) := h.below hbl
  refine wpList_append_lies (w.alloc (.cells #[.int .i64 e.k, .int .i64 e.a, .int .i64 e.b] 45)) hgd s x 41 ho base 45 i0 _ 3 24 Tryd.underlying41 hi hz0 hz1 hz2 rfl (by decide) (.slice a0 es.length cap0) es.length _ hs ho' ⟨w.heap.size, 0, none⟩ 1 1 [.int .i64 e.k, .int .i64 e.a, .int .i64 e.b] hx rfl (World.news_of_block (heap_alloc_new w _)) (fun u hu => by simp at hu; rcases hu with rfl | rfl | rfl <;> rfl) (by decide) (by unfold maxLen; omega) (by omega) (Nat.le_trans hb hbl.size) _ rfl ?_
  intro g cap1 w' h2 h3 _ _
  refine hc (some ⟨g, 0, none⟩) cap1 w' ?_ ((Keep.of_below hbl).trans (keep_grown h3))
  unfold OwnN
  rw [cellsN_app, List.length_append]
  exact h2
theorem rhead_back {s : List Nat} {es : List En} {v : Nat} (ha : AllB s) (h : rhead s = some (es, v)) : BatOk es ∧ v ≤ s.length ∧ s.take v = bodyL es := by
  unfold rhead at h
  split at h
  · cases h
  next c i hc =>
  split at h
  · cases h
  next h64 =>
  split at h
  · cases h
  next xs u hx =>
  have h' := Option.some.inj h
  have e1 : xs = es := congrArg Prod.fst h'
  have e2 : i + u = v := congrArg Prod.snd h'
  subst e1 e2
  obtain ⟨p1, p2, p3, p4⟩ := rnum_back ha hc
  obtain ⟨q0, q1, q2, q3, q4⟩ := rents_back c _ xs u (ha.drop i) hx
  rw [List.length_drop] at q3
  exact ⟨⟨by omega, q1⟩, by omega, by unfold bodyL; rw [q0]; exact take_join p4 q4⟩
theorem bat_iff {s : List Nat} {es : List En} {v : Nat} (ha : AllB s) (h : rhead s = some (es, v)) : (batL es = s.take (v + 4)) ↔ (s.drop v).take 4 = low 4 (crcOf (s.take v)) := by
  obtain ⟨_, _, hb⟩ := rhead_back ha h
  rw [List.take_add, hb]
  unfold batL
  constructor
  · intro e; exact (List.append_cancel_left e).symm
  · intro e; rw [e]
theorem rbat_yes {s : List Nat} {es : List En} {v : Nat} (h : rhead s = some (es, v)) (hc : (s.drop v).take 4 = low 4 (crcOf (s.take v))) : rbat s = some (es, v + 4) := by
  rw [rbat_head, h]; simp only []; rw [if_pos hc]
theorem rbat_no {s : List Nat} {es : List En} {v : Nat} (h : rhead s = some (es, v)) (hc : ¬ (s.drop v).take 4 = low 4 (crcOf (s.take v))) : rbat s = none := by
  rw [rbat_head, h]; simp only []; rw [if_neg hc]
theorem rbat_no0 {s : List Nat} (h : rhead s = none) : rbat s = none := by rw [rbat_head, h]
theorem slice_both (a : Option Addr) (n cap l h : Nat) (q : Int) (hq : q = (h : Int)) (h1 : l ≤ h) (h2 : h ≤ cap) (w : World) : (Instr.slice 23 (.slice a n cap) (some (.int .i64 (l : Int))) (some (.int .i64 q)) none).run Tryd.prog w = .ok (.slice (dropA a cap l) (h - l) (cap - l)) w := by
  subst hq
  have hu : Tryd.prog.underlying 23 = some (.slice (Tryd.prog.elem 23)) := by kernel_rfl
  have hs : (sizeOf (Tryd.prog.elem 23)).run Tryd.prog w = .ok 1 w := by kernel_rfl
  rw [run_slice_lh w 23 _ n cap hu .i64 .i64 (l : Int) (h : Int) (by omega) (by omega) (by omega), hs]
  simp [Result.andThen, sliced, dropA]
theorem ent_good {bs : List Nat} {p us q q1 q2 i x y z k1 k2 k3 : Nat} {es : List En} (hq : q = p + us) (h0 : rents i (bs.drop p) = some (es, us)) (hx : rnum (bs.drop q) = some (x, k1)) (e1 : q + k1 = q1) (hy : rnum (bs.drop q1) = some (y, k2)) (e2 : q1 + k2 = q2) (hz : rnum (bs.drop q2) = some (z, k3)) : rents (i + 1) (bs.drop p) = some (es ++ [⟨x, y, z⟩], us + (k1 + k2 + k3)) := by
  subst hq e1 e2
  exact rents_succ h0 (by rw [dd]; exact rent_some hx (by rw [dd]; exact hy) (by rw [dd, ← Nat.add_assoc]; exact hz))
theorem ent_bad {bs : List Nat} {p us q i n : Nat} {es : List En} (hq : q = p + us) (h0 : rents i (bs.drop p) = some (es, us)) (hin : i < n) (h : rent (bs.drop q) = none) : rents n (bs.drop p) = none := by
  subst hq
  exact rents_none (rents_fail h0 (by rw [dd]; exact h)) hin
theorem ent_bad2 {bs : List Nat} {q q1 x k1 : Nat} (hx : rnum (bs.drop q) = some (x, k1)) (e1 : q + k1 = q1) (hy : rnum (bs.drop q1) = none) : rent (bs.drop q) = none := by
  subst e1
  exact rent_none1 hx (by rw [dd]; exact hy)
theorem ent_bad3 {bs : List Nat} {q q1 q2 x k1 y k2 : Nat} (hx : rnum (bs.drop q) = some (x, k1)) (e1 : q + k1 = q1) (hy : rnum (bs.drop q1) = some (y, k2)) (e2 : q1 + k2 = q2) (hz : rnum (bs.drop q2) = none) : rent (bs.drop q) = none := by
  subst e1 e2
  exact rent_none2 hx (by rw [dd]; exact hy) (by rw [dd, ← Nat.add_assoc]; exact hz)
/-- What a round of the inner loop meets. -/
structure IG (wr wz : World) (la : Option Addr) (lc : Nat) (es : List En) : Prop where
  own : OwnN wz wr.heap.size la lc es
  bel : Below wr.heap.size wr wz
theorem IG.step {wr wz w1 : World} {la a1 : Option Addr} {lc c1 : Nat} {es fs : List En} (o : Obj) (h : IG wr wz la lc es) (ho : OwnN w1 wr.heap.size a1 c1 fs) (hk : Keep (blk la) (wz.alloc o) w1) : IG wr w1 a1 c1 fs := by
  have hb : Below wz.heap.size wz (wz.alloc o) := (Below.refl _ _).alloc (Nat.le_refl _) _
  have h2 := h.bel.trans (hb.mono h.bel.size)
  exact ⟨ho, h2.trans (hk.below h2.size (fun b hb => h.own.ge hb))⟩
set_option maxRecDepth 20000 in
set_option maxHeartbeats 3200000 in
theorem recordRead_any (da : Option Addr) (bs : List Nat) (cap : Nat) (w : World) (hL : Lies w da bs) (ha : AllB bs) (hl : bs.length ≤ 1048576) (hlc : bs.length ≤ cap) :
    Calls Tryd.prog 13 #[.slice da bs.length cap] w fun e w' => ReadPost w w' e bs := by
  have HR : Hid (RR w w bs [] 0 none 0) := ⟨.nil, OwnH.nil _ _, Below.refl _ _⟩
  have HLi : Hid (∀ wz, Below w.heap.size w wz → Lies wz da bs) := fun wz hb => hL.below hb
  have HNum : Hid (∀ wz p, Below w.heap.size w wz → p ≤ bs.length → Calls Tryd.prog 22 #[.slice da bs.length cap, .int .i64 (p : Nat)] wz fun e w' => NAPost e bs p ∧ wz = w') := fun wz p hb hp => numberAt_any da bs cap p wz (hL.below hb) ha (by omega) hp
  have HA : Hid (AllB bs) := ha
  clear hL ha
  go_enter Tryd.func13, Tryd.ntmps13
  go_wp2
  go_loopw [4, 5] (fun t j wr => ∃ (d : List (List En)) (u : Nat) (a : Option Addr) (c : Nat), u ≤ bs.length ∧ d.length ≤ 1048576 ∧ j = .int .i64 u ∧ t = .slice a d.length c ∧ Hid (RR w wr bs d u a c)) (fun _ j _ => bs.length - (intOf j).toNat)
  case atStart => exact ⟨[], 0, none, 0, by omega, by simp, rfl, rfl, HR⟩
  case round =>
    clear HR
    obtain ⟨d, u, a, c, hu, hd, rfl, rfl, hr⟩ := hrel
    obtain ⟨wo, hwo⟩ : ∃ wo, wo = wr := ⟨_, rfl⟩
    subst hwo
    have HEnd : Hid (∀ wz, Below wo.heap.size wo wz → rbat (bs.drop u) = none → ReadPost w wz (.returned (.tuple #[.slice a d.length c, .int .i64 (u : Nat)])) bs) := fun wz hb hx =>
      ⟨d, u, a, c, rfl, ⟨hr.out.rd, hx⟩, (hr.out.own.below hb).at, hr.out.bel.trans (hb.mono hr.out.bel.size)⟩
    go_wp2_with fail
    refine (HNum.out wo u hr.out.bel hu).mono ?_
    rintro e w' ⟨⟨n, i0, hn, hle, hmx, rfl⟩ | ⟨hn, rfl⟩, rfl⟩
    · generalize hq0 : u + i0 = q0 at hle ⊢
      have HQ0 : Hid (u + i0 = q0) := hq0
      have hnx : (n : Int) ≤ 4611686018427387904 := by unfold mx at hmx; omega
      clear hq0 hmx
      by_cases h64 : 64 < n
      · have h64' : (64 : Int) < (n : Int) := by omega
        have HP := HEnd.out wo (Below.refl _ _) (rbat_no0 (rhead_none1 hn h64))
        have HP' : Hid (ReadPost w wo (.returned (.tuple #[.slice a d.length c, .int .i64 (u : Nat)])) bs) := HP
        clear HP hr hn
        go_wp2
        go_ret2
        exact HP'.out
      · have h64' : (n : Int) ≤ 64 := by omega
        have HG0 : Hid (IG wo (wo.alloc (.cells #[] 45)) (some ⟨wo.heap.size, 0, none⟩) 0 []) := ⟨ownN_new wo wo.heap.size (Nat.le_refl _) _ rfl, (Below.refl _ _).alloc (Nat.le_refl _) _⟩
        have HBw : Hid (∀ wz, Below wo.heap.size wo wz → Below w.heap.size w wz) := fun wz hb => hr.out.bel.trans (hb.mono hr.out.bel.size)
        have HNn : Hid (rnum (bs.drop u) = some (n, i0)) := hn
        clear hn
        go_wp2
        go_loopw [7, 8, 9] (fun kk t j wz => ∃ (i : Nat) (la : Option Addr) (lc : Nat) (es : List En) (kv : Int), i ≤ n ∧ j = .int .i64 i ∧ kk = .int .i64 kv ∧ t = .slice la es.length lc ∧ es.length ≤ i ∧ Hid (IG wo wz la lc es) ∧ ((∃ q : Nat, kv = (q : Int) ∧ q ≤ bs.length ∧ Hid (∃ us, q = u + i0 + us ∧ rents i (bs.drop (u + i0)) = some (es, us) ∧ es.length = i)) ∨ (kv = -1 ∧ Hid (rents n (bs.drop (u + i0)) = none)))) (fun _ _ j _ => n - (intOf j).toNat)
        case atStart => exact ⟨0, _, 0, [], (q0 : Int), by omega, rfl, rfl, rfl, by simp, HG0, Or.inl ⟨q0, rfl, hle, 0, HQ0.out.symm, rfl, rfl⟩⟩
        case round =>
          clear HG0
          obtain ⟨i, la, lc, es, kv, hi, rfl, rfl, rfl, hei, hG, hst⟩ := hrel
          rcases hst with ⟨q, rfl, hq, hs⟩ | ⟨rfl, hs⟩
          · by_cases hin : i < n
            · have HBX : Hid (∀ o, Below wo.heap.size wo (wr.alloc o) ∧ OwnN (wr.alloc o) wo.heap.size la lc es) := fun o => ⟨hG.out.bel.alloc hG.out.bel.size o, hG.out.own.below ((Below.refl _ _).alloc (Nat.le_refl _) _)⟩
              have hin' : (i : Int) < (n : Int) := by omega
              go_wp2_with fail
              refine (HNum.out _ q (HBw.out _ (HBX.out _).1) hq).mono ?_
              rintro e w2 ⟨⟨x, k1, hx, hle1, _, rfl⟩ | ⟨hx, rfl⟩, rfl⟩
              · generalize hq1 : q + k1 = q1 at hle1 ⊢
                have HQ1 : Hid (q + k1 = q1) := hq1
                clear hq1
                go_wp2_with fail
                refine (HNum.out _ q1 (HBw.out _ (HBX.out _).1) hle1).mono ?_
                rintro e w3 ⟨⟨y, k2, hy, hle2, _, rfl⟩ | ⟨hy, rfl⟩, rfl⟩
                · generalize hq2 : q1 + k2 = q2 at hle2 ⊢
                  have HQ2 : Hid (q1 + k2 = q2) := hq2
                  clear hq2
                  go_wp2_with fail
                  refine (HNum.out _ q2 (HBw.out _ (HBX.out _).1) hle2).mono ?_
                  rintro e w4 ⟨⟨z, k3, hz, hle3, _, rfl⟩ | ⟨hz, rfl⟩, rfl⟩
                  · generalize hq3 : q2 + k3 = q3 at hle3 ⊢
                    have HQ3 : Hid (q2 + k3 = q3) := hq3
                    clear hq3
                    go_wp2_with (at_builtin; refine app_stepE rfl (.tmp 63) (.tmp 65) rfl (wr.alloc (.cells #[.int .i64 (x : Nat), .int .i64 (y : Nat), .int .i64 (z : Nat)] 45)) wo.heap.size lc la es ⟨(x : Nat), (y : Nat), (z : Nat)⟩ (wr.heap.size + 1) (by simp) rfl rfl (HBX.out _).2 (by omega) (HBX.out _).1.size ?_)
                    intro a1 c1 w1 o1 kk1
                    have HF : Hid (IG wo w1 a1 c1 (es ++ [⟨(x : Nat), (y : Nat), (z : Nat)⟩])) := hG.out.step _ o1 kk1
                    have HST : Hid (∃ us', q3 = u + i0 + us' ∧ rents (i + 1) (bs.drop (u + i0)) = some (es ++ [⟨(x : Nat), (y : Nat), (z : Nat)⟩], us') ∧ (es ++ [(⟨(x : Nat), (y : Nat), (z : Nat)⟩ : En)]).length = i + 1) := by
                      obtain ⟨us, e0, e1, e2⟩ := hs.out
                      refine ⟨us + (k1 + k2 + k3), by have := HQ1.out; have := HQ2.out; have := HQ3.out; omega, ent_good e0 e1 hx HQ1.out hy HQ2.out hz, by simp [e2]⟩
                    clear o1 kk1
                    go_wp2
                    go_roundw
                    case rel => exact ⟨i + 1, a1, c1, es ++ [⟨(x : Nat), (y : Nat), (z : Nat)⟩], (q3 : Int), by omega, by go_num, rfl, by rw [List.length_append, List.length_singleton], by rw [List.length_append, List.length_singleton]; omega, HF, Or.inl ⟨q3, rfl, hle3, HST⟩⟩
                    case measure => simp [intOf]; omega
                  · go_wp2_with (at_builtin; refine app_stepE rfl (.tmp 63) (.tmp 65) rfl (wr.alloc (.cells #[.int .i64 (x : Nat), .int .i64 (y : Nat), .int .i64 0] 45)) wo.heap.size lc la es ⟨(x : Nat), (y : Nat), 0⟩ (wr.heap.size + 1) (by simp) rfl rfl (HBX.out _).2 (by omega) (HBX.out _).1.size ?_)
                    intro a1 c1 w1 o1 kk1
                    have HF : Hid (IG wo w1 a1 c1 (es ++ [⟨(x : Nat), (y : Nat), 0⟩])) := hG.out.step _ o1 kk1
                    have HST : Hid (rents n (bs.drop (u + i0)) = none) := by
                      obtain ⟨us, e0, e1, e2⟩ := hs.out
                      exact ent_bad e0 e1 hin (ent_bad3 hx HQ1.out hy HQ2.out hz)
                    clear o1 kk1
                    go_wp2
                    go_roundw
                    case rel => exact ⟨i + 1, a1, c1, es ++ [⟨(x : Nat), (y : Nat), 0⟩], (-1), by omega, by go_num, rfl, by rw [List.length_append, List.length_singleton], by rw [List.length_append, List.length_singleton]; omega, HF, Or.inr ⟨rfl, HST⟩⟩
                    case measure => simp [intOf]; omega
                · go_wp2_with (at_builtin; refine app_stepE rfl (.tmp 63) (.tmp 65) rfl (wr.alloc (.cells #[.int .i64 (x : Nat), .int .i64 0, .int .i64 0] 45)) wo.heap.size lc la es ⟨(x : Nat), 0, 0⟩ (wr.heap.size + 1) (by simp) rfl rfl (HBX.out _).2 (by omega) (HBX.out _).1.size ?_)
                  intro a1 c1 w1 o1 kk1
                  have HF : Hid (IG wo w1 a1 c1 (es ++ [⟨(x : Nat), 0, 0⟩])) := hG.out.step _ o1 kk1
                  have HST : Hid (rents n (bs.drop (u + i0)) = none) := by
                    obtain ⟨us, e0, e1, e2⟩ := hs.out
                    exact ent_bad e0 e1 hin (ent_bad2 hx HQ1.out hy)
                  clear o1 kk1
                  go_wp2
                  go_roundw
                  case rel => exact ⟨i + 1, a1, c1, es ++ [⟨(x : Nat), 0, 0⟩], (-1), by omega, by go_num, rfl, by rw [List.length_append, List.length_singleton], by rw [List.length_append, List.length_singleton]; omega, HF, Or.inr ⟨rfl, HST⟩⟩
                  case measure => simp [intOf]; omega
              · go_wp2_with (at_builtin; refine app_stepE rfl (.tmp 63) (.tmp 65) rfl (wr.alloc (.cells #[.int .i64 0, .int .i64 0, .int .i64 0] 45)) wo.heap.size lc la es ⟨0, 0, 0⟩ (wr.heap.size + 1) (by simp) rfl rfl (HBX.out _).2 (by omega) (HBX.out _).1.size ?_)
                intro a1 c1 w1 o1 kk1
                have HF : Hid (IG wo w1 a1 c1 (es ++ [⟨0, 0, 0⟩])) := hG.out.step _ o1 kk1
                have HST : Hid (rents n (bs.drop (u + i0)) = none) := by
                  obtain ⟨us, e0, e1, e2⟩ := hs.out
                  exact ent_bad e0 e1 hin (rent_none0 hx)
                clear o1 kk1
                go_wp2
                go_roundw
                case rel => exact ⟨i + 1, a1, c1, es ++ [⟨0, 0, 0⟩], (-1), by omega, by go_num, rfl, by rw [List.length_append, List.length_singleton], by rw [List.length_append, List.length_singleton]; omega, HF, Or.inr ⟨rfl, HST⟩⟩
                case measure => simp [intOf]; omega
            · obtain rfl : i = n := by omega
              obtain ⟨us, hqe, hre, hel⟩ := hs.out
              have hrh : rhead (bs.drop u) = some (es, i0 + us) := rhead_some HNn.out h64 (by rw [dd]; exact hre)
              have hbk := rhead_back (HA.out.drop u) hrh
              have HI := bat_iff (HA.out.drop u) hrh
              have hle4 : u ≤ q := by omega
              by_cases h4 : q + 4 ≤ bs.length
              · have h4' : (q : Int) + 4 ≤ ((bs.length : Nat) : Int) := by omega
                have HBt : Hid (Calls Tryd.prog 20 #[.slice la es.length lc] wr fun e w' => OwnPost wr w' e (batL es)) := batchOf_any la es lc wr (hG.out.own.own (Nat.le_refl _)).at hbk.1
                have hzl : (batL es).length ≤ 2000 := by have := batL_len hbk.1; have := hbk.1.1; omega
                have HLs : Hid (∀ wz, Below wo.heap.size wo wz → Lies wz (dropA da cap u) ((bs.drop u).take (q + 4 - u))) := fun wz hb => ((HLi.out wz (HBw.out wz hb)).drop u hlc).take _
                have hlt : ((bs.drop u).take (q + 4 - u)).length = q + 4 - u := by rw [List.length_take, List.length_drop, Nat.min_eq_left (by omega)]
                have hqu : q + 4 - u = i0 + us + 4 := by omega
                have hsl := fun wz => slice_both da bs.length cap u (q + 4) ((q : Int) + 4) (by omega) (by omega) (by omega) wz
                have HRy : Hid (batL es = (bs.drop u).take (q + 4 - u) → rbat (bs.drop u) = some (es, i0 + us + 4)) := fun e => rbat_yes hrh (HI.1 (by rw [hqu] at e; exact e))
                have HRn : Hid (¬ batL es = (bs.drop u).take (q + 4 - u) → rbat (bs.drop u) = none) := fun e => rbat_no hrh (fun h => e (by rw [hqu]; exact HI.2 h))
                have HUS : Hid (u + (i0 + us + 4) = q + 4) := by show _ = _; omega
                clear hrh hbk HI hre hel hqe hqu
                generalize batL es = Z at HBt hzl HRy HRn
                generalize (bs.drop u).take (q + 4 - u) = Y at HLs hlt HRy HRn
                go_wp2_with fail
                refine HBt.out.mono ?_
                rintro e w5 ⟨a5, c5, rfl, o5, b5⟩
                have bo5 := hG.out.bel.trans (b5.mono hG.out.bel.size)
                have HG5 : Hid (OwnN w5 wo.heap.size la lc es ∧ Below wo.heap.size wo w5) := ⟨hG.out.own.below b5, bo5⟩
                have HBy := bytes_any a5 (dropA da cap u) Z Y c5 (cap - u) w5 (by omega) (by omega) o5.lies (HLs.out w5 bo5)
                rw [hlt] at HBy
                clear o5 b5 bo5 hlt
                by_cases hsame : Z = Y
                · rw [decide_eq_true hsame] at HBy
                  have HBy' : Hid (Calls Tryd.prog 11 #[.slice a5 Z.length c5, .slice (dropA da cap u) (q + 4 - u) (cap - u)] w5 fun e w' => e = .returned (.bool true) ∧ Below w5.heap.size w5 w') := HBy
                  have hsn := Rd.snoc hr.out.rd (HRy.out hsame)
                  rw [HUS.out] at hsn
                  have hbk := hsn.back HA.out
                  have hdn : d.length + 1 ≤ 1048576 := by have := hbk.2.2.2.2; rw [List.length_append, List.length_singleton] at this; omega
                  have HN : Hid (Rd bs (d ++ [es]) (q + 4)) := hsn
                  clear HBy hsn hbk hsame
                  go_wp2_with fail
                  refine HBy'.out.mono ?_
                  rintro e w6 ⟨rfl, b6⟩
                  have bo6 := HG5.out.2.trans (b6.mono HG5.out.2.size)
                  have hsz : w.heap.size ≤ w6.heap.size := Nat.le_trans hr.out.bel.size bo6.size
                  have HO : Hid (OwnH w6 w.heap.size a c d ∧ EnsOwn w6 w.heap.size la es ∧ Below w.heap.size w w6) := ⟨hr.out.own.below bo6, (HG5.out.1.below b6).own hr.out.bel.size, HBw.out w6 bo6⟩
                  clear b6 bo6 HBy' HBt
                  go_wp2_with (at_builtin; refine app_stepH rfl (.tmp 91) (.tmp 93) rfl w6 w.heap.size c lc a la d es rfl rfl HO.out.1 HO.out.2.1 (by omega) hsz ?_)
                  intro a1 cap1 w7 hO7 hK7
                  have HF : Hid (RR w w7 bs (d ++ [es]) (q + 4) a1 cap1) := ⟨HN.out, hO7, HO.out.2.2.trans (hK7.below hsz (fun b hb => (HO.out.1.blk hb).1))⟩
                  clear hO7 hK7 HO
                  go_wp2
                  go_roundw
                  case rel => exact ⟨d ++ [es], q + 4, a1, cap1, by omega, by rw [List.length_append, List.length_singleton]; exact hdn, by go_num, by rw [List.length_append, List.length_singleton], HF⟩
                  case measure => simp [intOf]; omega
                · rw [decide_eq_false hsame] at HBy
                  have HBy' : Hid (Calls Tryd.prog 11 #[.slice a5 Z.length c5, .slice (dropA da cap u) (q + 4 - u) (cap - u)] w5 fun e w' => e = .returned (.bool false) ∧ Below w5.heap.size w5 w') := HBy
                  have HNo : Hid (rbat (bs.drop u) = none) := HRn.out hsame
                  clear HBy hsame
                  go_wp2_with fail
                  refine HBy'.out.mono ?_
                  rintro e w6 ⟨rfl, b6⟩
                  have HP' : Hid (ReadPost w w6 (.returned (.tuple #[.slice a d.length c, .int .i64 (u : Nat)])) bs) := HEnd.out w6 (HG5.out.2.trans (b6.mono HG5.out.2.size)) HNo.out
                  clear b6
                  go_wp2
                  go_ret2
                  exact HP'.out
              · have h4' : ((bs.length : Nat) : Int) < (q : Int) + 4 := by omega
                have HP' : Hid (ReadPost w wr (.returned (.tuple #[.slice a d.length c, .int .i64 (u : Nat)])) bs) := by
                  refine HEnd.out wr hG.out.bel (rbat_no hrh (fun e => ?_))
                  have h5 := congrArg List.length e
                  rw [List.length_take, List.length_drop, List.length_drop, low_len] at h5
                  omega
                clear hrh hbk HI hre hel hqe h4
                go_wp2
                go_ret2
                exact HP'.out
          · have HP' : Hid (ReadPost w wr (.returned (.tuple #[.slice a d.length c, .int .i64 (u : Nat)])) bs) := HEnd.out wr hG.out.bel (rbat_no0 (rhead_none2 HNn.out h64 (by rw [dd]; exact hs.out)))
            clear hs
            by_cases hin : i < n
            · have hin' : (i : Int) < (n : Int) := by omega
              go_wp2
              go_ret2
              exact HP'.out
            · have hin' : (n : Int) ≤ (i : Int) := by omega
              go_wp2
              go_ret2
              exact HP'.out
    · have HP := HEnd.out wo (Below.refl _ _) (rbat_no0 (rhead_none0 hn))
      have HP' : Hid (ReadPost w wo (.returned (.tuple #[.slice a d.length c, .int .i64 (u : Nat)])) bs) := HP
      clear HP hr hn
      go_wp2
      go_ret2
      exact HP'.out
end Go.Proofs.YtalmcjkaheofpaeDoor

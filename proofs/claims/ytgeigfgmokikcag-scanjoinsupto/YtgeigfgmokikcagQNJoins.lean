/-
  What the call of ScanJoins gives in the ghost's program: true.
-/
import Derived.Test.YtgeigfgmokikcagQ7
namespace Go.Proofs.YtgeigfgmokikcagQ
open Go.Proofs.YtgeigfgmokikcagM
open Go.RowKit
set_option linter.unusedVariables false

theorem below_setJ {B g o : Nat} {w wr : World} {v : Value} (h : Below B w wr) (hB : B ≤ w.heap.size) (hg : B ≤ g) : Below B w (wr.setCell ⟨g, o, none⟩ v) := h.trans ((keep_set (Keep.refl (fun b => b = g) wr) o v).below (Nat.le_trans hB h.size) fun b e => by rw [e]; exact hg)
theorem over4 {W : World} {g : Nat} {t : TypeId} {a b c d : Value} (h : W.heap[g]? = some (.cells #[a, b, c, d] t (0, 0))) (v0 v1 v2 v3 : Value) : ((((W.setCell ⟨g, 0, none⟩ v0).setCell ⟨g, 1, none⟩ v1).setCell ⟨g, 2, none⟩ v2).setCell ⟨g, 3, none⟩ v3).heap[g]? = some (.cells #[v0, v1, v2, v3] t (0, 0)) := set_row (set_row (set_row (set_row h 0 v0) 1 v1) 2 v2) 3 v3
theorem cells4 {W : World} {g : Nat} {t : TypeId} {a b c d : Value} (h : W.heap[g]? = some (.cells #[a, b, c, d] t (0, 0))) : W.cell? ⟨g, 0, none⟩ = some a ∧ W.cell? ⟨g, 1, none⟩ = some b ∧ W.cell? ⟨g, 2, none⟩ = some c ∧ W.cell? ⟨g, 3, none⟩ = some d := by simp [World.cell?, h]
theorem nil_noJ {M : List Fd} {q : Nat} (h : q < M.length) : ¬ M = [] := fun e => by rw [e] at h; simp at h
set_option maxRecDepth 100000 in
set_option maxHeartbeats 12800000 in
theorem joins_any (pa pb : Option Addr) (ca cb : Nat) (A B : List Pg) (c : Int) (w : World) (hc : -9223372036854775808 ≤ c ∧ c ≤ 9223372036854775807) (hp : Pgs w pa A) (hq : Pgs w pb B) (hna : pa = none → ca = 0) (hnb : pb = none → cb = 0) (hl : A.length + B.length ≤ 1048576) :
    Calls (Al.progOf Try.prog) 6 #[.slice pa A.length ca, .slice pb B.length cb, .int .i64 c] w fun e w' => e = .returned (.bool true) ∧ Below w.heap.size w w' := by
  have HP : Hid (Calls (Al.progOf Try.prog) 12 #[.int .i64 24, FV 1 3 1 none 0 0] w fun e w' => ∃ g, e = .returned (.tuple #[.slice (some ⟨g, 0, none⟩) 24 24, .nilIface]) ∧ Hid (Row w' g (packL 24 1 3 1 []) ∧ JS w pa pb A B w')) := (pack_good 24 1 3 1 none 0 [] w one_ok (fun _ h => absurd h (by simp)) (.inl rfl)).mono fun e w' ⟨g, h1, _, h3, h4⟩ => ⟨g, h1, h3, hp.below h4, hq.below h4, h4⟩
  have HN1 : Hid (∀ w1 g, (Row w1 g (packL 24 1 3 1 []) ∧ JS w pa pb A B w1) → Calls (Al.progOf Try.prog) 13 #[.slice (some ⟨w1.heap.size, 0, none⟩) 1 1, .int .i64 1] (w1.alloc (.cells #[.slice (some ⟨g, 0, none⟩) 24 24] 39)) fun e w' => ∃ g2 cap, e = .returned (.tuple #[.slice (some ⟨g2, 0, none⟩) 1 cap, .nilIface]) ∧ w'.cell? ⟨g2, 0, none⟩ = some (.int .i64 3) ∧ Hid (JS w pa pb A B w')) := fun w1 g ⟨h1, h2⟩ => by
    refine (newest_any (some ⟨w1.heap.size, 0, none⟩) 1 [onePg g] 1 _ (by omega) (by omega) (by show 1 ≤ 4096; omega) (one_pages h1)).mono ?_
    rintro e w' ⟨a, cap, h3, h4, h5⟩
    rw [one_new g] at h3 h4
    rcases h4.parts with ⟨_, _, e⟩ | ⟨g2, cur, rfl, _, k2, _⟩
    · cases e
    · obtain ⟨g', off, e', hat⟩ := h4.at.resolve_left (by simp)
      cases e'
      exact ⟨g2, cap, h3, (hat 0 (by simp)).1, (h2.below (alloc_below' w1 _)).below h5⟩
  have HPc : Hid (∀ W, Calls (Al.progOf Try.prog) 10 #[.int .i64 c, .int .i64 8] W fun e w' => (∃ k : Nat, k < 8 ∧ e = .returned (.int .i64 (k : Nat))) ∧ W = w') := fun W => (pick_any c 8 W (by omega) (by omega) hc).mono fun e w' h => ⟨h.1, h.2.symm⟩
  have HNA : Hid (∀ (k : Nat) W, k < 8 → JS w pa pb A B W → A.length + B.length ≤ 4096 → Calls (Al.progOf Try.prog) 13 #[.slice pa A.length ca, .int .i64 (1 + (k : Int))] W fun e w' => ∃ x cx, e = .returned (.tuple #[.slice x (newF A).length cx, .nilIface]) ∧ Hid (OwnF w' w.heap.size x cx (newF A) ∧ Below W.heap.size W w' ∧ JS w pa pb A B w')) := fun k W hk hW h4 =>
    (newest_any pa ca A (1 + (k : Int)) W (by omega) (by omega) (by omega) hW.pa).mono fun e w' ⟨x, cx, h1, h2, h3⟩ => ⟨x, cx, h1, h2.base hW.bel.size, h3, hW.below h3⟩
  have HNB : Hid (∀ (k : Nat) W, k < 8 → JS w pa pb A B W → A.length + B.length ≤ 4096 → Calls (Al.progOf Try.prog) 13 #[.slice pb B.length cb, .int .i64 (1 + (k : Int))] W fun e w' => ∃ y cy, e = .returned (.tuple #[.slice y (newF B).length cy, .nilIface]) ∧ Hid (OwnF w' W.heap.size y cy (newF B) ∧ Below W.heap.size W w')) := fun k W hk hW h4 =>
    (newest_any pb cb B (1 + (k : Int)) W (by omega) (by omega) (by omega) hW.pb).mono fun e w' ⟨x, cx, h1, h2, h3⟩ => ⟨x, cx, h1, h2, h3⟩
  have HNT : Hid (∀ (k : Nat) W (a7 : Option Addr) (c7 : Nat), k < 8 → JS w pa pb A B W → LieP W a7 (A ++ B) → A.length + B.length ≤ 4096 → Calls (Al.progOf Try.prog) 13 #[.slice a7 (A ++ B).length c7, .int .i64 (1 + (k : Int))] W fun e w' => ∃ l cl, e = .returned (.tuple #[.slice l (newF (A ++ B)).length cl, .nilIface]) ∧ Hid (OwnF w' w.heap.size l cl (newF (A ++ B)) ∧ JS w pa pb A B w')) := fun k W a7 c7 hk hW hLie h4 =>
    (newest_any a7 c7 (A ++ B) (1 + (k : Int)) W (by omega) (by omega) (by rw [List.length_append]; exact h4) (pgs_app hW.pa hW.pb hLie)).mono fun e w' ⟨x, cx, h1, h2, h3⟩ => ⟨x, cx, h1, h2.base hW.bel.size, hW.below h3⟩
  have HNF : Hid (∀ (k : Nat) W (a7 : Option Addr) (c7 l : Nat), k < 8 → 4096 < l → Calls (Al.progOf Try.prog) 13 #[.slice a7 l c7, .int .i64 (1 + (k : Int))] W fun e w' => e = .returned (.tuple #[.slice none 0 0, .iface 56 (.int .i64 3)]) ∧ W = w') := fun k W a7 c7 l hk hl4 => (newest_bad a7 l c7 _ 3 W (lookq_full a7 l c7 _ W (by omega) (by omega) (by omega))).mono fun e w' h => ⟨h.1, h.2.symm⟩
  have HNil : Hid ((pa = none → ca = 0) ∧ (pb = none → cb = 0) ∧ A.length + B.length ≤ 1048576) := ⟨hna, hnb, hl⟩
  have HJ : Hid (newF (A ++ B) = jn (newF A) ((newF B).map (mvF (A.length + ·)))) := newF_join A B
  have HYp : Hid (∀ j, j < (newF B).length → (gF (newF B) j).pg < B.length) := fun j hj => newF_pgJ hj
  have HLn : Hid ((newF A).length ≤ A.length ∧ (newF B).length ≤ B.length ∧ (newF (A ++ B)).length ≤ (A ++ B).length) := ⟨newF_len A, newF_len B, newF_len _⟩
  have hA4 : A.length ≤ 1048576 := by omega
  have hB4 : B.length ≤ 1048576 := by omega
  clear hc hp hq hna hnb hl
  go_enter Al.func6, Try.ntmps6
  go_wp2_with fail
  refine HP.out.mono ?_
  rintro e w1 ⟨g, rfl, h1⟩
  clear HP
  go_wp2_with fail
  refine (HN1.out w1 g h1.out).mono ?_
  rintro e w2 ⟨g2, c2, rfl, hc2, h2⟩
  clear HN1 h1
  go_wp2_with fail
  refine (HPc.out w2).mono ?_
  rintro e _ ⟨⟨k, hk, rfl⟩, rfl⟩
  clear HPc hc2
  obtain ⟨T, HT⟩ : ∃ T, Hid (T = A ++ B) := ⟨_, rfl⟩
  have HTl : Hid (T.length = A.length + B.length) := by
    show _ = _
    rw [HT.out, List.length_append]
  have HA1 : Hid (OwnP (w2.alloc (.cells #[] 39)) w2.heap.size (some ⟨w2.heap.size, 0, none⟩) 0 [] ∧ LieP (w2.alloc (.cells #[] 39)) pa A ∧ w2.heap.size ≤ (w2.alloc (.cells #[] 39)).heap.size ∧ Below w2.heap.size w2 (w2.alloc (.cells #[] 39))) := by
    have hb := alloc_below' w2 (.cells #[] 39)
    exact ⟨ownP_none w2, h2.out.pa.lieP.below hb, hb.size, hb⟩
  go_wp2_with (at_builtin; refine app_stepP rfl (.tmp 55) (.tmp 56) rfl w2.heap.size (some ⟨w2.heap.size, 0, none⟩) 0 [] 0 rfl rfl HA1.out.1 pa ca A A.length rfl rfl HNil.out.1 HA1.out.2.1 A rfl (by omega) HA1.out.2.2.1 ?_)
  intro a5 c5 w5 o5 k5
  have B5 : Hid (OwnP w5 w2.heap.size a5 c5 A ∧ Below w2.heap.size w2 w5 ∧ LieP w5 pb B) := by
    have hb := HA1.out.2.2.2.trans (k5.below HA1.out.2.2.1 (fun b hb => (HA1.out.1.ge hb).1))
    exact ⟨o5, hb, h2.out.pb.lieP.below hb⟩
  clear o5 k5 HA1
  go_wp2_with (at_builtin; refine app_stepP rfl (.tmp 58) (.tmp 59) rfl w2.heap.size a5 c5 A A.length rfl rfl B5.out.1 pb cb B B.length rfl rfl HNil.out.2.1 B5.out.2.2 T HT.out (by rw [HTl.out]; exact HNil.out.2.2) B5.out.2.1.size ?_)
  intro a7 c7 w7 o7 k7
  have B7 : Hid (JS w pa pb A B w7 ∧ LieP w7 a7 (A ++ B)) := ⟨h2.out.below (B5.out.2.1.trans (k7.below B5.out.2.1.size (fun b hb => (B5.out.1.ge hb).1))), by rw [← HT.out]; exact o7.lie⟩
  clear o7 k7 B5 h2
  by_cases h4 : A.length + B.length ≤ 4096
  · have HNw : Hid (Calls (Al.progOf Try.prog) 13 #[.slice a7 T.length c7, .int .i64 (1 + (k : Int))] w7 fun e w' => ∃ l cl, e = .returned (.tuple #[.slice l (newF (A ++ B)).length cl, .nilIface]) ∧ Hid (OwnF w' w.heap.size l cl (newF (A ++ B)) ∧ JS w pa pb A B w')) := by
      have := HNT.out k w7 a7 c7 hk B7.out.1 B7.out.2 h4
      rw [← HT.out] at this ⊢
      exact this
    have H4 : Hid (A.length + B.length ≤ 4096) := h4
    have hT4 : (T.length : Int) ≤ 4096 := by have := HTl.out; omega
    clear HNT HNF B7 hA4 hB4 HT
    have hA4 : (A.length : Int) ≤ 4096 := by omega
    have hB4 : (B.length : Int) ≤ 4096 := by omega
    clear h4 HTl
    go_wp2_with fail
    refine HNw.out.mono ?_
    rintro e w8 ⟨l, cl, rfl, h8⟩
    clear HNw
    go_wp2_with fail
    refine (HNA.out k w8 hk h8.out.2 H4.out).mono ?_
    rintro e w9 ⟨x, cx, rfl, h9⟩
    clear HNA
    go_wp2_with fail
    refine (HNB.out k w9 hk h9.out.2.2 H4.out).mono ?_
    rintro e w10 ⟨y, cy, rfl, h10⟩
    clear HNB
    have HB0 : Hid (JB w w9 A.length l x y cl cx (newF (A ++ B)) (newF A) (newF B) 0 w10) := JB.start (h8.out.1.below h9.out.2.1) h9.out.1 h9.out.2.2.bel h10.out.1 h10.out.2
    have HLe : Hid ((newF A).length ≤ 4096 ∧ (newF B).length ≤ 4096 ∧ (newF (A ++ B)).length ≤ 4096) := by
      have h1 := HLn.out
      have h2 := H4.out
      rw [List.length_append] at h1
      exact ⟨by omega, by omega, by omega⟩
    have HYq : Hid (∀ j, j < (newF B).length → (gF (newF B) j).pg < 4096) := fun j hj => by have := HYp.out j hj; have := H4.out; omega
    have HJm : Hid (jn ((newF A).drop 0) (((newF B).map (mvF (A.length + ·))).drop 0) = (newF (A ++ B)).drop 0) := HJ.out.symm
    have HYl : Hid (((newF B).map (mvF (A.length + ·))).length = (newF B).length) := List.length_map _
    clear h8 h9 h10 HLn HYp HNil HJ H4
    generalize newF (A ++ B) = Z at *
    generalize newF A = X at *
    generalize newF B = Y at *
    have hX4 : X.length ≤ 4096 := HLe.out.1
    have hY4 : Y.length ≤ 4096 := HLe.out.2.1
    have hZ4 : Z.length ≤ 4096 := HLe.out.2.2
    clear HLe
    go_wp2
    go_loopw [16] (fun j wr => ∃ q : Nat, q ≤ Y.length ∧ j = .int .i64 q ∧ Hid (JB w w9 A.length l x y cl cx Z X Y q wr)) (fun j _ => Y.length - (intOf j).toNat)
    case atStart => exact ⟨0, Nat.zero_le _, rfl, HB0⟩
    case round =>
      obtain ⟨q, hq, rfl, hR⟩ := hrel
      clear HB0
      by_cases hlt : q < Y.length
      · obtain ⟨gy, rfl, ⟨c0, c1, c2, c3⟩, hf, hN⟩ := hR.out.put hlt
        have hpg := HYq.out q hlt
        have HN : Hid _ := hN
        clear hN hR
        generalize gF Y q = E at *
        obtain ⟨e0, e1, e2, e3⟩ := E
        simp only at c0 c1 c2 c3 hf HN hpg
        have hpg2 : (e1 : Int) < 4096 := by omega
        have k0 : (0 : Int) ≤ (q : Int) := by omega
        have k1 : (q : Int) < (Y.length : Int) := by omega
        go_wp2
        exact ⟨⟨q + 1, by omega, by go_num, HN⟩, by simp [intOf]; omega⟩
      · obtain rfl : q = Y.length := by omega
        have HM : Hid (JM w l x y Z X (Y.map (mvF (A.length + ·))) wr) := hR.out.done
        clear hR HYq
        generalize Y.map (mvF (A.length + ·)) = V at *
        have hVY : Hid (V.length = Y.length) := HYl.out
        obtain ⟨m, hm⟩ : ∃ m, Hid (m = Y.length) := ⟨_, rfl⟩
        rw [← hm.out]
        rw [← hm.out] at hVY hq hlt hY4
        clear HYl
        obtain ⟨ws, hws⟩ : ∃ ws, Hid (ws = wr) := ⟨_, rfl⟩
        go_wp2
        go_loopw [17, 18, 19] (fun a b j wq => ∃ i k n : Nat, i ≤ X.length ∧ k ≤ m ∧ n ≤ Z.length ∧ a = .int .i64 i ∧ b = .int .i64 k ∧ j = .int .i64 n ∧ Hid (jn (X.drop i) (V.drop k) = Z.drop n ∧ JM w l x y Z X V wq)) (fun _ _ j _ => Z.length - (intOf j).toNat)
        case atStart => exact ⟨0, 0, 0, Nat.zero_le _, Nat.zero_le _, Nat.zero_le _, rfl, rfl, rfl, HJm.out, HM.out⟩
        case round =>
          obtain ⟨i, kk, n, hi, hkk, hn, rfl, rfl, rfl, hR⟩ := hrel
          clear HM HJm
          by_cases hlt2 : n < Z.length
          · have hst := jn_step hR.out.1 hlt2
            rw [hVY.out] at hst
            obtain ⟨gz, oz, rfl, hz⟩ := hR.out.2.z.resolve_left (nil_noJ hlt2)
            obtain ⟨z0c, z1c, z2c, z3c⟩ := hz n hlt2
            have n0 : (0 : Int) ≤ (n : Int) := by omega
            have n1 : (n : Int) < (Z.length : Int) := by omega
            have HB : Hid (∀ W, Below wr.heap.size wr W → JM w (some ⟨gz, oz, none⟩) x y Z X V W) := fun W hb => hR.out.2.below hb
            have HB0 : Hid (Below wr.heap.size wr wr) := Below.refl _ _
            have hzl : gz < wr.heap.size := World.block_lt_of_cell? wr ⟨gz, oz + n * 4, none⟩ z0c
            have hzlt : ¬ gz = wr.heap.size := by omega
            clear hz
            rcases hst with ⟨h1, h2, hlb, hg, hj⟩ | ⟨h1, h2, hlb, hg, hj⟩ | ⟨h1, h2, hlb, hg, hj⟩ | ⟨h1, h2, hg, hj⟩ | ⟨h1, h2, hg, hj⟩
            · obtain ⟨gx, ox, rfl, hx⟩ := hR.out.2.x.resolve_left (nil_noJ h1)
              obtain ⟨x0c, x1c, x2c, x3c⟩ := hx i h1
              have i0 : (0 : Int) ≤ (i : Int) := by omega
              have i1 : (i : Int) < (X.length : Int) := by omega
              have hxl : gx < wr.heap.size := World.block_lt_of_cell? wr ⟨gx, ox + i * 4, none⟩ x0c
              have hxlt : ¬ gx = wr.heap.size := by omega
              clear hx
              obtain ⟨gy, oy, rfl, hy⟩ := hR.out.2.y.resolve_left (nil_noJ (q := kk) (by rw [hVY.out]; exact h2))
              obtain ⟨y0c, y1c, y2c, y3c⟩ := hy kk (by rw [hVY.out]; exact h2)
              have j0 : (0 : Int) ≤ (kk : Int) := by omega
              have j1 : (kk : Int) < (m : Int) := by omega
              have hyl : gy < wr.heap.size := World.block_lt_of_cell? wr ⟨gy, oy + kk * 4, none⟩ y0c
              have hylt : ¬ gy = wr.heap.size := by omega
              clear hy
              have HJn : Hid _ := hj
              rw [hg] at z0c z1c z2c z3c
              generalize gF X i = EX at *
              obtain ⟨x0, x1, x2, x3⟩ := EX
              simp only at x0c x1c x2c x3c
              generalize gF V kk = EY at *
              obtain ⟨y0, y1, y2, y3⟩ := EY
              simp only at y0c y1c y2c y3c
              simp only at hlb z0c z1c z2c z3c
              have hq2 : ((y0 : Int) == (x0 : Int)) = false := by rw [beq_eq_false_iff_ne]; omega
              have hne : ∀ w : World, (binOp .neq 48 (.agg #[.int .i64 (x0 : Nat), .int .i64 (x1 : Nat), .int .i64 (x2 : Nat), .int .i64 (x3 : Nat)]) (.agg #[.int .i64 (x0 : Nat), .int .i64 (x1 : Nat), .int .i64 (x2 : Nat), .int .i64 (x3 : Nat)])).run (Al.progOf Try.prog) w = .ok (.bool false) w := fun w => found_self _ _ _ _ w
              clear hg
              clear hR
              go_wp2
              go_quiet (fail)
              go_wp2
              go_quiet (fail)
              go_wp2
              go_quiet (fail)
              go_wp2
              exact ⟨⟨i + 1, kk + 0, n + 1, by omega, by omega, by omega, by go_num, by go_num, by go_num, HJn.out, HB.out _ (by repeat (first | exact HB0.out.alloc (Nat.le_refl _) _ | refine below_drewN ?_ _ | refine below_setJ ?_ (Nat.le_refl _) (Nat.le_refl _)))⟩, by simp [intOf]; omega⟩
            · obtain ⟨gx, ox, rfl, hx⟩ := hR.out.2.x.resolve_left (nil_noJ h1)
              obtain ⟨x0c, x1c, x2c, x3c⟩ := hx i h1
              have i0 : (0 : Int) ≤ (i : Int) := by omega
              have i1 : (i : Int) < (X.length : Int) := by omega
              have hxl : gx < wr.heap.size := World.block_lt_of_cell? wr ⟨gx, ox + i * 4, none⟩ x0c
              have hxlt : ¬ gx = wr.heap.size := by omega
              clear hx
              obtain ⟨gy, oy, rfl, hy⟩ := hR.out.2.y.resolve_left (nil_noJ (q := kk) (by rw [hVY.out]; exact h2))
              obtain ⟨y0c, y1c, y2c, y3c⟩ := hy kk (by rw [hVY.out]; exact h2)
              have j0 : (0 : Int) ≤ (kk : Int) := by omega
              have j1 : (kk : Int) < (m : Int) := by omega
              have hyl : gy < wr.heap.size := World.block_lt_of_cell? wr ⟨gy, oy + kk * 4, none⟩ y0c
              have hylt : ¬ gy = wr.heap.size := by omega
              clear hy
              have HJn : Hid _ := hj
              rw [hg] at z0c z1c z2c z3c
              generalize gF X i = EX at *
              obtain ⟨x0, x1, x2, x3⟩ := EX
              simp only at x0c x1c x2c x3c
              generalize gF V kk = EY at *
              obtain ⟨y0, y1, y2, y3⟩ := EY
              simp only at y0c y1c y2c y3c
              simp only at hlb z0c z1c z2c z3c
              have hq2 : ((x0 : Int) == (y0 : Int)) = false := by rw [beq_eq_false_iff_ne]; omega
              have hne : ∀ w : World, (binOp .neq 48 (.agg #[.int .i64 (y0 : Nat), .int .i64 (y1 : Nat), .int .i64 (y2 : Nat), .int .i64 (y3 : Nat)]) (.agg #[.int .i64 (y0 : Nat), .int .i64 (y1 : Nat), .int .i64 (y2 : Nat), .int .i64 (y3 : Nat)])).run (Al.progOf Try.prog) w = .ok (.bool false) w := fun w => found_self _ _ _ _ w
              clear hg
              clear hR
              go_wp2
              go_quiet (fail)
              go_wp2
              go_quiet (fail)
              go_wp2
              go_quiet (fail)
              go_wp2
              go_quiet (fail)
              go_wp2
              exact ⟨⟨i + 0, kk + 1, n + 1, by omega, by omega, by omega, by go_num, by go_num, by go_num, HJn.out, HB.out _ (by repeat (first | exact HB0.out.alloc (Nat.le_refl _) _ | refine below_drewN ?_ _ | refine below_setJ ?_ (Nat.le_refl _) (Nat.le_refl _)))⟩, by simp [intOf]; omega⟩
            · by_cases hsq : (gF X i).sq ≤ (gF V kk).sq
              · obtain ⟨gx, ox, rfl, hx⟩ := hR.out.2.x.resolve_left (nil_noJ h1)
                obtain ⟨x0c, x1c, x2c, x3c⟩ := hx i h1
                have i0 : (0 : Int) ≤ (i : Int) := by omega
                have i1 : (i : Int) < (X.length : Int) := by omega
                have hxl : gx < wr.heap.size := World.block_lt_of_cell? wr ⟨gx, ox + i * 4, none⟩ x0c
                have hxlt : ¬ gx = wr.heap.size := by omega
                clear hx
                obtain ⟨gy, oy, rfl, hy⟩ := hR.out.2.y.resolve_left (nil_noJ (q := kk) (by rw [hVY.out]; exact h2))
                obtain ⟨y0c, y1c, y2c, y3c⟩ := hy kk (by rw [hVY.out]; exact h2)
                have j0 : (0 : Int) ≤ (kk : Int) := by omega
                have j1 : (kk : Int) < (m : Int) := by omega
                have hyl : gy < wr.heap.size := World.block_lt_of_cell? wr ⟨gy, oy + kk * 4, none⟩ y0c
                have hylt : ¬ gy = wr.heap.size := by omega
                clear hy
                have HJn : Hid _ := hj
                rw [hg] at z0c z1c z2c z3c
                generalize gF X i = EX at *
                obtain ⟨x0, x1, x2, x3⟩ := EX
                simp only at x0c x1c x2c x3c
                generalize gF V kk = EY at *
                obtain ⟨y0, y1, y2, y3⟩ := EY
                simp only at y0c y1c y2c y3c
                simp only at hlb hsq
                subst hlb
                unfold bst at z0c z1c z2c z3c
                simp only [if_pos hsq] at z0c z1c z2c z3c
                have hs2 : (x2 : Int) ≤ (y2 : Int) := by omega
                have hne : ∀ w : World, (binOp .neq 48 (.agg #[.int .i64 (x0 : Nat), .int .i64 (y1 : Nat), .int .i64 (y2 : Nat), .int .i64 (y3 : Nat)]) (.agg #[.int .i64 (x0 : Nat), .int .i64 (y1 : Nat), .int .i64 (y2 : Nat), .int .i64 (y3 : Nat)])).run (Al.progOf Try.prog) w = .ok (.bool false) w := fun w => found_self _ _ _ _ w
                clear hg
                clear hR
                go_wp2
                go_quiet (fail)
                go_wp2
                go_quiet (fail)
                go_wp2
                go_quiet (fail)
                generalize hW : World.drewN _ _ = W1
                have hbel : Below wr.heap.size wr W1 := by
                  rw [← hW]
                  repeat (first | exact HB0.out.alloc (Nat.le_refl _) _ | refine below_drewN ?_ _ | refine below_setJ ?_ (Nat.le_refl _) (Nat.le_refl _))
                have hrow : W1.heap[wr.heap.size]? = some (.cells #[.int .i64 (x0 : Nat), .int .i64 (x1 : Nat), .int .i64 (x2 : Nat), .int .i64 (x3 : Nat)] 48 (0, 0)) := by
                  rw [← hW]
                  exact over4 (heap_alloc_new wr _) _ _ _ _
                obtain ⟨f0, f1, f2, f3⟩ := cells4 hrow
                have q0 := row_free hrow 0
                have q1 := row_free hrow 1
                have q2 := row_free hrow 2
                have q3 := row_free hrow 3
                replace z0c := lies_cell hbel z0c
                replace z1c := lies_cell hbel z1c
                replace z2c := lies_cell hbel z2c
                replace z3c := lies_cell hbel z3c
                replace y0c := lies_cell hbel y0c
                replace y1c := lies_cell hbel y1c
                replace y2c := lies_cell hbel y2c
                replace y3c := lies_cell hbel y3c
                have HBl : Hid (Below wr.heap.size wr W1) := hbel
                clear hW hrow hbel x0c x1c x2c x3c
                go_wp2
                go_quiet (fail)
                go_wp2
                exact ⟨⟨i + 1, kk + 1, n + 1, by omega, by omega, by omega, by go_num, by go_num, by go_num, HJn.out, HB.out _ (by repeat (first | exact HBl.out | refine below_drewN ?_ _ | refine below_setJ ?_ (Nat.le_refl _) (Nat.le_refl _)))⟩, by simp [intOf]; omega⟩
              · obtain ⟨gx, ox, rfl, hx⟩ := hR.out.2.x.resolve_left (nil_noJ h1)
                obtain ⟨x0c, x1c, x2c, x3c⟩ := hx i h1
                have i0 : (0 : Int) ≤ (i : Int) := by omega
                have i1 : (i : Int) < (X.length : Int) := by omega
                have hxl : gx < wr.heap.size := World.block_lt_of_cell? wr ⟨gx, ox + i * 4, none⟩ x0c
                have hxlt : ¬ gx = wr.heap.size := by omega
                clear hx
                obtain ⟨gy, oy, rfl, hy⟩ := hR.out.2.y.resolve_left (nil_noJ (q := kk) (by rw [hVY.out]; exact h2))
                obtain ⟨y0c, y1c, y2c, y3c⟩ := hy kk (by rw [hVY.out]; exact h2)
                have j0 : (0 : Int) ≤ (kk : Int) := by omega
                have j1 : (kk : Int) < (m : Int) := by omega
                have hyl : gy < wr.heap.size := World.block_lt_of_cell? wr ⟨gy, oy + kk * 4, none⟩ y0c
                have hylt : ¬ gy = wr.heap.size := by omega
                clear hy
                have HJn : Hid _ := hj
                rw [hg] at z0c z1c z2c z3c
                generalize gF X i = EX at *
                obtain ⟨x0, x1, x2, x3⟩ := EX
                simp only at x0c x1c x2c x3c
                generalize gF V kk = EY at *
                obtain ⟨y0, y1, y2, y3⟩ := EY
                simp only at y0c y1c y2c y3c
                simp only at hlb hsq
                subst hlb
                unfold bst at z0c z1c z2c z3c
                simp only [if_neg hsq] at z0c z1c z2c z3c
                have hs2 : ¬ (x2 : Int) ≤ (y2 : Int) := by omega
                have hne : ∀ w : World, (binOp .neq 48 (.agg #[.int .i64 (x0 : Nat), .int .i64 (x1 : Nat), .int .i64 (x2 : Nat), .int .i64 (x3 : Nat)]) (.agg #[.int .i64 (x0 : Nat), .int .i64 (x1 : Nat), .int .i64 (x2 : Nat), .int .i64 (x3 : Nat)])).run (Al.progOf Try.prog) w = .ok (.bool false) w := fun w => found_self _ _ _ _ w
                clear hg
                clear hR
                go_wp2
                go_quiet (fail)
                go_wp2
                go_quiet (fail)
                go_wp2
                go_quiet (fail)
                go_wp2
                go_quiet (fail)
                go_wp2
                exact ⟨⟨i + 1, kk + 1, n + 1, by omega, by omega, by omega, by go_num, by go_num, by go_num, HJn.out, HB.out _ (by repeat (first | exact HB0.out.alloc (Nat.le_refl _) _ | refine below_drewN ?_ _ | refine below_setJ ?_ (Nat.le_refl _) (Nat.le_refl _)))⟩, by simp [intOf]; omega⟩
            · obtain ⟨gx, ox, rfl, hx⟩ := hR.out.2.x.resolve_left (nil_noJ h1)
              obtain ⟨x0c, x1c, x2c, x3c⟩ := hx i h1
              have i0 : (0 : Int) ≤ (i : Int) := by omega
              have i1 : (i : Int) < (X.length : Int) := by omega
              have hxl : gx < wr.heap.size := World.block_lt_of_cell? wr ⟨gx, ox + i * 4, none⟩ x0c
              have hxlt : ¬ gx = wr.heap.size := by omega
              clear hx
              have j1 : decide ((kk : Int) < (m : Int)) = false := decide_eq_false (by omega)
              have HJn : Hid _ := hj
              rw [hg] at z0c z1c z2c z3c
              generalize gF X i = EX at *
              obtain ⟨x0, x1, x2, x3⟩ := EX
              simp only at x0c x1c x2c x3c
              simp only at z0c z1c z2c z3c
              have hne : ∀ w : World, (binOp .neq 48 (.agg #[.int .i64 (x0 : Nat), .int .i64 (x1 : Nat), .int .i64 (x2 : Nat), .int .i64 (x3 : Nat)]) (.agg #[.int .i64 (x0 : Nat), .int .i64 (x1 : Nat), .int .i64 (x2 : Nat), .int .i64 (x3 : Nat)])).run (Al.progOf Try.prog) w = .ok (.bool false) w := fun w => found_self _ _ _ _ w
              clear hg
              clear hR
              go_wp2
              go_quiet (fail)
              go_wp2
              go_quiet (fail)
              go_wp2
              go_quiet (fail)
              go_wp2
              exact ⟨⟨i + 1, kk + 0, n + 1, by omega, by omega, by omega, by go_num, by go_num, by go_num, HJn.out, HB.out _ (by repeat (first | exact HB0.out.alloc (Nat.le_refl _) _ | refine below_drewN ?_ _ | refine below_setJ ?_ (Nat.le_refl _) (Nat.le_refl _)))⟩, by simp [intOf]; omega⟩
            · have i1 : decide ((i : Int) < (X.length : Int)) = false := decide_eq_false (by omega)
              obtain ⟨gy, oy, rfl, hy⟩ := hR.out.2.y.resolve_left (nil_noJ (q := kk) (by rw [hVY.out]; exact h2))
              obtain ⟨y0c, y1c, y2c, y3c⟩ := hy kk (by rw [hVY.out]; exact h2)
              have j0 : (0 : Int) ≤ (kk : Int) := by omega
              have j1 : (kk : Int) < (m : Int) := by omega
              have hyl : gy < wr.heap.size := World.block_lt_of_cell? wr ⟨gy, oy + kk * 4, none⟩ y0c
              have hylt : ¬ gy = wr.heap.size := by omega
              clear hy
              have HJn : Hid _ := hj
              rw [hg] at z0c z1c z2c z3c
              generalize gF V kk = EY at *
              obtain ⟨y0, y1, y2, y3⟩ := EY
              simp only at y0c y1c y2c y3c
              simp only at z0c z1c z2c z3c
              have hne : ∀ w : World, (binOp .neq 48 (.agg #[.int .i64 (y0 : Nat), .int .i64 (y1 : Nat), .int .i64 (y2 : Nat), .int .i64 (y3 : Nat)]) (.agg #[.int .i64 (y0 : Nat), .int .i64 (y1 : Nat), .int .i64 (y2 : Nat), .int .i64 (y3 : Nat)])).run (Al.progOf Try.prog) w = .ok (.bool false) w := fun w => found_self _ _ _ _ w
              clear hg
              clear hR
              go_wp2
              go_quiet (fail)
              go_wp2
              go_quiet (fail)
              go_wp2
              go_quiet (fail)
              go_wp2
              go_quiet (fail)
              go_wp2
              exact ⟨⟨i + 0, kk + 1, n + 1, by omega, by omega, by omega, by go_num, by go_num, by go_num, HJn.out, HB.out _ (by repeat (first | exact HB0.out.alloc (Nat.le_refl _) _ | refine below_drewN ?_ _ | refine below_setJ ?_ (Nat.le_refl _) (Nat.le_refl _)))⟩, by simp [intOf]; omega⟩
          · obtain rfl : n = Z.length := by omega
            have hd : jn (X.drop i) (V.drop kk) = [] := by rw [hR.out.1, List.drop_length]
            obtain ⟨h1, h2⟩ := jn_done hd
            rw [hVY.out] at h2
            obtain rfl : i = X.length := by omega
            obtain rfl : kk = m := by omega
            go_wp2
            go_ret
            exact ⟨rfl, hR.out.2.bel⟩
  · have hT4 : (4096 : Int) < (T.length : Int) := by have := HTl.out; omega
    have hT5 : (T.length : Int) ≤ 1048576 := by have := HTl.out; have := HNil.out.2.2; omega
    have HNv : Hid (Calls (Al.progOf Try.prog) 13 #[.slice a7 T.length c7, .int .i64 (1 + (k : Int))] w7 fun e w' => e = .returned (.tuple #[.slice none 0 0, .iface 56 (.int .i64 3)]) ∧ w7 = w') := HNF.out k w7 a7 c7 T.length hk (by omega)
    have HBl : Hid (Below w.heap.size w w7) := B7.out.1.bel
    clear HNF HNT HNA HNB B7 HTl HT HJ HYp HLn HNil h4
    go_wp2_with fail
    refine HNv.out.mono ?_
    rintro e _ ⟨rfl, rfl⟩
    clear HNv
    go_wp2
    go_ret
    exact ⟨rfl, HBl.out⟩
end Go.Proofs.YtgeigfgmokikcagQ

/-
  The walk of granarylaw1.ChipKeeps: it returns true, and nothing that was there has turned.
-/
import Derived.Test.YtjeelaaimhckhabDoorAids
namespace Go.Proofs.YtjeelaaimhckhabDoor
open Go.RowKit
set_option linter.unusedVariables false

/-- Block k's first page is bs, and its turn is over. -/
def Kept (k Y : Nat) (bs : List Nat) (s : St) : Prop := 1 ≤ s.next k ∧ (s.bytes k).take Y = bs
theorem take_splice {l xs : List Nat} {off Y : Nat} (h : Y ≤ off) (ho : off ≤ l.length) : (splice l off xs).take Y = l.take Y := by
  unfold splice
  rw [List.take_append_of_le_length (by rw [List.length_take]; omega), List.take_take, Nat.min_eq_left h]
theorem Kept.prog {k D B P Y : Nat} {bs xs : List Nat} {s : St} {d b p f : Int} (h : Kept k Y bs s) (hl : ∀ k, k < D * B → (s.bytes k).length = P * Y) : Kept k Y bs (progF D B P Y s d b p xs f).2 := by
  rcases progF_cases D B P Y s d b p xs f with ⟨_, e⟩ | ⟨_, hh, _, _, _, hp, hpP, ys, o, e, _⟩
  · rw [e]; exact h
  · rw [e]
    unfold Kept putSt
    show 1 ≤ upd s.next (kOf B d b) (p.toNat + 1) k ∧ (upd s.bytes (kOf B d b) (splice (s.bytes (kOf B d b)) (p.toNat * Y) ys) k).take Y = bs
    by_cases hk : k = kOf B d b
    · subst hk
      rw [upd_same, upd_same]
      refine ⟨by omega, ?_⟩
      have h1 := h.1
      have hpn : 1 ≤ p.toNat ∧ p.toNat ≤ P := by omega
      rw [take_splice (by have := Nat.mul_le_mul_right Y hpn.1; omega) (by rw [hl _ hh.lt]; exact Nat.mul_le_mul_right Y hpn.2)]
      exact h.2
    · rw [upd_ne _ _ _ _ hk, upd_ne _ _ _ _ hk]; exact h
theorem Kept.erase {D B P Y : Nat} {bs : List Nat} {s : St} {die block d b f : Int} (hh : Here D B die block) (h : Kept (kOf B die block) Y bs s) (hne : ¬ (d = die ∧ b = block)) : Kept (kOf B die block) Y bs (eraseF D B P Y s d b f).2 := by
  rcases eraseF_cases D B P Y s d b f with ⟨_, e, _⟩ | ⟨_, hh2, _, e | ⟨c, o, l, nx, _, _, e⟩⟩
  · rw [e]; exact h
  · rw [e]; exact h
  · rw [e]
    have hk : kOf B die block ≠ kOf B d b := fun e => hne ((kOf_inj hh2 hh e.symm))
    unfold Kept
    show 1 ≤ upd s.next (kOf B d b) nx _ ∧ (upd s.bytes (kOf B d b) l _).take Y = bs
    rw [upd_ne _ _ _ _ hk, upd_ne _ _ _ _ hk]; exact h
theorem mine_below {n cb bb N : Nat} {pb : Nat → Nat} {w w' : World} (h : Keep (Mine n cb bb pb) w w') (hN : N ≤ w.heap.size) (hm : ∀ b, Mine n cb bb pb b → N ≤ b) : Below N w w' := h.below hN hm
set_option maxHeartbeats 1600000 in
theorem keeps_no (g0 g1 g2 g3 die block : Int) (a a2 : Option Addr) (n cap n2 cap2 : Nat) (w : World) (hE : EType w) (h : ¬ GeoI g0 g1 g2 g3) :
    Calls Tryd.prog 4 #[.agg #[.int .i64 g0, .int .i64 g1, .int .i64 g2, .int .i64 g3], .int .i64 die, .int .i64 block, .slice a n cap, .slice a2 n2 cap2] w fun e w' => e = .returned (.bool true) ∧ Below w.heap.size w w' := by
  have HE : Hid (EType w) := hE
  clear hE
  go_enter Tryd.func4, Tryd.ntmps4
  go_wp2_with fail
  refine (fact_any _ (HE.out.below ((Below.refl _ _).alloc (Nat.le_refl _) _) HE.out.pos)).mono ?_
  rintro e w1 ⟨rfl, hb1⟩
  have hg := fun o => hb1.cell (p := ⟨w.heap.size, o, none⟩) (by simp)
  have q0 := hg 0
  have q1 := hg 1
  have q2 := hg 2
  have q3 := hg 3
  simp at q0 q1 q2 q3
  have hB : Below w.heap.size w w1 := ((Below.refl _ _).alloc (Nat.le_refl _) _).trans (hb1.mono (by simp))
  clear hb1 hg
  go_wp2_with fail
  refine (new_no g0 g1 g2 g3 _ h).mono ?_
  rintro e w2 ⟨rfl, hb2⟩
  go_wp2
  go_ret
  exact ⟨rfl, hB.trans (hb2.mono hB.size)⟩
set_option maxHeartbeats 4000000 in
theorem keeps_yes {D B P Y : Nat} (die block : Int) (a a2 : Option Addr) (bs : List Nat) (cap n2 cap2 : Nat) (w : World) (hG : Geo D B P Y) (hE : EType w) (hA : AllB bs) (hm : bs.length ≤ 140737488351232) (hc : bs.length ≤ cap) (hL : Lies w a bs) (hm2 : n2 ≤ 140737488351232) (hS : Script w a2 n2) :
    Calls Tryd.prog 4 #[.agg #[.int .i64 D, .int .i64 B, .int .i64 P, .int .i64 Y], .int .i64 die, .int .i64 block, .slice a bs.length cap, .slice a2 n2 cap2] w fun e w' => e = .returned (.bool true) ∧ Below w.heap.size w w' := by
  have HE : Hid (EType w) := hE
  have HG : Hid (Geo D B P Y) := hG
  have HL : Hid (Lies w a bs ∧ AllB bs ∧ bs.length ≤ cap) := ⟨hL, hA, hc⟩
  have HS : Hid (Script w a2 n2) := hS
  clear hE hG hL hA hc hS
  go_enter Tryd.func4, Tryd.ntmps4
  go_wp2_with fail
  refine (fact_any _ (HE.out.below ((Below.refl _ _).alloc (Nat.le_refl _) _) HE.out.pos)).mono ?_
  rintro e w1 ⟨rfl, hb1⟩
  have hg := fun o => hb1.cell (p := ⟨w.heap.size, o, none⟩) (by simp)
  have q0 := hg 0
  have q1 := hg 1
  have q2 := hg 2
  have q3 := hg 3
  simp at q0 q1 q2 q3
  have hB : Below w.heap.size w w1 := ((Below.refl _ _).alloc (Nat.le_refl _) _).trans (hb1.mono (by simp))
  clear hb1 hg
  go_wp2_with fail
  refine (new_yes _ HG.out).mono ?_
  rintro e w2 ⟨cb, bb, pb, rfl, h2, hge, hb2⟩
  have HB2 : Hid (CH D B P Y w2 cb bb pb (blank (P * Y)) ∧ (∀ b, Mine (D * B) cb bb pb b → w.heap.size ≤ b) ∧ Below w.heap.size w w2) := ⟨h2, fun b hb => Nat.le_trans hB.size (hge b hb), hB.trans (hb2.mono hB.size)⟩
  clear h2 hge hb2 hB q0 q1 q2 q3
  go_wp2_with fail
  refine (program_any die block 0 0 a bs cap w2 HG.out HB2.out.1 HL.out.2.1 HL.out.2.2 (HL.out.1.below HB2.out.2.2)).mono ?_
  rintro e w3 ⟨rfl, h3, hk3⟩
  rcases progF_cases D B P Y (blank (P * Y)) die block 0 bs 0 with ⟨h0, _⟩ | ⟨_, hh, hlY, _, _, _, _, xs, o, hF, hxs, ho⟩
  · have hB3 := HB2.out.2.2.trans (hk3.below HB2.out.2.2.size HB2.out.2.1)
    generalize (progF D B P Y (blank (P * Y)) die block 0 bs 0).1 = c at h0
    have e1 : errI c = .iface 30 (.int .i64 (c : Int)) := if_neg h0
    rw [e1]
    clear e1 h3 hk3
    go_wp2
    go_ret
    exact ⟨rfl, hB3⟩
  rw [hF] at h3 ⊢
  obtain rfl : xs = bs := hxs
  obtain rfl : o = false := ho
  have HB3 : Hid (CH D B P Y w3 cb bb pb (putSt (blank (P * Y)) (kOf B die block) 0 Y xs) ∧ Below w.heap.size w w3) := ⟨h3, HB2.out.2.2.trans (hk3.below HB2.out.2.2.size HB2.out.2.1)⟩
  have HH : Hid (Here D B die block ∧ xs.length = Y) := ⟨hh, hlY⟩
  have HGE : Hid (∀ b, Mine (D * B) cb bb pb b → w.heap.size ≤ b) := HB2.out.2.1
  have HK : Hid (Kept (kOf B die block) Y xs (putSt (blank (P * Y)) (kOf B die block) 0 Y xs)) := by
    show Kept _ _ _ _
    unfold Kept putSt
    dsimp only
    rw [upd_same, upd_same]
    refine ⟨Nat.le_refl _, ?_⟩
    rw [Nat.zero_mul]
    unfold splice
    rw [List.take_zero, List.nil_append, List.take_append_of_le_length (by omega), List.take_of_length_le (by omega)]
  clear h3 hk3 hF hh hlY HB2
  rw [if_pos rfl, errI_zero]
  go_wp2
  go_loopw [14] (fun j wr => ∃ (i : Nat) (s : St), i ≤ n2 ∧ j = .int .i64 i ∧ Hid (CH D B P Y wr cb bb pb s ∧ Kept (kOf B die block) Y xs s ∧ (∀ k, s.wear k ≤ i) ∧ Below w.heap.size w wr)) (fun j _ => n2 - (intOf j).toNat)
  case atStart => exact ⟨0, _, by omega, rfl, HB3.out.1, HK.out, (fun k => Nat.le_refl _), HB3.out.2⟩
  case round =>
    obtain ⟨i, s, hi, rfl, hR⟩ := hrel
    clear HB3 HK
    by_cases hlt : i < n2
    · obtain ⟨sb, so, ha2, o, hO⟩ := (HS.out.below hR.out.2.2.2).slice hlt
      have k0 := hO.k0
      have k1 := hO.k1
      have k2 := hO.k2
      have k3 := hO.k3
      have k4 := hO.k4
      have k5 := hO.k5
      have HO : Hid (OpAt wr sb so i o) := hO
      clear hO
      rw [ha2]
      have hbA : ∀ ob : Obj, Below wr.heap.size wr (wr.alloc ob) := fun ob => (Below.refl _ _).alloc (Nat.le_refl _) ob
      have HA : Hid (∀ ob : Obj, Below wr.heap.size wr (wr.alloc ob)) := hbA
      clear hbA
      have hbound : ∀ k, s.wear k < 4611686018427387904 := fun k => by have := hR.out.2.2.1 k; omega
      have HBd : Hid (∀ k, s.wear k < 4611686018427387904) := hbound
      clear hbound
      have fin : Hid (∀ (ob : Obj) (w4 : World) (s' : St), CH D B P Y w4 cb bb pb s' → Kept (kOf B die block) Y xs s' → (∀ k, s'.wear k ≤ i + 1) → Keep (Mine (D * B) cb bb pb) (wr.alloc ob) w4 → CH D B P Y w4 cb bb pb s' ∧ Kept (kOf B die block) Y xs s' ∧ (∀ k, s'.wear k ≤ i + 1) ∧ Below w.heap.size w w4) := by
        intro ob w4 s' q1 q2 q3 q4
        have hb := hR.out.2.2.2.trans ((HA.out ob).mono hR.out.2.2.2.size)
        exact ⟨q1, q2, q3, hb.trans (q4.below hb.size HGE.out)⟩
      by_cases hk1 : o.kind = 1
      · rw [hk1] at k0
        go_wp2_with fail
        refine (program_any o.die o.block o.page o.fault o.a o.bs o.cap _ HG.out (hR.out.1.below HG.out.n.1 (HA.out _)) HO.out.all HO.out.fits (HO.out.lies.below (HA.out _))).mono ?_
        rintro e w4 ⟨rfl, h4, hk4⟩
        have HR := fin.out _ w4 _ h4 (hR.out.2.1.prog hR.out.1.hl) (fun k => by rw [(progF_wear ..).1]; exact Nat.le_succ_of_le (hR.out.2.2.1 k)) hk4
        have HR' : Hid (CH D B P Y w4 cb bb pb _ ∧ Kept (kOf B die block) Y xs _ ∧ (∀ k, St.wear _ k ≤ i + 1) ∧ Below w.heap.size w w4) := HR
        clear HR h4 hk4 fin
        go_wp2
        go_roundw
        case rel => exact ⟨i + 1, _, by omega, by go_num, HR'.out⟩
        case measure => simp [intOf]; omega
      by_cases hk3 : o.kind = 3
      · rw [hk3] at k0
        by_cases hne : o.die = die ∧ o.block = block
        · obtain ⟨hd1, hd2⟩ := hne
          rw [hd1] at k1
          rw [hd2] at k2
          have HR : Hid (∀ ob : Obj, CH D B P Y (wr.alloc ob) cb bb pb s ∧ Kept (kOf B die block) Y xs s ∧ (∀ k, s.wear k ≤ i + 1) ∧ Below w.heap.size w (wr.alloc ob)) := fun ob => fin.out ob _ s (hR.out.1.below HG.out.n.1 (HA.out ob)) hR.out.2.1 (fun k => Nat.le_succ_of_le (hR.out.2.2.1 k)) (Keep.refl _ _)
          go_wp2
          go_roundw
          case rel => exact ⟨i + 1, _, by omega, by go_num, HR.out _⟩
          case measure => simp [intOf]; omega
        · have HNE : Hid (¬ (o.die = die ∧ o.block = block)) := hne
          have htest : (o.die != die) = true ∨ ((o.die != die) = false ∧ (o.block != block) = true) := by
            by_cases e : o.die = die
            · exact Or.inr ⟨by rw [e]; simp, by simp only [bne_iff_ne, ne_eq]; exact fun e2 => hne ⟨e, e2⟩⟩
            · exact Or.inl (by simp only [bne_iff_ne, ne_eq]; exact e)
          clear hne
          rcases htest with ht | ⟨ht, ht2⟩
          all_goals
            go_wp2_with fail
            refine (erase_any o.die o.block o.fault _ HG.out (hR.out.1.below HG.out.n.1 (HA.out _)) HBd.out).mono ?_
            rintro e w4 ⟨rfl, h4, hk4⟩
            have HR := fin.out _ w4 _ h4 (Kept.erase HH.out.1 hR.out.2.1 HNE.out) (eraseF_wear D B P Y s o.die o.block o.fault i hR.out.2.2.1) hk4
            have HR' : Hid (CH D B P Y w4 cb bb pb _ ∧ Kept (kOf B die block) Y xs _ ∧ (∀ k, St.wear _ k ≤ i + 1) ∧ Below w.heap.size w w4) := HR
            clear HR h4 hk4 fin
            go_wp2
            go_roundw
            case rel => exact ⟨i + 1, _, by omega, by go_num, HR'.out⟩
            case measure => simp [intOf]; omega
      · have e1 : (o.kind == 1) = false := beq_eq_false_iff_ne.2 hk1
        have e3 : (o.kind == 3) = false := beq_eq_false_iff_ne.2 hk3
        clear hk1 hk3
        go_wp2_with fail
        refine (on_any _ (hR.out.1.below HG.out.n.1 (HA.out _))).mono ?_
        rintro e w4 ⟨rfl, h4, hk4⟩
        have HR := fin.out _ w4 _ h4 hR.out.2.1 (fun k => Nat.le_succ_of_le (hR.out.2.2.1 k)) hk4
        have HR' : Hid (CH D B P Y w4 cb bb pb _ ∧ Kept (kOf B die block) Y xs _ ∧ (∀ k, St.wear _ k ≤ i + 1) ∧ Below w.heap.size w w4) := HR
        clear HR h4 hk4 fin
        go_wp2
        go_roundw
        case rel => exact ⟨i + 1, _, by omega, by go_num, HR'.out⟩
        case measure => simp [intOf]; omega
    · obtain rfl : i = n2 := by omega
      go_wp2_with fail
      refine (on_any _ hR.out.1).mono ?_
      rintro e w4 ⟨rfl, h4, hk4⟩
      have H4 : Hid (CH D B P Y w4 cb bb pb { s with off := false } ∧ Below w.heap.size w w4) := ⟨h4, hR.out.2.2.2.trans (hk4.below hR.out.2.2.2.size HGE.out)⟩
      clear h4 hk4
      go_wp2_with fail
      have hp0 := HG.out.p0
      refine (read_some die block 0 _ HG.out H4.out.1 rfl HH.out.1 (by omega)).mono ?_
      rintro e w5 ⟨g, rfl, hg1, hg2, hg3, hb5⟩
      have hpg : pageOf (s.bytes (kOf B die block)) (0 * Y) Y = xs := by
        unfold pageOf
        rw [Nat.zero_mul, List.drop_zero]
        exact hR.out.2.1.2
      dsimp only at hg2
      rw [hpg] at hg2
      have hB5 : Below w.heap.size w w5 := H4.out.2.trans (hb5.mono H4.out.2.size)
      have hby := bytes_any (some ⟨g, 0, none⟩) a xs xs Y cap w5 (by omega) (by omega) (row_lies hg2) (HL.out.1.below hB5)
      rw [decide_eq_true rfl] at hby
      have HBY : Hid (Calls Tryd.prog 19 #[.slice (some ⟨g, 0, none⟩) Y Y, .slice a xs.length cap] w5 fun e w' => e = .returned (.bool true) ∧ Below w5.heap.size w5 w') := by
        have e := HH.out.2
        show Calls _ _ _ _ _
        have := hby
        rw [show (Value.slice (some ⟨g, 0, none⟩) xs.length Y) = .slice (some ⟨g, 0, none⟩) Y Y by rw [e]] at this
        exact this
      have HB5 : Hid (Below w.heap.size w w5) := hB5
      clear hg1 hg2 hg3 hb5 hby hpg hB5
      go_wp2_with fail
      refine HBY.out.mono ?_
      rintro e w6 ⟨rfl, hb6⟩
      go_wp2
      go_ret
      exact ⟨rfl, HB5.out.trans (hb6.mono HB5.out.size)⟩
theorem keeps_any (g0 g1 g2 g3 die block : Int) (a a2 : Option Addr) (bs : List Nat) (cap n2 cap2 : Nat) (w : World) (hE : EType w) (hA : AllB bs) (hm : bs.length ≤ 140737488351232) (hc : bs.length ≤ cap) (hL : Lies w a bs) (hm2 : n2 ≤ 140737488351232) (hS : Script w a2 n2) :
    Calls Tryd.prog 4 #[.agg #[.int .i64 g0, .int .i64 g1, .int .i64 g2, .int .i64 g3], .int .i64 die, .int .i64 block, .slice a bs.length cap, .slice a2 n2 cap2] w fun e w' => e = .returned (.bool true) ∧ Below w.heap.size w w' := by
  by_cases h : GeoI g0 g1 g2 g3
  · obtain ⟨D, B, P, Y, rfl, rfl, rfl, rfl, hG⟩ := h.nat
    exact keeps_yes die block a a2 bs cap n2 cap2 w hG hE hA hm hc hL hm2 hS
  · exact keeps_no g0 g1 g2 g3 die block a a2 bs.length cap n2 cap2 w hE h
end Go.Proofs.YtjeelaaimhckhabDoor

/-
  What the calls of writeList and Build give.
-/
import Derived.Test.YtdkafcgangcgbajBuild
namespace Go.Proofs.Ytdkafcgangcgbaj
open Go.RowKit
set_option linter.unusedVariables false

theorem gI_map (N : List Nat) {k : Nat} (h : k < N.length) : gI (N.map Int.ofNat) k = ((N[k]?.getD 0 : Nat) : Int) := by
  unfold gI
  rw [List.getElem?_map, List.getElem?_eq_getElem h]
  rfl
theorem layN_drop {l N : List Nat} {a k : Nat} (h : k < N.length) : layN l a (N.drop k) = layN (lay l a (low 8 (N[k]?.getD 0))) (a + 8) (N.drop (k + 1)) := by
  rw [List.drop_eq_getElem_cons h, List.getElem?_eq_getElem h]
  rfl
set_option maxRecDepth 20000 in
set_option maxHeartbeats 1600000 in
theorem writeList_no (mb hb : Nat) (l : List Nat) (x : Int) (pa : Option Addr) (pc : Nat) (ps : List Int) (w : World) (h : MW w mb hb l) (hI : IL w pa ps) (hcap : ps.length ≤ pc) (hnil : pa = none → pc = 0) (hl : ps.length ≤ 1000) (hx : x ≤ 9223372036854775807) (hf : ¬ fits l.length x ((8 * (lstW 1000 x ps).length : Nat) : Int)) :
    Calls Try.prog 20 #[.pointer (some ⟨mb, 0, none⟩), .int .i64 x, .slice pa ps.length pc] w fun e w' => e = .returned (.iface 48 (.int .i64 1)) ∧ Below w.heap.size w w' := by
  have HLo := listOf_any x pa pc ps w hI hcap hnil hl
  have hlen := lstW_len 1000 x ps
  have HLi : Hid (∀ wz, Below w.heap.size w wz → Calls Try.prog 27 #[.pointer (some ⟨mb, 0, none⟩), .agg #[.int .i64 x, .int .i64 ((8 * (lstW 1000 x ps).length : Nat) : Int)]] wz fun e w' => e = .returned (.bool false) ∧ Below w.heap.size w w') := fun wz hz => by
    have := lies_any mb hb l x ((8 * (lstW 1000 x ps).length : Nat) : Int) wz (h.below hz) hx
    rw [decide_eq_false hf] at this
    exact this.mono fun e w' ⟨q1, q2⟩ => ⟨q1, hz.trans (q2.mono hz.size)⟩
  clear h hI hcap hnil hf
  generalize lstW 1000 x ps = N at *
  obtain ⟨Z, hZ⟩ : ∃ Z : Nat, (8 : Int) * (N.length : Int) = (Z : Int) := ⟨8 * N.length, by omega⟩
  have HZ : Hid (8 * N.length = Z) := by show _ = _; omega
  rw [HZ.out] at HLi
  have hZb : Z ≤ 1000000 := by omega
  go_enter Try.func20, Try.ntmps20
  go_wp2_with fail
  refine HLo.mono ?_
  rintro e w1 ⟨a1, c1, rfl, hO, hb1⟩
  have HL1 := HLi.out w1 hb1
  clear HLo HLi hO hb1
  go_wp2_with fail
  refine HL1.mono ?_
  rintro e w2 ⟨rfl, hW⟩
  clear HL1
  go_wp2
  go_ret
  exact ⟨rfl, hW⟩
/-- While writeList goes. -/
structure WI (w wr : World) (mb hb : Nat) (R : List Nat) (NB : List Nat) (L A k : Nat) (l : List Nat) : Prop where
  mw : MW wr mb hb l
  kp : Keep (fun b => b = hb) w wr
  len : l.length = L
  eq : R = layN l (A + 8 * k) (NB.drop k)
set_option maxRecDepth 20000 in
set_option maxHeartbeats 3200000 in
theorem writeList_yes (mb hb : Nat) (l : List Nat) (A : Nat) (pa : Option Addr) (pc : Nat) (ps : List Int) (NB : List Nat) (w : World) (h : MW w mb hb l) (hI : IL w pa ps) (hcap : ps.length ≤ pc) (hnil : pa = none → pc = 0) (hl : ps.length ≤ 1000) (hN : lstW 1000 (A : Nat) ps = NB.map Int.ofNat) (hle : ∀ i, i < NB.length → NB[i]?.getD 0 ≤ 4611686018427387904) (hf : A + 8 * NB.length ≤ l.length) :
    Calls Try.prog 20 #[.pointer (some ⟨mb, 0, none⟩), .int .i64 (A : Nat), .slice pa ps.length pc] w fun e w' => e = .returned .nilIface ∧ MW w' mb hb (layN l A NB) ∧ Keep (fun b => b = hb) w w' := by
  have HLo := listOf_any (A : Nat) pa pc ps w hI hcap hnil hl
  rw [hN] at HLo
  have hll := h.long
  obtain ⟨N, HNe⟩ : ∃ N : List Int, Hid (N = NB.map Int.ofNat) := ⟨_, rfl⟩
  rw [← HNe.out] at HLo
  have HNl : Hid (N.length = NB.length) := by rw [HNe.out]; exact List.length_map ..
  obtain ⟨Z, hZ⟩ : ∃ Z : Nat, (8 : Int) * (N.length : Int) = (Z : Int) := ⟨8 * N.length, by omega⟩
  have HLi : Hid (∀ wz, Below w.heap.size w wz → Calls Try.prog 27 #[.pointer (some ⟨mb, 0, none⟩), .agg #[.int .i64 (A : Nat), .int .i64 (Z : Nat)]] wz fun e w' => e = .returned (.bool true) ∧ Below w.heap.size w w' ∧ Below wz.heap.size wz w') := fun wz hz => by
    have := lies_any mb hb l (A : Nat) (Z : Nat) wz (h.below hz) (by omega)
    rw [decide_eq_true (show fits l.length (A : Nat) (Z : Nat) from ⟨by omega, by omega, by have := HNl.out; omega⟩)] at this
    exact this.mono fun e w' ⟨q1, q2⟩ => ⟨q1, hz.trans (q2.mono hz.size), q2⟩
  have hZb : Z ≤ 1000000 := by have := HNl.out; omega
  have HLe : Hid (∀ i, i < NB.length → NB[i]?.getD 0 ≤ 4611686018427387904) := hle
  have Hf : Hid (A + 8 * NB.length ≤ l.length ∧ l.length ≤ 16384 ∧ hb < w.heap.size) := ⟨hf, hll, h.lt.2⟩
  have H0 : Hid (∀ wz, Below w.heap.size w wz → WI w wz mb hb (layN l A NB) NB l.length A 0 l) := fun wz hz => ⟨h.below hz, Keep.of_below hz, rfl, by rw [Nat.mul_zero, Nat.add_zero, List.drop_zero]⟩
  clear h hI hcap hnil hN hf hle hll
  generalize layN l A NB = R at *
  go_enter Try.func20, Try.ntmps20
  go_wp2_with fail
  refine HLo.mono ?_
  rintro e w1 ⟨a1, c1, rfl, hO, hb1⟩
  have HL1 := HLi.out w1 hb1
  have HgB : Hid (∀ b, blk a1 b → b ≠ hb) := fun b hb' e => by have := (hO.blk hb').1; have := Hf.out.2.2; omega
  have HIl : Hid (∀ wz, Below w1.heap.size w1 wz → IL wz a1 N) := fun wz hz => hO.il.below hz
  clear HLo HLi hO hb1
  go_wp2_with fail
  refine HL1.mono ?_
  rintro e w2 ⟨rfl, hW, hW1⟩
  have H1 : Hid (WI w w2 mb hb R NB l.length A 0 l) := H0.out w2 hW
  have HO2 : Hid (∀ wz, Keep (fun b => b = hb) w wz → ∀ k, k < N.length → wz.heap.size = wz.heap.size) := fun _ _ _ _ => rfl
  have HIL : Hid (IL w2 a1 N) := HIl.out w2 hW1
  clear HL1 H0 hW hW1 HO2 HIl
  by_cases hn0 : N.length = 0
  · have HE : Hid (R = l) := by
      have e := H1.out.eq
      have : NB = [] := List.eq_nil_of_length_eq_zero (by have := HNl.out; omega)
      rw [this] at e
      exact e
    have HF : Hid (MW w2 mb hb R ∧ Keep (fun b => b = hb) w w2) := by rw [HE.out]; exact ⟨H1.out.mw, H1.out.kp⟩
    rw [hn0]
    clear H1 HE HIL HNe HNl
    go_wp2
    go_loop [25] (fun j => j = .int .i64 0) (fun _ => 0)
    case atStart => rfl
    case round =>
      subst hrel
      go_wp2
      go_ret
      exact ⟨rfl, HF.out⟩
  · obtain ⟨g, off, ha1, hat⟩ := HIL.out.some_of (show 0 < N.length by omega)
    subst ha1
    have HC : Hid (∀ wz, Keep (fun b => b = hb) w2 wz → ∀ k, k < N.length → wz.cell? ⟨g, off + k, none⟩ = some (.int .i64 ((NB[k]?.getD 0 : Nat) : Int))) := fun wz hk k hkk => by
      have h1 := hat k hkk
      have h2 : gI N k = ((NB[k]?.getD 0 : Nat) : Int) := by rw [HNe.out]; exact gI_map NB (by have := HNl.out; omega)
      rw [h2] at h1
      exact (hk.cell (p := ⟨g, off + k, none⟩) (World.block_lt_of_cell? w2 _ h1) (HgB.out g ⟨_, rfl, rfl⟩)).trans h1
    have H2 : Hid (WI w w2 mb hb R NB l.length A 0 l ∧ Keep (fun b => b = hb) w2 w2) := ⟨H1.out, Keep.refl _ _⟩
    clear hat HIL H1 HNe
    go_wp2
    go_loopw [25] (fun j wr => ∃ (k : Nat) (l' : List Nat), k ≤ N.length ∧ j = .int .i64 k ∧ Hid (WI w wr mb hb R NB l.length A k l' ∧ Keep (fun b => b = hb) w2 wr)) (fun j _ => N.length - (intOf j).toNat)
    case atStart => exact ⟨0, l, Nat.zero_le _, rfl, H2.out⟩
    case round =>
      obtain ⟨k, l', hk, rfl, hR⟩ := hrel
      clear H2
      by_cases hlt : k < N.length
      · have c0 := HC.out wr hR.out.2 k hlt
        have k0 : (0 : Int) ≤ (k : Int) := by omega
        have k1 : (k : Int) < (N.length : Int) := by omega
        obtain ⟨Y, hY⟩ : ∃ Y : Nat, (A : Int) + 8 * (k : Int) = (Y : Int) := ⟨A + 8 * k, by omega⟩
        have hfA := Hf.out
        have hnl := HNl.out
        have hYe : A + 8 * k = Y := by omega
        have HS : Hid (Calls Try.prog 29 #[.pointer (some ⟨mb, 0, none⟩), .int .i64 (Y : Nat), .int .i64 ((NB[k]?.getD 0 : Nat) : Int)] wr fun e w' => e = .returned .nilIface ∧ Hid (WI w w' mb hb R NB l.length A (k + 1) (lay l' Y (low 8 (NB[k]?.getD 0))) ∧ Keep (fun b => b = hb) w2 w')) := by
          refine (set_yes mb hb l' Y (NB[k]?.getD 0) wr hR.out.1.mw (HLe.out k (by omega)) (by rw [hR.out.1.len]; omega)).mono ?_
          rintro e w' ⟨q1, q2, q3⟩
          refine ⟨q1, ⟨q2, hR.out.1.kp.trans q3, ?_, ?_⟩, hR.out.2.trans q3⟩
          · rw [lay_len (by rw [low_len, hR.out.1.len]; omega)]; exact hR.out.1.len
          · rw [hR.out.1.eq, hYe, layN_drop (by omega), show A + 8 * (k + 1) = Y + 8 by omega]
        have hYb : Y ≤ 16384 := by omega
        have hkb : k ≤ 16384 := by omega
        clear hR hYe hfA hnl HC HLe Hf HNl
        generalize NB[k]?.getD 0 = V at *
        generalize lay l' Y (low 8 V) = l2 at *
        go_wp2_with fail
        refine HS.out.mono ?_
        rintro e w3 ⟨rfl, hS⟩
        clear HS
        go_wp2
        go_roundw
        case rel => exact ⟨k + 1, l2, by omega, by go_num, hS.out⟩
        case measure => simp [intOf]; omega
      · obtain rfl : k = N.length := by omega
        have HF : Hid (MW wr mb hb R ∧ Keep (fun b => b = hb) w wr) := by
          have e := hR.out.1.eq
          rw [HNl.out, List.drop_length] at e
          rw [e]
          exact ⟨hR.out.1.mw, hR.out.1.kp⟩
        clear hlt hR HC
        go_wp2
        go_ret
        exact ⟨rfl, HF.out⟩
end Go.Proofs.Ytdkafcgangcgbaj

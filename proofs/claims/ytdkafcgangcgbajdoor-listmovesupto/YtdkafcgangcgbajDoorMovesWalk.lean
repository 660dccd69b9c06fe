/-
  What the law ListMoves gives: true, whatever the bytes and the segments (of so many that what is gathered can be held).
-/
import Derived.Test.YtdkafcgangcgbajDoorMovesBase
import Derived.Test.YtdkafcgangcgbajDoorTold
namespace Go.Proofs.YtdkafcgangcgbajDoor
open Go.RowKit
set_option linter.unusedVariables false

set_option maxRecDepth 20000 in
set_option maxHeartbeats 1600000 in
theorem moves_no (a la da : Option Addr) (n cap ln lc dn dc : Nat) (w : World) (h : 16384 < n) (hn : n ≤ 140737488355328) :
    Calls Tryd.prog 4 #[.slice a n cap, .slice la ln lc, .slice da dn dc] w fun e w' => e = .returned (.bool true) ∧ Below w.heap.size w w' := by
  have HN := filled_no a n cap w h hn
  have h2 : (16384 : Int) < (n : Int) := by omega
  go_enter Tryd.func4, Tryd.ntmps4
  go_wp2_with fail
  refine HN.mono ?_
  rintro e w' ⟨rfl, rfl⟩
  clear HN
  go_wp2
  go_ret
  exact ⟨rfl, Below.refl _ _⟩
/-- While the law lays the data into a copy of the bytes. -/
structure NI (w8 wr : World) (B : Nat) (a4 : Option Addr) (c : Nat) (R : List Nat) (L : List Sg) (D : List Nat) (k q : Nat) (A : List Nat) (N : Nat) : Prop where
  kp : Keep (blk a4) w8 wr
  own : OwnA wr B a4 c A
  len : A.length = N
  eq : R = scat A (L.drop k) (D.drop q)
  fl : fillF (L.drop k) ((D.drop q).length : Int) = true
  le : q ≤ D.length
theorem NI.seg {w8 wr : World} {B c : Nat} {a4 : Option Addr} {R : List Nat} {L : List Sg} {D : List Nat} {k q : Nat} {A : List Nat} {N : Nat} (h : NI w8 wr B a4 c R L D k q A N) (hlt : k < L.length) {P n : Nat} (hp : (gS L k).p = (P : Int)) (hn : (gS L k).n = (n : Int)) :
    q + n ≤ D.length ∧ fillF (L.drop (k + 1)) ((D.drop (q + n)).length : Int) = true ∧ R = scat (lay A P ((D.drop q).take n)) (L.drop (k + 1)) (D.drop (q + n)) := by
  have h1 := h.fl
  rw [fillF_drop hlt, hn, List.length_drop] at h1
  split at h1
  · cases h1
  · have := h.le
    have hle : q + n ≤ D.length := by omega
    refine ⟨hle, ?_, ?_⟩
    · rw [Int.max_eq_left (by omega)] at h1
      rw [List.length_drop, show ((D.length - (q + n) : Nat) : Int) = ((D.length - q : Nat) : Int) - (n : Int) by omega]
      exact h1
    · have := h.eq
      rw [scat_drop hlt, hp, hn, Int.toNat_natCast, Int.toNat_natCast, List.drop_drop] at this
      exact this
theorem take_more {D : List Nat} {q z : Nat} (h : q + z < D.length) : (D.drop q).take (z + 1) = (D.drop q).take z ++ [D[q + z]?.getD 0] := by
  rw [take_snocN _ _ (by rw [List.length_drop]; omega), List.getElem?_drop]
/-- .. while it lays one segment's. -/
structure NJ (w8 wr : World) (B : Nat) (a4 : Option Addr) (c : Nat) (A : List Nat) (P : Nat) (X : List Nat) : Prop where
  kp : Keep (blk a4) w8 wr
  own : OwnA wr B a4 c (lay A P X)
theorem NJ.step {w8 wr : World} {B c g : Nat} {A : List Nat} {P : Nat} {X : List Nat} (h : NJ w8 wr B (some ⟨g, 0, none⟩) c A P X) (hl : P + X.length < A.length) (v : Nat) :
    wr.frozen? ⟨g, P + X.length, none⟩ = false ∧ (∃ u, wr.cell? ⟨g, P + X.length, none⟩ = some u) ∧ NJ w8 (wr.setCell ⟨g, P + X.length, none⟩ (.int .u8 (v : Nat))) B (some ⟨g, 0, none⟩) c A P (X ++ [v]) := by
  obtain ⟨h1, h2, h3⟩ := h.own.set v (show P + X.length < (lay A P X).length by rw [lay_len (by omega)]; exact hl)
  rw [lay_set v hl] at h1
  exact ⟨h2, ⟨_, h3⟩, h.kp.set (p := ⟨g, P + X.length, none⟩) ⟨⟨g, 0, none⟩, rfl, rfl⟩ _, h1⟩
theorem NJ.below {w8 wr w' : World} {B c : Nat} {a4 : Option Addr} {A : List Nat} {P : Nat} {X : List Nat} (h : NJ w8 wr B a4 c A P X) (hb : Below wr.heap.size wr w') : NJ w8 w' B a4 c A P X := ⟨h.kp.trans (Keep.of_below hb), h.own.below hb⟩
theorem scat_two (mb hb : Nat) (l : List Nat) (a da : Option Addr) (cap dc : Nat) (L : List Sg) (D : List Nat) (w : World) (h : MW w mb hb l) (hL : SL w a L) (hgb : ∀ b, blk a b → 0 < L.length → b ≠ hb) (hok : OkS L) (hD : DIn w hb da dc D) (hl2 : L.length ≤ 9000000000000000000) (hd : D.length ≤ 140737488355328) :
    (fillF L (D.length : Int) = false → Calls Tryd.prog 13 #[.pointer (some ⟨mb, 0, none⟩), .slice a L.length cap, .slice da D.length dc] w fun e w' => e = .returned (.iface 31 (.int .i64 2)) ∧ Below w.heap.size w w') ∧
    (fillF L (D.length : Int) = true → allF l.length L = false → Calls Tryd.prog 13 #[.pointer (some ⟨mb, 0, none⟩), .slice a L.length cap, .slice da D.length dc] w fun e w' => e = .returned (.iface 31 (.int .i64 1)) ∧ Below w.heap.size w w') ∧
    (fillF L (D.length : Int) = true → allF l.length L = true → Calls Tryd.prog 13 #[.pointer (some ⟨mb, 0, none⟩), .slice a L.length cap, .slice da D.length dc] w fun e w' => e = .returned .nilIface ∧ MW w' mb hb (scat l L D) ∧ Keep (fun b => b = hb) w w') := by
  have H := scatter_any mb hb l a da cap dc L D w h hL hgb hok hD hl2 hd
  refine ⟨fun h1 => H.mono ?_, fun h1 h2 => H.mono ?_, fun h1 h2 => H.mono ?_⟩
  · rintro e w' (⟨_, q⟩ | ⟨q, _⟩ | ⟨q, _⟩)
    · exact q
    · rw [h1] at q; cases q
    · rw [h1] at q; cases q
  · rintro e w' (⟨q, _⟩ | ⟨_, _, q⟩ | ⟨_, q, _⟩)
    · rw [h1] at q; cases q
    · exact q
    · rw [h2] at q; cases q
  · rintro e w' (⟨q, _⟩ | ⟨_, q, _⟩ | ⟨_, _, q⟩)
    · rw [h1] at q; cases q
    · rw [h2] at q; cases q
    · exact q
set_option maxRecDepth 100000 in
set_option maxHeartbeats 16000000 in
theorem moves_yes (a la da : Option Addr) (b : List Nat) (L : List Sg) (D : List Nat) (cap lc dc : Nat) (w : World) (hE : EType w) (h : b.length ≤ 16384) (hI : BIn w a cap b) (hLs : SL w la L) (hok : OkS L) (hlow : ∀ k, k < L.length → -9223372036854775808 ≤ (gS L k).p) (hll : L.length ≤ 1048576) (hD : BIn w da dc D) (hdl : D.length ≤ 1048576) :
    Calls Tryd.prog 4 #[.slice a b.length cap, .slice la L.length lc, .slice da D.length dc] w fun e w' => e = .returned (.bool true) ∧ Below w.heap.size w w' := by
  have HN : Hid (Calls Tryd.prog 5 #[.slice a b.length cap] w fun e w' => FillPost w w' e b) := filled_yes a b cap w h hI
  have HE : Hid (∀ wz, Below w.heap.size w wz → EType wz) := fun wz hz => hE.below hz hE.pos
  have HI : Hid (∀ wz, Below w.heap.size w wz → BIn wz a cap b ∧ SL wz la L ∧ BIn wz da dc D) := fun wz hz => ⟨hI.below hz, hLs.below hz, hD.below hz⟩
  have HK : Hid (OkS L) := hok
  have HK0 : Hid (∀ k, k < L.length → -9223372036854775808 ≤ (gS L k).p) := hlow
  have HGl : Hid (L.length * b.length ≤ 140737488355328) := Nat.le_trans (Nat.mul_le_mul hll h) (by decide)
  have HLt : Hid ((∀ x, blk la x → 0 < L.length → x < w.heap.size) ∧ (∀ x off, D ≠ [] → da = some ⟨x, off, none⟩ → x < w.heap.size)) := by
    refine ⟨fun x hx hp => ?_, fun x off h1 h2 => hD.lies.lt' h1 h2⟩
    obtain ⟨g, off, e, hat⟩ := hLs.some_of hp
    subst e
    obtain ⟨y, e, rfl⟩ := hx
    cases e
    exact (hat 0 hp).lt
  have hcapb : b.length ≤ cap := hI.cap
  have hnilb : Hid (a = none → cap = 0) := hI.nil
  have HAb : Hid (AllB b ∧ AllB D) := ⟨hI.all, hD.all⟩
  have Hbig : Hid (b.length ≤ 140737488355328) := hI.big
  clear hI hD hLs hok hlow hE
  go_enter Tryd.func4, Tryd.ntmps4
  go_wp2_with fail
  refine HN.out.mono ?_
  rintro e w1 ⟨mb, hb, rfl, hm, hb1, hg1, hg2⟩
  have HM : Hid (MW w1 mb hb b ∧ Below w.heap.size w w1 ∧ w.heap.size ≤ mb ∧ w.heap.size ≤ hb) := ⟨hm, hb1, hg1, hg2⟩
  have H0 : Hid (MI w1 w1 b L D.length 0 none 0 [] 0 D.length false) := ⟨Below.refl _ _, own_nil _ _, fun _ => ⟨rfl, rfl⟩, fun e => absurd rfl e, fun _ => rfl, fun e => (by cases e)⟩
  clear HN hm hb1 hg1 hg2
  go_wp2
  go_loopw [9, 10, 11, 12, 13] (fun s ev v sv j wr => ∃ (k : Nat) (a1 : Option Addr) (c1 : Nat) (ys : List Nat) (en left : Nat) (sh : Bool), k ≤ L.length ∧ left ≤ 1048576 ∧ en ≤ 1 ∧ s = .slice a1 ys.length c1 ∧ ev = .int .i64 (en : Nat) ∧ v = .int .i64 (left : Nat) ∧ sv = .bool sh ∧ j = .int .i64 k ∧ Hid (MI w1 wr b L D.length k a1 c1 ys en left sh)) (fun _ _ _ _ j _ => L.length - (intOf j).toNat)
  case atStart => exact ⟨0, none, 0, [], 0, D.length, false, Nat.zero_le _, hdl, by omega, rfl, rfl, rfl, rfl, rfl, H0.out⟩
  case round =>
    obtain ⟨k, a1, c1, ys, en, left, sh, hk, hlf, hen, rfl, rfl, rfl, rfl, rfl, hR⟩ := hrel
    clear H0
    by_cases hlt : k < L.length
    · have hbw := HM.out.2.1.trans (hR.out.bel.mono HM.out.2.1.size)
      obtain ⟨g, off, hla, hat⟩ := (HI.out wr hbw).2.1.some_of hlt
      obtain ⟨c0, c1'⟩ := hat k hlt
      have hrf := rfits_any b.length (gS L k).p (gS L k).n wr h ⟨HK0.out k hlt, (HK.out k hlt).1⟩
      obtain ⟨fA, fB, fC⟩ := fil_step hlt hR.out.f0 hR.out.f1
      have k0 : (0 : Int) ≤ (k : Int) := by omega
      have k1 : (k : Int) < (L.length : Int) := by omega
      have hn0 := (HK.out k hlt).2
      have HglW : Hid (g < w1.heap.size) := Nat.lt_of_lt_of_le (HLt.out.1 g ⟨_, hla, rfl⟩ (by omega)) HM.out.2.1.size
      subst hla
      have HIb := (HI.out wr hbw).1
      clear hat hbw HI HE HAb HLt HM
      by_cases hf : fits b.length (gS L k).p (gS L k).n
      · rw [decide_eq_true hf] at hrf
        by_cases he0 : en = 0
        · subst he0
          obtain ⟨P, hpp⟩ := Int.eq_ofNat_of_zero_le hf.1
          obtain ⟨n, hnn⟩ := Int.eq_ofNat_of_zero_le hf.2.1
          have hPn : P + n ≤ b.length := by have := hf.2.2; omega
          have HY : Hid (0 = 0 → allF b.length (L.take (k + 1)) = true ∧ ys ++ cut b P n = gath b (L.take (k + 1))) := fun _ => by
            refine ⟨by rw [allF_take hlt, (hR.out.ok rfl).1, decide_eq_true hf]; rfl, ?_⟩
            rw [take_snocS hlt, gath_app, ← (hR.out.ok rfl).2]
            show _ = ys ++ (cut b (gS L k).p.toNat (gS L k).n.toNat ++ [])
            rw [hpp, hnn, List.append_nil, Int.toNat_natCast, Int.toNat_natCast]
          have HSm : Hid ((ys ++ cut b P n).length ≤ 140737488355328) := by
            show _ ≤ _
            rw [(HY.out rfl).2]
            have h1 := gath_len b (L.take (k + 1))
            rw [List.length_take, Nat.min_eq_left (by omega)] at h1
            exact Nat.le_trans h1 (Nat.le_trans (Nat.mul_le_mul_right _ (by omega)) HGl.out)
          have HO : Hid ((∀ x, OwnA (wr.drewN x) w1.heap.size a1 c1 ys) ∧ (∀ x, Lies (wr.drewN x) (dropA a cap P) (cut b P n)) ∧ w1.heap.size ≤ wr.heap.size) := ⟨fun x => hR.out.own.below (below_drewN (Below.refl _ _) x), fun x => (HIb.below (below_drewN (Below.refl _ _) x)).lies.mid P n hcapb, hR.out.bel.size⟩
          have HCl : Hid ((cut b P n).length = n) := cut_len hPn
          have HDn : Hid (dropA a cap P = none → cap - P = 0) := fun e => by
            unfold dropA at e
            split at e
            · omega
            · cases ha : a with
              | none => have := hnilb.out ha; omega
              | some x => rw [ha] at e; cases e
          have HT : Hid (∀ (wx w3 : World), Keep (blk a1) wx w3 → (∃ x, wx = wr.drewN x) → Below w1.heap.size w1 w3 ∧ w3.cell? ⟨g, off + k * 2, none⟩ = some (.int .i64 (P : Nat))) := fun wx w3 hK ⟨x, hx⟩ => by
            subst hx
            have hbz : Below w1.heap.size w1 w3 := (below_drewN hR.out.bel x).trans (hK.below (below_drewN hR.out.bel x).size (fun q hq => (hR.out.own.ge hq).1))
            exact ⟨hbz, by rw [hbz.cell (p := ⟨g, off + k * 2, none⟩) HglW.out]; rw [← hR.out.bel.cell (p := ⟨g, off + k * 2, none⟩) HglW.out, ← hpp]; exact c0⟩
          obtain ⟨X, hX⟩ : ∃ X : Nat, (P : Int) + (n : Int) = (X : Int) := ⟨P + n, by omega⟩
          have hslb : ∀ wz, (Instr.slice 22 (.slice a b.length cap) (some (.int .i64 (P : Nat))) (some (.int .i64 (X : Nat))) none).run Tryd.prog wz = .ok (.slice (dropA a cap P) n (cap - P)) wz := fun wz => by
            have := slice_ln a b.length cap P n (by omega) wz
            rw [hX] at this
            exact this
          have hwX : IntKind.i64.wrap (X : Int) = (X : Int) := by rw [IntKind.wrap_i64]; omega
          rw [hpp] at c0
          rw [hnn] at c1'
          have hPb : (P : Int) ≤ 16384 := by omega
          have hnb : (n : Int) ≤ 16384 := by omega
          clear HIb
          by_cases h1 : (left : Int) < (gS L k).n
          · have HF : Hid (∀ wx a2 c2, Below w1.heap.size w1 wx → OwnA wx w1.heap.size a2 c2 (ys ++ cut b P n) → MI w1 wx b L D.length (k + 1) a2 c2 (ys ++ cut b P n) 0 (left) true) := fun wx a2 c2 q1 q2 => ⟨q1, q2, HY.out, fun e => absurd rfl e, (fA h1).1, (fA h1).2⟩
            clear fA fB fC hR HY
            rw [hnn] at h1 hrf
            rw [hpp] at hrf
            clear hnn hpp
            go_wp2_with fail
            refine hrf.mono ?_
            rintro e w' ⟨rfl, rfl⟩
            clear hrf
            go_wp2
            go_region_held3 (fun w' => w'.cell? ⟨g, off + k * 2, none⟩ = some (.int .i64 (P : Nat))) (first | exact c0 | assumption | exact e0 | go_keep) ((refine step_app rfl (.tmp 70) (.tmp 84) (by rfl) w1.heap.size a1 c1 ys (by rfl) (by first | exact HO.out.1 _ | exact HO.out.1 1 | exact HO.out.1 0) (dropA a cap P) n (cap - P) (cut b P n) HCl.out (by rfl) HDn.out (by first | exact HO.out.2.1 _ | exact HO.out.2.1 1 | exact HO.out.2.1 0) (ys ++ cut b P n) rfl HSm.out HO.out.2.2 ?_; intro a2 c2 w3 hO hK; obtain ⟨hb3, e0⟩ := HT.out _ _ hK (by first | exact ⟨_, rfl⟩ | exact ⟨1, rfl⟩ | exact ⟨0, rfl⟩)))
            have HG : Hid (MI w1 w3 b L D.length (k + 1) a2 c2 (ys ++ cut b P n) 0 (left) true) := HF.out w3 a2 c2 hb3 hO
            clear HF HO HT hO hK hb3 HSm HCl HDn
            go_wp2
            exact ⟨⟨k + 1, a2, c2, ys ++ cut b P n, 0, left, true, by omega, by omega, by omega, by rw [List.length_append], rfl, by go_num, rfl, by go_num, HG.out⟩, by simp [intOf]; omega⟩
          · by_cases h2 : 0 < (gS L k).n
            · obtain ⟨N, hN⟩ := Int.eq_ofNat_of_zero_le (show 0 ≤ (gS L k).n by omega)
              have HQ : Hid ((sh = false → fillF L (D.length : Int) = fillF (L.drop (k + 1)) ((left - N : Nat) : Int)) ∧ (sh = true → fillF L (D.length : Int) = false)) := fC h1 N hN
              have hNl : N ≤ left := by omega
              have hN0 : 0 < N := by omega
              have HF : Hid (∀ wx a2 c2, Below w1.heap.size w1 wx → OwnA wx w1.heap.size a2 c2 (ys ++ cut b P n) → MI w1 wx b L D.length (k + 1) a2 c2 (ys ++ cut b P n) 0 (left - N) sh) := fun wx a2 c2 q1 q2 => ⟨q1, q2, HY.out, fun e => absurd rfl e, HQ.out.1, HQ.out.2⟩
              clear fA fB fC HQ hR HY
              obtain rfl : n = N := by omega
              rw [hnn] at h1 h2 hrf
              rw [hpp] at hrf
              clear hnn hpp hN
              go_wp2_with fail
              refine hrf.mono ?_
              rintro e w' ⟨rfl, rfl⟩
              clear hrf
              go_wp2
              go_region_held3 (fun w' => w'.cell? ⟨g, off + k * 2, none⟩ = some (.int .i64 (P : Nat))) (first | exact c0 | assumption | exact e0 | go_keep) ((refine step_app rfl (.tmp 70) (.tmp 84) (by rfl) w1.heap.size a1 c1 ys (by rfl) (by first | exact HO.out.1 _ | exact HO.out.1 1 | exact HO.out.1 0) (dropA a cap P) n (cap - P) (cut b P n) HCl.out (by rfl) HDn.out (by first | exact HO.out.2.1 _ | exact HO.out.2.1 1 | exact HO.out.2.1 0) (ys ++ cut b P n) rfl HSm.out HO.out.2.2 ?_; intro a2 c2 w3 hO hK; obtain ⟨hb3, e0⟩ := HT.out _ _ hK (by first | exact ⟨_, rfl⟩ | exact ⟨1, rfl⟩ | exact ⟨0, rfl⟩)))
              have HG : Hid (MI w1 w3 b L D.length (k + 1) a2 c2 (ys ++ cut b P n) 0 (left - n) sh) := HF.out w3 a2 c2 hb3 hO
              clear HF HO HT hO hK hb3 HSm HCl HDn
              go_wp2
              exact ⟨⟨k + 1, a2, c2, ys ++ cut b P n, 0, left - n, sh, by omega, by omega, by omega, by rw [List.length_append], rfl, by go_num, rfl, by go_num, HG.out⟩, by simp [intOf]; omega⟩
            · have HF : Hid (∀ wx a2 c2, Below w1.heap.size w1 wx → OwnA wx w1.heap.size a2 c2 (ys ++ cut b P n) → MI w1 wx b L D.length (k + 1) a2 c2 (ys ++ cut b P n) 0 (left) sh) := fun wx a2 c2 q1 q2 => ⟨q1, q2, HY.out, fun e => absurd rfl e, (fB h1 h2).1, (fB h1 h2).2⟩
              clear fA fB fC hR HY
              rw [hnn] at h1 h2 hrf
              rw [hpp] at hrf
              clear hnn hpp
              go_wp2_with fail
              refine hrf.mono ?_
              rintro e w' ⟨rfl, rfl⟩
              clear hrf
              go_wp2
              go_region_held3 (fun w' => w'.cell? ⟨g, off + k * 2, none⟩ = some (.int .i64 (P : Nat))) (first | exact c0 | assumption | exact e0 | go_keep) ((refine step_app rfl (.tmp 70) (.tmp 84) (by rfl) w1.heap.size a1 c1 ys (by rfl) (by first | exact HO.out.1 _ | exact HO.out.1 1 | exact HO.out.1 0) (dropA a cap P) n (cap - P) (cut b P n) HCl.out (by rfl) HDn.out (by first | exact HO.out.2.1 _ | exact HO.out.2.1 1 | exact HO.out.2.1 0) (ys ++ cut b P n) rfl HSm.out HO.out.2.2 ?_; intro a2 c2 w3 hO hK; obtain ⟨hb3, e0⟩ := HT.out _ _ hK (by first | exact ⟨_, rfl⟩ | exact ⟨1, rfl⟩ | exact ⟨0, rfl⟩)))
              have HG : Hid (MI w1 w3 b L D.length (k + 1) a2 c2 (ys ++ cut b P n) 0 (left) sh) := HF.out w3 a2 c2 hb3 hO
              clear HF HO HT hO hK hb3 HSm HCl HDn
              go_wp2
              exact ⟨⟨k + 1, a2, c2, ys ++ cut b P n, 0, left, sh, by omega, by omega, by omega, by rw [List.length_append], rfl, by go_num, rfl, by go_num, HG.out⟩, by simp [intOf]; omega⟩
        · obtain rfl : en = 1 := by omega
          have HY : Hid (allF b.length L = false) := hR.out.bad he0
          clear HIb hf he0
          by_cases h1 : (left : Int) < (gS L k).n
          · have HF : Hid (∀ wx, Below wr.heap.size wr wx → MI w1 wx b L D.length (k + 1) a1 c1 ys 1 (left) true) := fun wx q1 => ⟨hR.out.bel.trans (q1.mono hR.out.bel.size), hR.out.own.below q1, fun e => (by cases e), fun _ => HY.out, (fA h1).1, (fA h1).2⟩
            clear fA fB fC hR HY
            generalize (gS L k).p = P at *
            generalize (gS L k).n = Q at *
            go_wp2_with fail
            refine hrf.mono ?_
            rintro e w' ⟨rfl, rfl⟩
            clear hrf
            have HG : Hid (MI w1 wr b L D.length (k + 1) a1 c1 ys 1 (left) true) := HF.out wr (Below.refl _ _)
            clear HF
            go_wp2
            go_roundw
            case rel => exact ⟨k + 1, a1, c1, ys, 1, left, true, by omega, by omega, by omega, rfl, rfl, by go_num, rfl, by go_num, HG.out⟩
            case measure => simp [intOf]; omega
          · by_cases h2 : 0 < (gS L k).n
            · obtain ⟨N, hN⟩ := Int.eq_ofNat_of_zero_le (show 0 ≤ (gS L k).n by omega)
              have HQ : Hid ((sh = false → fillF L (D.length : Int) = fillF (L.drop (k + 1)) ((left - N : Nat) : Int)) ∧ (sh = true → fillF L (D.length : Int) = false)) := fC h1 N hN
              have hNl : N ≤ left := by omega
              have hN0 : 0 < N := by omega
              have HF : Hid (∀ wx, Below wr.heap.size wr wx → MI w1 wx b L D.length (k + 1) a1 c1 ys 1 (left - N) sh) := fun wx q1 => ⟨hR.out.bel.trans (q1.mono hR.out.bel.size), hR.out.own.below q1, fun e => (by cases e), fun _ => HY.out, HQ.out.1, HQ.out.2⟩
              clear fA fB fC HQ hR HY
              rw [hN] at c1' h1 h2 hrf hn0
              clear hN
              generalize (gS L k).p = P at *
              go_wp2_with fail
              refine hrf.mono ?_
              rintro e w' ⟨rfl, rfl⟩
              clear hrf
              have HG : Hid (MI w1 wr b L D.length (k + 1) a1 c1 ys 1 (left - N) sh) := HF.out wr (Below.refl _ _)
              clear HF
              go_wp2
              go_roundw
              case rel => exact ⟨k + 1, a1, c1, ys, 1, left - N, sh, by omega, by omega, by omega, rfl, rfl, by go_num, rfl, by go_num, HG.out⟩
              case measure => simp [intOf]; omega
            · have HF : Hid (∀ wx, Below wr.heap.size wr wx → MI w1 wx b L D.length (k + 1) a1 c1 ys 1 (left) sh) := fun wx q1 => ⟨hR.out.bel.trans (q1.mono hR.out.bel.size), hR.out.own.below q1, fun e => (by cases e), fun _ => HY.out, (fB h1 h2).1, (fB h1 h2).2⟩
              clear fA fB fC hR HY
              generalize (gS L k).p = P at *
              generalize (gS L k).n = Q at *
              go_wp2_with fail
              refine hrf.mono ?_
              rintro e w' ⟨rfl, rfl⟩
              clear hrf
              have HG : Hid (MI w1 wr b L D.length (k + 1) a1 c1 ys 1 (left) sh) := HF.out wr (Below.refl _ _)
              clear HF
              go_wp2
              go_roundw
              case rel => exact ⟨k + 1, a1, c1, ys, 1, left, sh, by omega, by omega, by omega, rfl, rfl, by go_num, rfl, by go_num, HG.out⟩
              case measure => simp [intOf]; omega
      · rw [decide_eq_false hf] at hrf
        have HY : Hid (allF b.length L = false) := allF_no k hlt hf
        clear HIb hf
        by_cases he0 : en = 0
        · subst he0
          by_cases h1 : (left : Int) < (gS L k).n
          · have HF : Hid (∀ wx, Below wr.heap.size wr wx → MI w1 wx b L D.length (k + 1) a1 c1 ys 1 (left) true) := fun wx q1 => ⟨hR.out.bel.trans (q1.mono hR.out.bel.size), hR.out.own.below q1, fun e => (by cases e), fun _ => HY.out, (fA h1).1, (fA h1).2⟩
            clear fA fB fC hR HY
            generalize (gS L k).p = P at *
            generalize (gS L k).n = Q at *
            go_wp2_with fail
            refine hrf.mono ?_
            rintro e w' ⟨rfl, rfl⟩
            clear hrf
            have HG : Hid (MI w1 wr b L D.length (k + 1) a1 c1 ys 1 (left) true) := HF.out wr (Below.refl _ _)
            clear HF
            go_wp2
            go_roundw
            case rel => exact ⟨k + 1, a1, c1, ys, 1, left, true, by omega, by omega, by omega, rfl, rfl, by go_num, rfl, by go_num, HG.out⟩
            case measure => simp [intOf]; omega
          · by_cases h2 : 0 < (gS L k).n
            · obtain ⟨N, hN⟩ := Int.eq_ofNat_of_zero_le (show 0 ≤ (gS L k).n by omega)
              have HQ : Hid ((sh = false → fillF L (D.length : Int) = fillF (L.drop (k + 1)) ((left - N : Nat) : Int)) ∧ (sh = true → fillF L (D.length : Int) = false)) := fC h1 N hN
              have hNl : N ≤ left := by omega
              have hN0 : 0 < N := by omega
              have HF : Hid (∀ wx, Below wr.heap.size wr wx → MI w1 wx b L D.length (k + 1) a1 c1 ys 1 (left - N) sh) := fun wx q1 => ⟨hR.out.bel.trans (q1.mono hR.out.bel.size), hR.out.own.below q1, fun e => (by cases e), fun _ => HY.out, HQ.out.1, HQ.out.2⟩
              clear fA fB fC HQ hR HY
              rw [hN] at c1' h1 h2 hrf hn0
              clear hN
              generalize (gS L k).p = P at *
              go_wp2_with fail
              refine hrf.mono ?_
              rintro e w' ⟨rfl, rfl⟩
              clear hrf
              have HG : Hid (MI w1 wr b L D.length (k + 1) a1 c1 ys 1 (left - N) sh) := HF.out wr (Below.refl _ _)
              clear HF
              go_wp2
              go_roundw
              case rel => exact ⟨k + 1, a1, c1, ys, 1, left - N, sh, by omega, by omega, by omega, rfl, rfl, by go_num, rfl, by go_num, HG.out⟩
              case measure => simp [intOf]; omega
            · have HF : Hid (∀ wx, Below wr.heap.size wr wx → MI w1 wx b L D.length (k + 1) a1 c1 ys 1 (left) sh) := fun wx q1 => ⟨hR.out.bel.trans (q1.mono hR.out.bel.size), hR.out.own.below q1, fun e => (by cases e), fun _ => HY.out, (fB h1 h2).1, (fB h1 h2).2⟩
              clear fA fB fC hR HY
              generalize (gS L k).p = P at *
              generalize (gS L k).n = Q at *
              go_wp2_with fail
              refine hrf.mono ?_
              rintro e w' ⟨rfl, rfl⟩
              clear hrf
              have HG : Hid (MI w1 wr b L D.length (k + 1) a1 c1 ys 1 (left) sh) := HF.out wr (Below.refl _ _)
              clear HF
              go_wp2
              go_roundw
              case rel => exact ⟨k + 1, a1, c1, ys, 1, left, sh, by omega, by omega, by omega, rfl, rfl, by go_num, rfl, by go_num, HG.out⟩
              case measure => simp [intOf]; omega
        · obtain rfl : en = 1 := by omega
          clear he0
          by_cases h1 : (left : Int) < (gS L k).n
          · have HF : Hid (∀ wx, Below wr.heap.size wr wx → MI w1 wx b L D.length (k + 1) a1 c1 ys 1 (left) true) := fun wx q1 => ⟨hR.out.bel.trans (q1.mono hR.out.bel.size), hR.out.own.below q1, fun e => (by cases e), fun _ => HY.out, (fA h1).1, (fA h1).2⟩
            clear fA fB fC hR HY
            generalize (gS L k).p = P at *
            generalize (gS L k).n = Q at *
            go_wp2_with fail
            refine hrf.mono ?_
            rintro e w' ⟨rfl, rfl⟩
            clear hrf
            have HG : Hid (MI w1 wr b L D.length (k + 1) a1 c1 ys 1 (left) true) := HF.out wr (Below.refl _ _)
            clear HF
            go_wp2
            go_roundw
            case rel => exact ⟨k + 1, a1, c1, ys, 1, left, true, by omega, by omega, by omega, rfl, rfl, by go_num, rfl, by go_num, HG.out⟩
            case measure => simp [intOf]; omega
          · by_cases h2 : 0 < (gS L k).n
            · obtain ⟨N, hN⟩ := Int.eq_ofNat_of_zero_le (show 0 ≤ (gS L k).n by omega)
              have HQ : Hid ((sh = false → fillF L (D.length : Int) = fillF (L.drop (k + 1)) ((left - N : Nat) : Int)) ∧ (sh = true → fillF L (D.length : Int) = false)) := fC h1 N hN
              have hNl : N ≤ left := by omega
              have hN0 : 0 < N := by omega
              have HF : Hid (∀ wx, Below wr.heap.size wr wx → MI w1 wx b L D.length (k + 1) a1 c1 ys 1 (left - N) sh) := fun wx q1 => ⟨hR.out.bel.trans (q1.mono hR.out.bel.size), hR.out.own.below q1, fun e => (by cases e), fun _ => HY.out, HQ.out.1, HQ.out.2⟩
              clear fA fB fC HQ hR HY
              rw [hN] at c1' h1 h2 hrf hn0
              clear hN
              generalize (gS L k).p = P at *
              go_wp2_with fail
              refine hrf.mono ?_
              rintro e w' ⟨rfl, rfl⟩
              clear hrf
              have HG : Hid (MI w1 wr b L D.length (k + 1) a1 c1 ys 1 (left - N) sh) := HF.out wr (Below.refl _ _)
              clear HF
              go_wp2
              go_roundw
              case rel => exact ⟨k + 1, a1, c1, ys, 1, left - N, sh, by omega, by omega, by omega, rfl, rfl, by go_num, rfl, by go_num, HG.out⟩
              case measure => simp [intOf]; omega
            · have HF : Hid (∀ wx, Below wr.heap.size wr wx → MI w1 wx b L D.length (k + 1) a1 c1 ys 1 (left) sh) := fun wx q1 => ⟨hR.out.bel.trans (q1.mono hR.out.bel.size), hR.out.own.below q1, fun e => (by cases e), fun _ => HY.out, (fB h1 h2).1, (fB h1 h2).2⟩
              clear fA fB fC hR HY
              generalize (gS L k).p = P at *
              generalize (gS L k).n = Q at *
              go_wp2_with fail
              refine hrf.mono ?_
              rintro e w' ⟨rfl, rfl⟩
              clear hrf
              have HG : Hid (MI w1 wr b L D.length (k + 1) a1 c1 ys 1 (left) sh) := HF.out wr (Below.refl _ _)
              clear HF
              go_wp2
              go_roundw
              case rel => exact ⟨k + 1, a1, c1, ys, 1, left, sh, by omega, by omega, by omega, rfl, rfl, by go_num, rfl, by go_num, HG.out⟩
              case measure => simp [intOf]; omega
    · obtain rfl : k = L.length := by omega
      have F0 : Hid (sh = false → fillF L (D.length : Int) = fillF [] (left : Int)) := fun e => by have := hR.out.f0 e; rw [List.drop_length] at this; exact this
      have F1 : Hid (sh = true → fillF L (D.length : Int) = false) := hR.out.f1
      have HBr : Hid (Below w.heap.size w wr ∧ Below w1.heap.size w1 wr) := ⟨HM.out.2.1.trans (hR.out.bel.mono HM.out.2.1.size), hR.out.bel⟩
      have HGa := gather_any mb hb b la lc L wr (HM.out.1.below hR.out.bel) (HI.out wr HBr.out.1).2.1 HK.out HGl.out (by omega)
      by_cases he0 : en = 0
      · subst he0
        obtain ⟨hall, hys⟩ := hR.out.ok rfl
        rw [List.take_length] at hall hys
        have HAll : Hid (allF b.length L = true) := hall
        have HGb : Hid (Calls Tryd.prog 11 #[.pointer (some ⟨mb, 0, none⟩), .slice la L.length lc] wr fun e w' => ∃ a2 c2, e = .returned (.tuple #[.slice a2 ys.length c2, .nilIface]) ∧ Lies w' a2 ys ∧ Below wr.heap.size wr w') := by
          refine HGa.mono ?_
          rintro e w' ⟨q1, ⟨q2, _⟩ | ⟨_, a2, c2, q3, q4⟩⟩
          · rw [hall] at q2; cases q2
          · rw [← hys] at q3 q4
            exact ⟨a2, c2, q3, q4.lies, q1⟩
        have HOw : Hid (OwnA wr w1.heap.size a1 c1 ys ∧ ys.length ≤ 140737488355328) := ⟨hR.out.own, by rw [hys]; exact Nat.le_trans (gath_len b L) HGl.out⟩
        clear HGa hall hys hR hlt
        go_wp2_with fail
        refine HGb.out.mono ?_
        rintro e w5 ⟨a2, c2, rfl, hL5, hb5⟩
        have HEr := error_nil 0 w5
        have HBy := bytes_same a2 a1 ys c2 c1 w5 HOw.out.2 hL5 (HOw.out.1.lies.below hb5)
        have HB5 : Hid (Below w.heap.size w w5 ∧ Below w1.heap.size w1 w5) := ⟨HBr.out.1.trans (hb5.mono HBr.out.1.size), HBr.out.2.trans (hb5.mono HBr.out.2.size)⟩
        clear HGb HOw hL5 hb5 HBr
        go_wp2_with fail
        refine HEr.mono ?_
        rintro e w' ⟨rfl, rfl⟩
        clear HEr
        go_wp2_with fail
        refine HBy.mono ?_
        rintro e w6 ⟨rfl, hb6⟩
        have HB6 : Hid (Below w.heap.size w w6 ∧ Below w1.heap.size w1 w6) := ⟨HB5.out.1.trans (hb6.mono HB5.out.1.size), HB5.out.2.trans (hb6.mono HB5.out.2.size)⟩
        clear HBy hb6 HB5
        have HMw6 : MW w6 mb hb b := HM.out.1.below HB6.out.2
        obtain ⟨sA, sB, sC⟩ := scat_two mb hb b la da lc dc L D w6 HMw6 (HI.out w6 HB6.out.1).2.1 (fun x hx hp => by have := HLt.out.1 x hx hp; have := HM.out.2.2.2; omega) HK.out ⟨(HI.out w6 HB6.out.1).2.2.lies, HAb.out.2, (HI.out w6 HB6.out.1).2.2.cap, fun x off q1 q2 => by have := HLt.out.2 x off q1 q2; have := HM.out.2.2.2; omega⟩ (by omega) (by omega)
        cases sh with
        | true =>
          have HSc : Hid (Calls Tryd.prog 13 #[.pointer (some ⟨mb, 0, none⟩), .slice la L.length lc, .slice da D.length dc] w6 fun e w' => e = .returned (.iface 31 (.int .i64 2)) ∧ Below w6.heap.size w6 w') := sA (F1.out rfl)
          clear sA sB sC F0 F1
          go_wp2_with fail
          refine HSc.out.mono ?_
          rintro e w7 ⟨rfl, hb7⟩
          have HB7 : Hid (Below w.heap.size w w7) := HB6.out.1.trans (hb7.mono HB6.out.1.size)
          have HM7 : Hid (MW w7 mb hb b) := HMw6.below hb7
          clear HSc hb7 HMw6 HB6
          have HA0 : Hid (Below w7.heap.size w7 (w7.alloc (.cells #[] 5)) ∧ Lies (w7.alloc (.cells #[] 5)) a b) := ⟨alloc_below' w7 _, ((HI.out w7 HB7.out).1.below (alloc_below' w7 _)).lies⟩
          go_wp2_with (at_builtin; refine app_step rfl (.tmp 110) (.tmp 111) rfl w7.heap.size (some ⟨w7.heap.size, 0, none⟩) 0 [] (by rfl) (own_new w7 w7.heap.size [] (Nat.le_refl _) (by simp) _ rfl) a cap b (by rfl) hnilb.out HA0.out.2 b rfl Hbig.out HA0.out.1.size ?_)
          intro a4 c4 w8 hO4 hK4
          have H8 : Hid (OwnA w8 w7.heap.size a4 c4 b ∧ Below w7.heap.size w7 w8) := ⟨hO4, HA0.out.1.trans (hK4.below HA0.out.1.size (fun x hx => by obtain ⟨y, e, rfl⟩ := hx; cases e; exact Nat.le_refl _))⟩
          clear hO4 hK4 HA0
          have HB8 : Hid (Below w.heap.size w w8) := HB7.out.trans (H8.out.2.mono HB7.out.size)
          have HMw : Hid (MW w8 mb hb b) := HM7.out.below H8.out.2
          have HLi : Hid (Lies w8 a4 b) := H8.out.1.lies
          clear HB7 HM7 H8 HI HM HLt HAb HK HGl
          have HEr := error_same 2 w8 (HE.out w8 HB8.out)
          go_wp2_with fail
          refine HEr.mono ?_
          rintro e w9 ⟨rfl, hb9⟩
          have H9 : Hid (Below w.heap.size w w9 ∧ MW w9 mb hb b ∧ Lies w9 a4 b) := ⟨HB8.out.trans (hb9.mono HB8.out.size), HMw.out.below hb9, HLi.out.below hb9⟩
          clear HEr hb9
          have HRd : Hid (Calls Tryd.prog 14 #[.pointer (some ⟨mb, 0, none⟩), .int .i64 0, .int .i64 (b.length : Nat)] w9 fun e w' => ∃ a9 c9, e = .returned (.tuple #[.slice a9 (b).length c9, .nilIface]) ∧ Lies w' a9 (b) ∧ Below w9.heap.size w9 w') := by
            refine (read_yes mb hb (b) 0 b.length w9 H9.out.2.1 (by omega)).mono ?_
            rintro e w' ⟨a9, c9, q1, q2, q3⟩
            have hc : cut (b) 0 b.length = b := by exact cut_all_of
            rw [hc] at q1 q2
            exact ⟨a9, c9, q1, q2.lies, q3⟩
          go_wp2_with fail
          refine HRd.out.mono ?_
          rintro e w10 ⟨a9, c9, rfl, hL10, hb10⟩
          have HBy := bytes_same a9 a4 b c9 c4 w10 Hbig.out hL10 (H9.out.2.2.below hb10)
          have HB10 : Hid (Below w.heap.size w w10) := H9.out.1.trans (hb10.mono H9.out.1.size)
          clear HRd H9 hL10 hb10 HB8 HMw HLi HE
          go_wp2_with fail
          refine HBy.mono ?_
          rintro e w11 ⟨rfl, hb11⟩
          have HB11 : Hid (Below w.heap.size w w11) := HB10.out.trans (hb11.mono HB10.out.size)
          clear HBy hb11 HB10
          go_wp2
          go_ret
          exact ⟨rfl, HB11.out⟩
        | false =>
          by_cases hl0 : left = 0
          · subst hl0
            have hfl : fillF L (D.length : Int) = true := by rw [F0.out rfl]; rfl
            have HSc : Hid (Calls Tryd.prog 13 #[.pointer (some ⟨mb, 0, none⟩), .slice la L.length lc, .slice da D.length dc] w6 fun e w' => e = .returned .nilIface ∧ MW w' mb hb (scat b L D) ∧ Keep (fun x => x = hb) w6 w') := sC hfl HAll.out
            have HFl : Hid (fillF L (D.length : Int) = true) := hfl
            clear sA sB sC F0 F1 hfl
            go_wp2_with fail
            refine HSc.out.mono ?_
            rintro e w7 ⟨rfl, hm7, hk7⟩
            have HB7 : Hid (Below w.heap.size w w7) := HB6.out.1.trans (hk7.below HB6.out.1.size (fun x e => by have e' : x = hb := e; have := HM.out.2.2.2; omega))
            have HM7 : Hid (MW w7 mb hb (scat b L D)) := hm7
            clear HSc hk7 HMw6 HB6 hm7
            have HA0 : Hid (Below w7.heap.size w7 (w7.alloc (.cells #[] 5)) ∧ Lies (w7.alloc (.cells #[] 5)) a b) := ⟨alloc_below' w7 _, ((HI.out w7 HB7.out).1.below (alloc_below' w7 _)).lies⟩
            go_wp2_with (at_builtin; refine app_step rfl (.tmp 110) (.tmp 111) rfl w7.heap.size (some ⟨w7.heap.size, 0, none⟩) 0 [] (by rfl) (own_new w7 w7.heap.size [] (Nat.le_refl _) (by simp) _ rfl) a cap b (by rfl) hnilb.out HA0.out.2 b rfl Hbig.out HA0.out.1.size ?_)
            intro a4 c4 w8 hO4 hK4
            have H8 : Hid (OwnA w8 w7.heap.size a4 c4 b ∧ Below w7.heap.size w7 w8) := ⟨hO4, HA0.out.1.trans (hK4.below HA0.out.1.size (fun x hx => by obtain ⟨y, e, rfl⟩ := hx; cases e; exact Nat.le_refl _))⟩
            clear hO4 hK4 HA0
            have HB8 : Hid (Below w.heap.size w w8) := HB7.out.trans (H8.out.2.mono HB7.out.size)
            have HM8 : Hid (MW w8 mb hb (scat b L D) ∧ (∀ x, blk a4 x → w7.heap.size ≤ x) ∧ mb < w7.heap.size ∧ hb < w7.heap.size) := ⟨HM7.out.below H8.out.2, fun x hx => (H8.out.1.ge hx).1, HM7.out.lt.1, HM7.out.lt.2⟩
            have HF : Hid (∀ k, k < L.length → fits b.length (gS L k).p (gS L k).n) := allF_at HAll.out
            have HX : Hid (∀ wx, Keep (blk a4) w8 wx → Below w.heap.size w wx) := fun wx hk => HB8.out.trans (hk.below HB8.out.size (fun x hx => Nat.le_trans HB7.out.size (HM8.out.2.1 x hx)))
            have HLen0 : Hid (∀ wx, MW wx mb hb (scat b L D) → True) := fun _ _ => trivial
            have H20 : Hid (NI w8 w8 w7.heap.size a4 c4 (scat b L D) L D 0 0 b b.length) := ⟨Keep.refl _ _, H8.out.1, rfl, rfl, HFl.out, Nat.zero_le _⟩
            clear HB7 HM7 H8 HFl HLen0
            generalize scat b L D = R at *
            go_wp2
            go_loopw [21, 22] (fun v j wr2 => ∃ (k q : Nat) (A : List Nat), k ≤ L.length ∧ q ≤ 1048576 ∧ v = .int .i64 (q : Nat) ∧ j = .int .i64 k ∧ Hid (NI w8 wr2 w7.heap.size a4 c4 R L D k q A b.length)) (fun _ j _ => L.length - (intOf j).toNat)
            case atStart => exact ⟨0, 0, b, Nat.zero_le _, Nat.zero_le _, rfl, rfl, H20.out⟩
            case round =>
              obtain ⟨wo, rfl⟩ : ∃ wo, wo = wr := ⟨_, rfl⟩
              obtain ⟨k, q, A, hk, hq, rfl, rfl, hR⟩ := hrel
              clear H20
              by_cases hlt : k < L.length
              · obtain ⟨g, off, hla, hat⟩ := (HI.out wo (HX.out wo hR.out.kp)).2.1.some_of hlt
                obtain ⟨f1, f2, f3⟩ := HF.out k hlt
                obtain ⟨P, hP⟩ := Int.eq_ofNat_of_zero_le f1
                obtain ⟨n, hn⟩ := Int.eq_ofNat_of_zero_le f2
                obtain ⟨sg1, sg2, sg3⟩ := hR.out.seg hlt hP hn
                have HS1 : Hid (∀ wx, Keep (blk a4) w8 wx → wx.cell? ⟨g, off + k * 2, none⟩ = some (.int .i64 (P : Nat)) ∧ wx.cell? ⟨g, off + k * 2 + 1, none⟩ = some (.int .i64 (n : Nat))) := fun wx hkx => by
                  obtain ⟨g', off', e', hat'⟩ := (HI.out wx (HX.out wx hkx)).2.1.some_of hlt
                  rw [hla] at e'
                  cases e'
                  obtain ⟨p0, p1⟩ := hat' k hlt
                  rw [hP] at p0
                  rw [hn] at p1
                  exact ⟨p0, p1⟩
                have HDt : Hid (∀ wx, Keep (blk a4) w8 wx → Lies wx da D) := fun wx hkx => (HI.out wx (HX.out wx hkx)).2.2.lies
                have HN1 : Hid (∀ wx, NJ w8 wx w7.heap.size a4 c4 A P ((D.drop q).take n) → NI w8 wx w7.heap.size a4 c4 R L D (k + 1) (q + n) (lay A P ((D.drop q).take n)) b.length) := fun wx hj => ⟨hj.kp, hj.own, by rw [lay_len (by rw [List.length_take, List.length_drop, hR.out.len]; omega)]; exact hR.out.len, sg3, sg2, sg1⟩
                have HJ0 : Hid (NJ w8 wo w7.heap.size a4 c4 A P ((D.drop q).take 0)) := ⟨hR.out.kp, by rw [List.take_zero, lay_nil]; exact hR.out.own⟩
                have hPn : P + n ≤ A.length := by rw [hR.out.len]; omega
                have hAb : A.length = b.length := hR.out.len
                have k0 : (0 : Int) ≤ (k : Int) := by omega
                have k1 : (k : Int) < (L.length : Int) := by omega
                subst hla
                clear hat f1 f2 f3 hP hn sg2 sg3 hR HF HM8 HB8
                go_wp2
                go_loopw [21, 23] (fun v j wr2 => ∃ z Y : Nat, z ≤ n ∧ Hid (Y = q + z) ∧ v = .int .i64 (Y : Nat) ∧ j = .int .i64 (z : Nat) ∧ Hid (NJ w8 wr2 w7.heap.size a4 c4 A P ((D.drop q).take z))) (fun _ j _ => n - (intOf j).toNat)
                case atStart => exact ⟨0, q, Nat.zero_le _, rfl, rfl, rfl, HJ0.out⟩
                case round =>
                  obtain ⟨z, Y, hz, HYq, rfl, rfl, hJ⟩ := hrel
                  have hY := HYq.out
                  clear HJ0
                  obtain ⟨p0, p1⟩ := HS1.out wr hJ.out.kp
                  by_cases hzn : z < n
                  · have z1 : (z : Int) < (n : Int) := by omega
                    rcases HDt.out wr hJ.out.kp with hd0 | ⟨db, doff, hda, hdc⟩
                    · rw [hd0] at sg1; simp at sg1; omega
                    have hdY := hdc Y (by omega)
                    have y0 : (0 : Int) ≤ (Y : Int) := by omega
                    have y1 : (Y : Int) < (D.length : Int) := by omega
                    have htk : ((D.drop q).take z).length = z := by rw [List.length_take, List.length_drop]; omega
                    rcases hJ.out.own.parts with ⟨_, _, hno⟩ | ⟨g4, cur, ha4, _⟩
                    · have h9 := congrArg List.length hno
                      rw [lay_len (by rw [htk]; omega), List.length_nil] at h9
                      omega
                    subst ha4
                    obtain ⟨X, hX⟩ : ∃ X : Nat, X = P + z := ⟨_, rfl⟩
                    obtain ⟨s1, ⟨u, s2⟩, s3⟩ := hJ.out.step (by rw [htk]; omega) (D[Y]?.getD 0)
                    rw [htk, ← hX] at s1 s2 s3
                    have HS3 : Hid (∀ x, NJ w8 ((wr.setCell ⟨g4, X, none⟩ (.int .u8 ((D[Y]?.getD 0 : Nat) : Int))).drewN x) w7.heap.size (some ⟨g4, 0, none⟩) c4 A P ((D.drop q).take (z + 1))) := fun x => by
                      rw [take_more (by omega), ← hY]
                      exact s3.below (below_drewN (Below.refl _ _) x)
                    have hXi : (P : Int) + (z : Int) = (X : Int) := by omega
                    have hwX : IntKind.i64.wrap (X : Int) = (X : Int) := by rw [IntKind.wrap_i64]; omega
                    have x0 : (0 : Int) ≤ (X : Int) := by omega
                    have x1 : (X : Int) < (b.length : Int) := by omega
                    subst hda
                    have hqb : Y ≤ 1048576 := by omega
                    clear s3 hJ htk hdc HS1 HDt HN1
                    have HYn : Hid (Y + 1 = q + (z + 1)) := by rw [hY]; exact Nat.add_assoc ..
                    have hYb : Y < D.length := by omega
                    clear hY HYq hX
                    generalize D[Y]?.getD 0 = V at *
                    go_wp2
                    go_region
                    all_goals (try go_wp2)
                    all_goals go_roundw
                    all_goals (first | exact ⟨z + 1, Y + 1, by omega, HYn.out, by go_num, by go_num, HS3.out _⟩ | exact ⟨z + 1, Y + 1, by omega, HYn.out, by go_num, by go_num, HS3.out 1⟩ | (simp [intOf]; omega))
                  · obtain rfl : z = n := by omega
                    have HQ : Hid (NI w8 wr w7.heap.size a4 c4 R L D (k + 1) Y (lay A P ((D.drop q).take z)) b.length) := by rw [hY]; exact HN1.out wr hJ.out
                    have hYb : Y ≤ 1048576 := by omega
                    clear hJ HS1 HDt HN1 hY HYq
                    go_wp2
                    go_roundw
                    case rel => exact ⟨k + 1, Y, _, by omega, by omega, rfl, by go_num, HQ.out⟩
                    case measure => simp [intOf]; omega
              · obtain rfl : k = L.length := by omega
                have hRA : R = A := by have := hR.out.eq; rw [List.drop_length] at this; exact this
                have HMw : Hid (MW wo mb hb R) := HM8.out.1.keep hR.out.kp (fun e => by have := HM8.out.2.1 _ e; have := HM8.out.2.2.1; omega) (fun e => by have := HM8.out.2.1 _ e; have := HM8.out.2.2.2; omega)
                have HLi : Hid (Lies wo a4 R) := by rw [hRA]; exact hR.out.own.lies
                have HLen : Hid (R.length = b.length) := by rw [hRA]; exact hR.out.len
                have HB8' : Hid (Below w.heap.size w wo) := HX.out wo hR.out.kp
                clear HB8 hRA hlt hR HX HM8 HF HI HM HLt HAb HK HGl
                have HB8 := HB8'
                clear HB8'
                have HEr := error_nil 0 wo
                go_wp2_with fail
                refine HEr.mono ?_
                rintro e w9 ⟨rfl, rfl⟩
                clear HEr
                have H9 : Hid (Below w.heap.size w wo ∧ MW wo mb hb R ∧ Lies wo a4 R) := ⟨HB8.out, HMw.out, HLi.out⟩
                have HRd : Hid (Calls Tryd.prog 14 #[.pointer (some ⟨mb, 0, none⟩), .int .i64 0, .int .i64 (b.length : Nat)] wo fun e w' => ∃ a9 c9, e = .returned (.tuple #[.slice a9 (R).length c9, .nilIface]) ∧ Lies w' a9 (R) ∧ Below wo.heap.size wo w') := by
                  have hbl : (R).length = b.length := HLen.out
                  refine (read_yes mb hb (R) 0 b.length wo H9.out.2.1 (by rw [hbl]; omega)).mono ?_
                  rintro e w' ⟨a9, c9, q1, q2, q3⟩
                  have hc : cut (R) 0 b.length = R := by rw [← hbl]; exact cut_all_of
                  rw [hc] at q1 q2
                  exact ⟨a9, c9, q1, q2.lies, q3⟩
                go_wp2_with fail
                refine HRd.out.mono ?_
                rintro e w10 ⟨a9, c9, rfl, hL10, hb10⟩
                have HBy : Hid (Calls Tryd.prog 12 #[.slice a9 (R).length c9, .slice a4 b.length c4] w10 fun e w' => e = .returned (.bool true) ∧ Below w10.heap.size w10 w') := by
                  have := bytes_same a9 a4 (R) c9 c4 w10 (by rw [HLen.out]; exact Hbig.out) hL10 (H9.out.2.2.below hb10)
                  rw [HLen.out] at this ⊢
                  exact this
                have HB10 : Hid (Below w.heap.size w w10) := H9.out.1.trans (hb10.mono H9.out.1.size)
                clear HRd H9 hL10 hb10 HB8 HMw HLi HE
                go_wp2_with fail
                refine HBy.out.mono ?_
                rintro e w11 ⟨rfl, hb11⟩
                have HB11 : Hid (Below w.heap.size w w11) := HB10.out.trans (hb11.mono HB10.out.size)
                clear HBy hb11 HB10
                go_wp2
                go_ret
                exact ⟨rfl, HB11.out⟩
          · have hl1 : (0 : Int) < (left : Int) := by omega
            have HSc : Hid (Calls Tryd.prog 13 #[.pointer (some ⟨mb, 0, none⟩), .slice la L.length lc, .slice da D.length dc] w6 fun e w' => e = .returned (.iface 31 (.int .i64 2)) ∧ Below w6.heap.size w6 w') := sA (by rw [F0.out rfl]; exact decide_eq_false (by omega))
            clear sA sB sC F0 F1
            go_wp2_with fail
            refine HSc.out.mono ?_
            rintro e w7 ⟨rfl, hb7⟩
            have HB7 : Hid (Below w.heap.size w w7) := HB6.out.1.trans (hb7.mono HB6.out.1.size)
            have HM7 : Hid (MW w7 mb hb b) := HMw6.below hb7
            clear HSc hb7 HMw6 HB6
            have HA0 : Hid (Below w7.heap.size w7 (w7.alloc (.cells #[] 5)) ∧ Lies (w7.alloc (.cells #[] 5)) a b) := ⟨alloc_below' w7 _, ((HI.out w7 HB7.out).1.below (alloc_below' w7 _)).lies⟩
            go_wp2_with (at_builtin; refine app_step rfl (.tmp 110) (.tmp 111) rfl w7.heap.size (some ⟨w7.heap.size, 0, none⟩) 0 [] (by rfl) (own_new w7 w7.heap.size [] (Nat.le_refl _) (by simp) _ rfl) a cap b (by rfl) hnilb.out HA0.out.2 b rfl Hbig.out HA0.out.1.size ?_)
            intro a4 c4 w8 hO4 hK4
            have H8 : Hid (OwnA w8 w7.heap.size a4 c4 b ∧ Below w7.heap.size w7 w8) := ⟨hO4, HA0.out.1.trans (hK4.below HA0.out.1.size (fun x hx => by obtain ⟨y, e, rfl⟩ := hx; cases e; exact Nat.le_refl _))⟩
            clear hO4 hK4 HA0
            have HB8 : Hid (Below w.heap.size w w8) := HB7.out.trans (H8.out.2.mono HB7.out.size)
            have HMw : Hid (MW w8 mb hb b) := HM7.out.below H8.out.2
            have HLi : Hid (Lies w8 a4 b) := H8.out.1.lies
            clear HB7 HM7 H8 HI HM HLt HAb HK HGl
            have HEr := error_same 2 w8 (HE.out w8 HB8.out)
            go_wp2_with fail
            refine HEr.mono ?_
            rintro e w9 ⟨rfl, hb9⟩
            have H9 : Hid (Below w.heap.size w w9 ∧ MW w9 mb hb b ∧ Lies w9 a4 b) := ⟨HB8.out.trans (hb9.mono HB8.out.size), HMw.out.below hb9, HLi.out.below hb9⟩
            clear HEr hb9
            have HRd : Hid (Calls Tryd.prog 14 #[.pointer (some ⟨mb, 0, none⟩), .int .i64 0, .int .i64 (b.length : Nat)] w9 fun e w' => ∃ a9 c9, e = .returned (.tuple #[.slice a9 (b).length c9, .nilIface]) ∧ Lies w' a9 (b) ∧ Below w9.heap.size w9 w') := by
              refine (read_yes mb hb (b) 0 b.length w9 H9.out.2.1 (by omega)).mono ?_
              rintro e w' ⟨a9, c9, q1, q2, q3⟩
              have hc : cut (b) 0 b.length = b := by exact cut_all_of
              rw [hc] at q1 q2
              exact ⟨a9, c9, q1, q2.lies, q3⟩
            go_wp2_with fail
            refine HRd.out.mono ?_
            rintro e w10 ⟨a9, c9, rfl, hL10, hb10⟩
            have HBy := bytes_same a9 a4 b c9 c4 w10 Hbig.out hL10 (H9.out.2.2.below hb10)
            have HB10 : Hid (Below w.heap.size w w10) := H9.out.1.trans (hb10.mono H9.out.1.size)
            clear HRd H9 hL10 hb10 HB8 HMw HLi HE
            go_wp2_with fail
            refine HBy.mono ?_
            rintro e w11 ⟨rfl, hb11⟩
            have HB11 : Hid (Below w.heap.size w w11) := HB10.out.trans (hb11.mono HB10.out.size)
            clear HBy hb11 HB10
            go_wp2
            go_ret
            exact ⟨rfl, HB11.out⟩
      · obtain rfl : en = 1 := by omega
        have HAll : Hid (allF b.length L = false) := hR.out.bad he0
        have HGb : Hid (Calls Tryd.prog 11 #[.pointer (some ⟨mb, 0, none⟩), .slice la L.length lc] wr fun e w' => e = .returned (.tuple #[.slice none 0 0, .iface 31 (.int .i64 1)]) ∧ Below wr.heap.size wr w') := by
          refine HGa.mono ?_
          rintro e w' ⟨q1, ⟨_, q2⟩ | ⟨q2, _⟩⟩
          · exact ⟨q2, q1⟩
          · rw [HAll.out] at q2; cases q2
        clear HGa hR hlt he0
        go_wp2_with fail
        refine HGb.out.mono ?_
        rintro e w5 ⟨rfl, hb5⟩
        have HB5 : Hid (Below w.heap.size w w5 ∧ Below w1.heap.size w1 w5) := ⟨HBr.out.1.trans (hb5.mono HBr.out.1.size), HBr.out.2.trans (hb5.mono HBr.out.2.size)⟩
        have HEr := error_same 1 w5 (HE.out w5 HB5.out.1)
        clear HGb hb5 HBr
        go_wp2_with fail
        refine HEr.mono ?_
        rintro e w5' ⟨rfl, hb5'⟩
        have HB5' : Hid (Below w.heap.size w w5' ∧ Below w1.heap.size w1 w5') := ⟨HB5.out.1.trans (hb5'.mono HB5.out.1.size), HB5.out.2.trans (hb5'.mono HB5.out.2.size)⟩
        have HBy : Hid (Calls Tryd.prog 12 #[.slice none 0 0, .slice none 0 0] w5' fun e w' => e = .returned (.bool true) ∧ Below w5'.heap.size w5' w') := bytes_same none none [] 0 0 w5' (by simp) (Or.inl rfl) (Or.inl rfl)
        clear HEr hb5' HB5
        go_wp2_with fail
        refine HBy.out.mono ?_
        rintro e w6 ⟨rfl, hb6⟩
        have HB6 : Hid (Below w.heap.size w w6 ∧ Below w1.heap.size w1 w6) := ⟨HB5'.out.1.trans (hb6.mono HB5'.out.1.size), HB5'.out.2.trans (hb6.mono HB5'.out.2.size)⟩
        clear HBy hb6 HB5'
        have HMw6 : MW w6 mb hb b := HM.out.1.below HB6.out.2
        obtain ⟨sA, sB, sC⟩ := scat_two mb hb b la da lc dc L D w6 HMw6 (HI.out w6 HB6.out.1).2.1 (fun x hx hp => by have := HLt.out.1 x hx hp; have := HM.out.2.2.2; omega) HK.out ⟨(HI.out w6 HB6.out.1).2.2.lies, HAb.out.2, (HI.out w6 HB6.out.1).2.2.cap, fun x off q1 q2 => by have := HLt.out.2 x off q1 q2; have := HM.out.2.2.2; omega⟩ (by omega) (by omega)
        cases sh with
        | true =>
          have HSc : Hid (Calls Tryd.prog 13 #[.pointer (some ⟨mb, 0, none⟩), .slice la L.length lc, .slice da D.length dc] w6 fun e w' => e = .returned (.iface 31 (.int .i64 2)) ∧ Below w6.heap.size w6 w') := sA (F1.out rfl)
          clear sA sB sC F0 F1
          go_wp2_with fail
          refine HSc.out.mono ?_
          rintro e w7 ⟨rfl, hb7⟩
          have HB7 : Hid (Below w.heap.size w w7) := HB6.out.1.trans (hb7.mono HB6.out.1.size)
          have HM7 : Hid (MW w7 mb hb b) := HMw6.below hb7
          clear HSc hb7 HMw6 HB6
          have HA0 : Hid (Below w7.heap.size w7 (w7.alloc (.cells #[] 5)) ∧ Lies (w7.alloc (.cells #[] 5)) a b) := ⟨alloc_below' w7 _, ((HI.out w7 HB7.out).1.below (alloc_below' w7 _)).lies⟩
          go_wp2_with (at_builtin; refine app_step rfl (.tmp 110) (.tmp 111) rfl w7.heap.size (some ⟨w7.heap.size, 0, none⟩) 0 [] (by rfl) (own_new w7 w7.heap.size [] (Nat.le_refl _) (by simp) _ rfl) a cap b (by rfl) hnilb.out HA0.out.2 b rfl Hbig.out HA0.out.1.size ?_)
          intro a4 c4 w8 hO4 hK4
          have H8 : Hid (OwnA w8 w7.heap.size a4 c4 b ∧ Below w7.heap.size w7 w8) := ⟨hO4, HA0.out.1.trans (hK4.below HA0.out.1.size (fun x hx => by obtain ⟨y, e, rfl⟩ := hx; cases e; exact Nat.le_refl _))⟩
          clear hO4 hK4 HA0
          have HB8 : Hid (Below w.heap.size w w8) := HB7.out.trans (H8.out.2.mono HB7.out.size)
          have HMw : Hid (MW w8 mb hb b) := HM7.out.below H8.out.2
          have HLi : Hid (Lies w8 a4 b) := H8.out.1.lies
          clear HB7 HM7 H8 HI HM HLt HAb HK HGl
          have HEr := error_same 2 w8 (HE.out w8 HB8.out)
          go_wp2_with fail
          refine HEr.mono ?_
          rintro e w9 ⟨rfl, hb9⟩
          have H9 : Hid (Below w.heap.size w w9 ∧ MW w9 mb hb b ∧ Lies w9 a4 b) := ⟨HB8.out.trans (hb9.mono HB8.out.size), HMw.out.below hb9, HLi.out.below hb9⟩
          clear HEr hb9
          have HRd : Hid (Calls Tryd.prog 14 #[.pointer (some ⟨mb, 0, none⟩), .int .i64 0, .int .i64 (b.length : Nat)] w9 fun e w' => ∃ a9 c9, e = .returned (.tuple #[.slice a9 (b).length c9, .nilIface]) ∧ Lies w' a9 (b) ∧ Below w9.heap.size w9 w') := by
            refine (read_yes mb hb (b) 0 b.length w9 H9.out.2.1 (by omega)).mono ?_
            rintro e w' ⟨a9, c9, q1, q2, q3⟩
            have hc : cut (b) 0 b.length = b := by exact cut_all_of
            rw [hc] at q1 q2
            exact ⟨a9, c9, q1, q2.lies, q3⟩
          go_wp2_with fail
          refine HRd.out.mono ?_
          rintro e w10 ⟨a9, c9, rfl, hL10, hb10⟩
          have HBy := bytes_same a9 a4 b c9 c4 w10 Hbig.out hL10 (H9.out.2.2.below hb10)
          have HB10 : Hid (Below w.heap.size w w10) := H9.out.1.trans (hb10.mono H9.out.1.size)
          clear HRd H9 hL10 hb10 HB8 HMw HLi HE
          go_wp2_with fail
          refine HBy.mono ?_
          rintro e w11 ⟨rfl, hb11⟩
          have HB11 : Hid (Below w.heap.size w w11) := HB10.out.trans (hb11.mono HB10.out.size)
          clear HBy hb11 HB10
          go_wp2
          go_ret
          exact ⟨rfl, HB11.out⟩
        | false =>
          by_cases hl0 : left = 0
          · subst hl0
            have HSc : Hid (Calls Tryd.prog 13 #[.pointer (some ⟨mb, 0, none⟩), .slice la L.length lc, .slice da D.length dc] w6 fun e w' => e = .returned (.iface 31 (.int .i64 1)) ∧ Below w6.heap.size w6 w') := sB (by rw [F0.out rfl]; rfl) HAll.out
            clear sA sB sC F0 F1
            go_wp2_with fail
            refine HSc.out.mono ?_
            rintro e w7 ⟨rfl, hb7⟩
            have HB7 : Hid (Below w.heap.size w w7) := HB6.out.1.trans (hb7.mono HB6.out.1.size)
            have HM7 : Hid (MW w7 mb hb b) := HMw6.below hb7
            clear HSc hb7 HMw6 HB6
            have HA0 : Hid (Below w7.heap.size w7 (w7.alloc (.cells #[] 5)) ∧ Lies (w7.alloc (.cells #[] 5)) a b) := ⟨alloc_below' w7 _, ((HI.out w7 HB7.out).1.below (alloc_below' w7 _)).lies⟩
            go_wp2_with (at_builtin; refine app_step rfl (.tmp 110) (.tmp 111) rfl w7.heap.size (some ⟨w7.heap.size, 0, none⟩) 0 [] (by rfl) (own_new w7 w7.heap.size [] (Nat.le_refl _) (by simp) _ rfl) a cap b (by rfl) hnilb.out HA0.out.2 b rfl Hbig.out HA0.out.1.size ?_)
            intro a4 c4 w8 hO4 hK4
            have H8 : Hid (OwnA w8 w7.heap.size a4 c4 b ∧ Below w7.heap.size w7 w8) := ⟨hO4, HA0.out.1.trans (hK4.below HA0.out.1.size (fun x hx => by obtain ⟨y, e, rfl⟩ := hx; cases e; exact Nat.le_refl _))⟩
            clear hO4 hK4 HA0
            have HB8 : Hid (Below w.heap.size w w8) := HB7.out.trans (H8.out.2.mono HB7.out.size)
            have HMw : Hid (MW w8 mb hb b) := HM7.out.below H8.out.2
            have HLi : Hid (Lies w8 a4 b) := H8.out.1.lies
            clear HB7 HM7 H8 HI HM HLt HAb HK HGl
            have HEr := error_same 1 w8 (HE.out w8 HB8.out)
            go_wp2_with fail
            refine HEr.mono ?_
            rintro e w9 ⟨rfl, hb9⟩
            have H9 : Hid (Below w.heap.size w w9 ∧ MW w9 mb hb b ∧ Lies w9 a4 b) := ⟨HB8.out.trans (hb9.mono HB8.out.size), HMw.out.below hb9, HLi.out.below hb9⟩
            clear HEr hb9
            have HRd : Hid (Calls Tryd.prog 14 #[.pointer (some ⟨mb, 0, none⟩), .int .i64 0, .int .i64 (b.length : Nat)] w9 fun e w' => ∃ a9 c9, e = .returned (.tuple #[.slice a9 (b).length c9, .nilIface]) ∧ Lies w' a9 (b) ∧ Below w9.heap.size w9 w') := by
              refine (read_yes mb hb (b) 0 b.length w9 H9.out.2.1 (by omega)).mono ?_
              rintro e w' ⟨a9, c9, q1, q2, q3⟩
              have hc : cut (b) 0 b.length = b := by exact cut_all_of
              rw [hc] at q1 q2
              exact ⟨a9, c9, q1, q2.lies, q3⟩
            go_wp2_with fail
            refine HRd.out.mono ?_
            rintro e w10 ⟨a9, c9, rfl, hL10, hb10⟩
            have HBy := bytes_same a9 a4 b c9 c4 w10 Hbig.out hL10 (H9.out.2.2.below hb10)
            have HB10 : Hid (Below w.heap.size w w10) := H9.out.1.trans (hb10.mono H9.out.1.size)
            clear HRd H9 hL10 hb10 HB8 HMw HLi HE
            go_wp2_with fail
            refine HBy.mono ?_
            rintro e w11 ⟨rfl, hb11⟩
            have HB11 : Hid (Below w.heap.size w w11) := HB10.out.trans (hb11.mono HB10.out.size)
            clear HBy hb11 HB10
            go_wp2
            go_ret
            exact ⟨rfl, HB11.out⟩
          · have hl1 : (0 : Int) < (left : Int) := by omega
            have HSc : Hid (Calls Tryd.prog 13 #[.pointer (some ⟨mb, 0, none⟩), .slice la L.length lc, .slice da D.length dc] w6 fun e w' => e = .returned (.iface 31 (.int .i64 2)) ∧ Below w6.heap.size w6 w') := sA (by rw [F0.out rfl]; exact decide_eq_false (by omega))
            clear sA sB sC F0 F1
            go_wp2_with fail
            refine HSc.out.mono ?_
            rintro e w7 ⟨rfl, hb7⟩
            have HB7 : Hid (Below w.heap.size w w7) := HB6.out.1.trans (hb7.mono HB6.out.1.size)
            have HM7 : Hid (MW w7 mb hb b) := HMw6.below hb7
            clear HSc hb7 HMw6 HB6
            have HA0 : Hid (Below w7.heap.size w7 (w7.alloc (.cells #[] 5)) ∧ Lies (w7.alloc (.cells #[] 5)) a b) := ⟨alloc_below' w7 _, ((HI.out w7 HB7.out).1.below (alloc_below' w7 _)).lies⟩
            go_wp2_with (at_builtin; refine app_step rfl (.tmp 110) (.tmp 111) rfl w7.heap.size (some ⟨w7.heap.size, 0, none⟩) 0 [] (by rfl) (own_new w7 w7.heap.size [] (Nat.le_refl _) (by simp) _ rfl) a cap b (by rfl) hnilb.out HA0.out.2 b rfl Hbig.out HA0.out.1.size ?_)
            intro a4 c4 w8 hO4 hK4
            have H8 : Hid (OwnA w8 w7.heap.size a4 c4 b ∧ Below w7.heap.size w7 w8) := ⟨hO4, HA0.out.1.trans (hK4.below HA0.out.1.size (fun x hx => by obtain ⟨y, e, rfl⟩ := hx; cases e; exact Nat.le_refl _))⟩
            clear hO4 hK4 HA0
            have HB8 : Hid (Below w.heap.size w w8) := HB7.out.trans (H8.out.2.mono HB7.out.size)
            have HMw : Hid (MW w8 mb hb b) := HM7.out.below H8.out.2
            have HLi : Hid (Lies w8 a4 b) := H8.out.1.lies
            clear HB7 HM7 H8 HI HM HLt HAb HK HGl
            have HEr := error_same 2 w8 (HE.out w8 HB8.out)
            go_wp2_with fail
            refine HEr.mono ?_
            rintro e w9 ⟨rfl, hb9⟩
            have H9 : Hid (Below w.heap.size w w9 ∧ MW w9 mb hb b ∧ Lies w9 a4 b) := ⟨HB8.out.trans (hb9.mono HB8.out.size), HMw.out.below hb9, HLi.out.below hb9⟩
            clear HEr hb9
            have HRd : Hid (Calls Tryd.prog 14 #[.pointer (some ⟨mb, 0, none⟩), .int .i64 0, .int .i64 (b.length : Nat)] w9 fun e w' => ∃ a9 c9, e = .returned (.tuple #[.slice a9 (b).length c9, .nilIface]) ∧ Lies w' a9 (b) ∧ Below w9.heap.size w9 w') := by
              refine (read_yes mb hb (b) 0 b.length w9 H9.out.2.1 (by omega)).mono ?_
              rintro e w' ⟨a9, c9, q1, q2, q3⟩
              have hc : cut (b) 0 b.length = b := by exact cut_all_of
              rw [hc] at q1 q2
              exact ⟨a9, c9, q1, q2.lies, q3⟩
            go_wp2_with fail
            refine HRd.out.mono ?_
            rintro e w10 ⟨a9, c9, rfl, hL10, hb10⟩
            have HBy := bytes_same a9 a4 b c9 c4 w10 Hbig.out hL10 (H9.out.2.2.below hb10)
            have HB10 : Hid (Below w.heap.size w w10) := H9.out.1.trans (hb10.mono H9.out.1.size)
            clear HRd H9 hL10 hb10 HB8 HMw HLi HE
            go_wp2_with fail
            refine HBy.mono ?_
            rintro e w11 ⟨rfl, hb11⟩
            have HB11 : Hid (Below w.heap.size w w11) := HB10.out.trans (hb11.mono HB10.out.size)
            clear HBy hb11 HB10
            go_wp2
            go_ret
            exact ⟨rfl, HB11.out⟩
theorem moves_any (a la da : Option Addr) (b : List Nat) (L : List Sg) (D : List Nat) (cap lc dc : Nat) (w : World) (hE : EType w) (hI : BIn w a cap b) (hLs : SL w la L) (hok : OkS L) (hlow : ∀ k, k < L.length → -9223372036854775808 ≤ (gS L k).p) (hll : L.length ≤ 1048576) (hD : BIn w da dc D) (hdl : D.length ≤ 1048576) :
    Calls Tryd.prog 4 #[.slice a b.length cap, .slice la L.length lc, .slice da D.length dc] w fun e w' => e = .returned (.bool true) ∧ Below w.heap.size w w' := by
  by_cases h : b.length ≤ 16384
  · exact moves_yes a la da b L D cap lc dc w hE h hI hLs hok hlow hll hD hdl
  · exact moves_no a la da b.length cap L.length lc D.length dc w (by omega) hI.big
end Go.Proofs.YtdkafcgangcgbajDoor

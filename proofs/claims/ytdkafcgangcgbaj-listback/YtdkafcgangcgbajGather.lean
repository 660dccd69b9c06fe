/-
  What list.allLie and list.Gather give.
-/
import Derived.Test.YtdkafcgangcgbajTake
import Derived.Test.YtdkafcgangcgbajMathMove
namespace Go.Proofs.Ytdkafcgangcgbaj
open Go.RowKit
set_option linter.unusedVariables false

/-- Segments that can be: each number is an int. -/
def OkS (L : List Sg) : Prop := ∀ k, k < L.length → (gS L k).p ≤ 9223372036854775807 ∧ -9223372036854775808 ≤ (gS L k).n
set_option maxHeartbeats 800000 in
theorem allLie_nil (v : Value) (a : Option Addr) (cap : Nat) (w : World) : Calls Try.prog 24 #[v, .slice a 0 cap] w fun e w' => e = .returned (.bool true) ∧ w = w' := by
  go_enter Try.func24, Try.ntmps24
  go_wp2
  go_loop [9] (fun j => j = .int .i64 0) (fun _ => 0)
  case atStart => rfl
  case round =>
    subst hrel
    go_wp2
    go_ret
    exact ⟨rfl, rfl⟩
set_option maxRecDepth 20000 in
set_option maxHeartbeats 1600000 in
theorem allLie_some (mb hb : Nat) (l : List Nat) (g off cap : Nat) (L : List Sg) (w : World) (h : MW w mb hb l) (hat : ∀ i, i < L.length → SgAt w g off i (gS L i)) (hok : OkS L) (hlen : L.length ≤ 9000000000000000000) :
    Calls Try.prog 24 #[.pointer (some ⟨mb, 0, none⟩), .slice (some ⟨g, off, none⟩) L.length cap] w fun e w' => e = .returned (.bool (allF l.length L)) ∧ Below w.heap.size w w' := by
  have HA : Hid (∀ wr, Below w.heap.size w wr → ∀ i, i < L.length → SgAt wr g off i (gS L i)) := fun wr hb i hi => (hat i hi).keep (S := fun _ => False) (Keep.of_below hb) (fun e => e)
  have HM : Hid (∀ wr, Below w.heap.size w wr → MW wr mb hb l) := fun wr hb => h.below hb
  have HK : Hid (OkS L) := hok
  clear h hat hok
  go_enter Try.func24, Try.ntmps24
  go_wp2
  go_loopw [9] (fun j wr => ∃ k : Nat, k ≤ L.length ∧ j = .int .i64 k ∧ Hid (Below w.heap.size w wr ∧ allF l.length L = allF l.length (L.drop k))) (fun j _ => L.length - (intOf j).toNat)
  case atStart => exact ⟨0, Nat.zero_le _, rfl, Below.refl _ _, rfl⟩
  case round =>
    obtain ⟨k, hk, rfl, hR⟩ := hrel
    by_cases hlt : k < L.length
    · obtain ⟨c0, c1⟩ := HA.out wr hR.out.1 k hlt
      have k0 : (0 : Int) ≤ (k : Int) := by omega
      have k1 : (k : Int) < (L.length : Int) := by omega
      have HB : Hid (Below w.heap.size w (wr.alloc (.cells #[.int .i64 (gS L k).p, .int .i64 (gS L k).n] 35))) := hR.out.1.trans ((alloc_below' wr _).mono hR.out.1.size)
      have HL := lies_any mb hb l (gS L k).p (gS L k).n (wr.alloc (.cells #[.int .i64 (gS L k).p, .int .i64 (gS L k).n] 35)) (HM.out _ HB.out) (HK.out k hlt).1
      have HS : Hid (allF l.length (L.drop k) = (decide (fits l.length (gS L k).p (gS L k).n) && allF l.length (L.drop (k + 1)))) := by
        rw [List.drop_eq_getElem_cons hlt]
        unfold gS
        rw [List.getElem?_eq_getElem hlt]
        exact rfl
      by_cases hf : fits l.length (gS L k).p (gS L k).n
      · rw [decide_eq_true hf] at HL
        have HE : Hid (allF l.length L = allF l.length (L.drop (k + 1))) := by
          rw [hR.out.2, HS.out, decide_eq_true hf, Bool.true_and]; exact rfl
        clear hf HS hR
        generalize (gS L k).p = P at *
        generalize (gS L k).n = N at *
        go_wp2_with fail
        refine HL.mono ?_
        rintro e w2 ⟨rfl, hb2⟩
        have HW : Hid (Below w.heap.size w w2) := HB.out.trans (hb2.mono HB.out.size)
        clear HL hb2 HB
        go_wp2
        go_roundw
        case rel => exact ⟨k + 1, by omega, by go_num, HW.out, HE.out⟩
        case measure => simp [intOf]; omega
      · rw [decide_eq_false hf] at HL
        have HE : Hid (allF l.length L = false) := allF_no k hlt hf
        clear hf HS hR
        generalize (gS L k).p = P at *
        generalize (gS L k).n = N at *
        go_wp2_with fail
        refine HL.mono ?_
        rintro e w2 ⟨rfl, hb2⟩
        have HW : Hid (Below w.heap.size w w2) := HB.out.trans (hb2.mono HB.out.size)
        clear HL hb2 HB
        go_wp2
        go_ret
        exact ⟨by rw [HE.out]; rfl, HW.out⟩
    · obtain rfl : k = L.length := by omega
      have HE : Hid (allF l.length L = true) := by
        rw [hR.out.2, List.drop_length]; exact rfl
      have HW : Hid (Below w.heap.size w wr) := hR.out.1
      clear hlt hR
      go_wp2
      go_ret
      exact ⟨by rw [HE.out]; rfl, HW.out⟩
theorem allLie_any (mb hb : Nat) (l : List Nat) (a : Option Addr) (cap : Nat) (L : List Sg) (w : World) (h : MW w mb hb l) (hL : SL w a L) (hok : OkS L) (hlen : L.length ≤ 9000000000000000000) :
    Calls Try.prog 24 #[.pointer (some ⟨mb, 0, none⟩), .slice a L.length cap] w fun e w' => e = .returned (.bool (allF l.length L)) ∧ Below w.heap.size w w' := by
  rcases hL with rfl | ⟨g, off, rfl, hat⟩
  · exact (allLie_nil _ a cap w).mono fun e w' ⟨h1, h2⟩ => ⟨h1, h2 ▸ Below.refl _ _⟩
  · exact allLie_some mb hb l g off cap L w h hat hok hlen
/-- What Gather gives. -/
def GatherPost (w w' : World) (e : Ending) (l : List Nat) (L : List Sg) : Prop :=
  Below w.heap.size w w' ∧ ((allF l.length L = false ∧ e = .returned (.tuple #[.slice none 0 0, .iface 48 (.int .i64 1)])) ∨ (allF l.length L = true ∧ ∃ a cap, e = .returned (.tuple #[.slice a (gath l L).length cap, .nilIface]) ∧ OwnA w' w.heap.size a cap (gath l L)))
set_option maxRecDepth 20000 in
set_option maxHeartbeats 1600000 in
theorem gather_no (mb hb : Nat) (l : List Nat) (a : Option Addr) (cap : Nat) (L : List Sg) (w : World) (h : MW w mb hb l) (hL : SL w a L) (hok : OkS L) (hlen : L.length ≤ 9000000000000000000) (hf : allF l.length L = false) :
    Calls Try.prog 9 #[.pointer (some ⟨mb, 0, none⟩), .slice a L.length cap] w fun e w' => GatherPost w w' e l L := by
  have HP := present_any mb w
  have HA : Hid (Calls Try.prog 24 #[.pointer (some ⟨mb, 0, none⟩), .slice a L.length cap] w fun e w' => e = .returned (.bool false) ∧ Below w.heap.size w w') := by
    have := allLie_any mb hb l a cap L w h hL hok hlen
    rw [hf] at this
    exact this
  have HD : Hid (∀ w', Below w.heap.size w w' → GatherPost w w' (.returned (.tuple #[.slice none 0 0, .iface 48 (.int .i64 1)])) l L) := fun w' hb' => ⟨hb', .inl ⟨hf, rfl⟩⟩
  clear h hL hok hf
  go_enter Try.func9, Try.ntmps9
  go_wp2_with fail
  refine HP.mono ?_
  rintro e w' ⟨rfl, rfl⟩
  go_wp2_with fail
  refine HA.out.mono ?_
  rintro e w' ⟨rfl, hW⟩
  have HE := HD.out w' hW
  clear HP HA HD hW
  go_wp2
  go_ret2
  exact HE
/-- While Gather goes. -/
structure GI (w wr : World) (mb hb : Nat) (l : List Nat) (a : Option Addr) (cap : Nat) (ys : List Nat) : Prop where
  bel : Below w.heap.size w wr
  own : OwnA wr w.heap.size a cap ys
theorem GI.turn {w wr w' : World} {mb hb : Nat} {l : List Nat} {a a' : Option Addr} {cap cap' : Nat} {ys ys' : List Nat} (h : GI w wr mb hb l a cap ys) (hk : Keep (blk a) wr w') (ho : OwnA w' w.heap.size a' cap' ys') : GI w w' mb hb l a' cap' ys' :=
  ⟨h.bel.trans (hk.below h.bel.size (fun b hb => (h.own.ge hb).1)), ho⟩
theorem GI.below {w wr w' : World} {mb hb : Nat} {l : List Nat} {a : Option Addr} {cap : Nat} {ys : List Nat} (h : GI w wr mb hb l a cap ys) (hb' : Below wr.heap.size wr w') : GI w w' mb hb l a cap ys :=
  ⟨h.bel.trans (hb'.mono h.bel.size), h.own.below hb'⟩
set_option maxRecDepth 20000 in
set_option maxHeartbeats 3200000 in
theorem gather_some (mb hb : Nat) (l : List Nat) (g off cap : Nat) (L : List Sg) (w : World) (h : MW w mb hb l) (hat : ∀ i, i < L.length → SgAt w g off i (gS L i)) (hok : OkS L) (hlen : L.length * l.length ≤ 140737488355328) (hl2 : L.length ≤ 9000000000000000000) (hf : allF l.length L = true) :
    Calls Try.prog 9 #[.pointer (some ⟨mb, 0, none⟩), .slice (some ⟨g, off, none⟩) L.length cap] w fun e w' => GatherPost w w' e l L := by
  have HP := present_any mb w
  have HA0 : Hid (Calls Try.prog 24 #[.pointer (some ⟨mb, 0, none⟩), .slice (some ⟨g, off, none⟩) L.length cap] w fun e w' => e = .returned (.bool true) ∧ Below w.heap.size w w') := by
    have := allLie_any mb hb l (some ⟨g, off, none⟩) cap L w h (.inr ⟨g, off, rfl, hat⟩) hok hl2
    rw [hf] at this
    exact this
  have HA : Hid (∀ wr, Below w.heap.size w wr → ∀ i, i < L.length → SgAt wr g off i (gS L i)) := fun wr hb i hi => (hat i hi).keep (S := fun _ => False) (Keep.of_below hb) (fun e => e)
  have HM : Hid (∀ wr, Below w.heap.size w wr → MW wr mb hb l) := fun wr hb => h.below hb
  have HF : Hid (∀ k, k < L.length → fits l.length (gS L k).p (gS L k).n) := allF_at hf
  have HLn : Hid (∀ k, k ≤ L.length → (gath l (L.take k)).length ≤ 140737488355328) := fun k hk => by
    have h1 := gath_len l (L.take k)
    rw [List.length_take, Nat.min_eq_left hk] at h1
    exact Nat.le_trans h1 (Nat.le_trans (Nat.mul_le_mul_right _ hk) hlen)
  have HD : Hid (∀ w' a' cap', GI w w' mb hb l a' cap' (gath l L) → GatherPost w w' (.returned (.tuple #[.slice a' (gath l L).length cap', .nilIface])) l L) := fun w' a' cap' hg => ⟨hg.bel, .inr ⟨hf, a', cap', rfl, hg.own⟩⟩
  clear h hat hok hf hlen
  go_enter Try.func9, Try.ntmps9
  go_wp2_with fail
  refine HP.mono ?_
  rintro e w' ⟨rfl, rfl⟩
  go_wp2_with fail
  refine HA0.out.mono ?_
  rintro e w1 ⟨rfl, hW⟩
  have H0 : Hid (GI w w1 mb hb l none 0 []) := ⟨hW, own_nil _ _⟩
  clear HP HA0 hW
  go_wp2
  go_loopw [6, 20] (fun s j wr => ∃ (k : Nat) (a : Option Addr) (ca : Nat) (ys : List Nat), k ≤ L.length ∧ j = .int .i64 k ∧ s = .slice a ys.length ca ∧ Hid (GI w wr mb hb l a ca ys ∧ ys = gath l (L.take k))) (fun _ j _ => L.length - (intOf j).toNat)
  case atStart => exact ⟨0, none, 0, [], Nat.zero_le _, rfl, rfl, H0.out, rfl⟩
  case round =>
    obtain ⟨k, a, ca, ys, hk, rfl, rfl, hR⟩ := hrel
    clear H0
    by_cases hlt : k < L.length
    · obtain ⟨c0, c1⟩ := HA.out wr hR.out.1.bel k hlt
      have k0 : (0 : Int) ≤ (k : Int) := by omega
      have k1 : (k : Int) < (L.length : Int) := by omega
      obtain ⟨f1, f2, f3⟩ := HF.out k hlt
      obtain ⟨P, hP⟩ := Int.eq_ofNat_of_zero_le f1
      obtain ⟨N, hN⟩ := Int.eq_ofNat_of_zero_le f2
      rw [hP] at c0 f3
      rw [hN] at c1 f3
      have HB : Hid (GI w (wr.alloc (.cells #[.int .i64 (P : Nat), .int .i64 (N : Nat)] 35)) mb hb l a ca ys) := hR.out.1.below (alloc_below' wr _)
      have HRd := read_yes mb hb l P N (wr.alloc (.cells #[.int .i64 (P : Nat), .int .i64 (N : Nat)] 35)) (HM.out _ HB.out.bel) (by omega)
      have HS : Hid (ys ++ cut l P N = gath l (L.take (k + 1)) ∧ (ys ++ cut l P N).length ≤ 140737488355328) := by
        have e : ys ++ cut l P N = gath l (L.take (k + 1)) := by
          rw [take_snocS hlt, gath_app, ← hR.out.2]
          show ys ++ cut l P N = ys ++ (cut l (gS L k).p.toNat (gS L k).n.toNat ++ [])
          rw [hP, hN, List.append_nil]
          rfl
        exact ⟨e, by rw [e]; exact HLn.out (k + 1) (by omega)⟩
      clear hR f1 f2 f3 hP hN HLn HF
      generalize cut l P N = X at *
      go_wp2_with fail
      refine HRd.mono ?_
      rintro e w2 ⟨a2, c2, rfl, ho2, hb2⟩
      have HG : Hid (GI w w2 mb hb l a ca ys ∧ Lies w2 a2 X ∧ (a2 = none → c2 = 0)) := ⟨HB.out.below hb2, ho2.lies, ho2.nil0⟩
      clear HRd HB ho2 hb2 c0 c1
      go_wp2_with (at_builtin; refine app_step rfl (.tmp 36) (.tmp 37) rfl w.heap.size a ca ys (by rfl) HG.out.1.own a2 c2 X (by rfl) HG.out.2.2 HG.out.2.1 (ys ++ X) rfl HS.out.2 HG.out.1.bel.size ?_)
      intro a3 c3 w3 hO hK
      have HR3 : Hid (GI w w3 mb hb l a3 c3 (ys ++ X)) := HG.out.1.turn hK hO
      clear hO hK HG
      go_wp2
      go_roundw
      case rel => exact ⟨k + 1, a3, c3, ys ++ X, by omega, by go_num, by simp, HR3.out, HS.out.1⟩
      case measure => simp [intOf]; omega
    · obtain rfl : k = L.length := by omega
      have e : ys = gath l L := by rw [hR.out.2, List.take_length]
      have HE := HD.out wr a ca (e ▸ hR.out.1)
      rw [← e] at HE
      clear hlt hR HD
      go_wp2
      go_ret2
      exact HE
set_option maxRecDepth 20000 in
set_option maxHeartbeats 1600000 in
theorem gather_nil (mb hb : Nat) (l : List Nat) (a : Option Addr) (cap : Nat) (w : World) :
    Calls Try.prog 9 #[.pointer (some ⟨mb, 0, none⟩), .slice a 0 cap] w fun e w' => GatherPost w w' e l [] := by
  have HP := present_any mb w
  have HA := allLie_nil (.pointer (some ⟨mb, 0, none⟩)) a cap w
  have HD : Hid (GatherPost w w (.returned (.tuple #[.slice none 0 0, .nilIface])) l []) := ⟨Below.refl _ _, .inr ⟨rfl, none, 0, rfl, own_nil _ _⟩⟩
  go_enter Try.func9, Try.ntmps9
  go_wp2_with fail
  refine HP.mono ?_
  rintro e w' ⟨rfl, rfl⟩
  go_wp2_with fail
  refine HA.mono ?_
  rintro e w1 ⟨rfl, rfl⟩
  clear HP HA
  go_wp2
  go_loop [6, 20] (fun s j => s = .slice none 0 0 ∧ j = .int .i64 0) (fun _ _ => 0)
  case atStart => exact ⟨rfl, rfl⟩
  case round =>
    obtain ⟨rfl, rfl⟩ := hrel
    go_wp2
    go_ret2
    exact HD.out
theorem gather_any (mb hb : Nat) (l : List Nat) (a : Option Addr) (cap : Nat) (L : List Sg) (w : World) (h : MW w mb hb l) (hL : SL w a L) (hok : OkS L) (hlen : L.length * l.length ≤ 140737488355328) (hl2 : L.length ≤ 9000000000000000000) :
    Calls Try.prog 9 #[.pointer (some ⟨mb, 0, none⟩), .slice a L.length cap] w fun e w' => GatherPost w w' e l L := by
  cases hf : allF l.length L with
  | false => exact gather_no mb hb l a cap L w h hL hok hl2 hf
  | true =>
    rcases hL with rfl | ⟨g, off, rfl, hat⟩
    · exact gather_nil mb hb l a cap w
    · exact gather_some mb hb l g off cap L w h hat hok hlen hl2 hf
end Go.Proofs.Ytdkafcgangcgbaj

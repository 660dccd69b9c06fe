/-
  What list.fills and list.Scatter give.
-/
import Derived.Test.YtdkafcgangcgbajGather
namespace Go.Proofs.Ytdkafcgangcgbaj
open Go.RowKit
set_option linter.unusedVariables false

theorem slice_toN (a : Option Addr) (n cap p : Nat) (h : p ≤ cap) (w : World) : (Instr.slice 22 (.slice a n cap) none (some (.int .i64 (p : Nat))) none).run Try.prog w = .ok (.slice a p cap) w := by
  have hu : Try.prog.underlying 22 = some (.slice (Try.prog.elem 22)) := by kernel_rfl
  have hs : (sizeOf (Try.prog.elem 22)).run Try.prog w = .ok 1 w := by kernel_rfl
  rw [run_slice_h w 22 _ n cap hu .i64 (p : Int) (by omega) (by omega), hs]
  have e : a.map (·.add 0) = a := by
    cases a with
    | none => rfl
    | some x => cases x; simp [Addr.add]
  simp [Result.andThen, sliced, e]
theorem slice_fromN (a : Option Addr) (n cap l : Nat) (h : l ≤ n) (hc : n ≤ cap) (w : World) : (Instr.slice 22 (.slice a n cap) (some (.int .i64 (l : Nat))) none none).run Try.prog w = .ok (.slice (dropA a cap l) (n - l) (cap - l)) w := by
  have hu : Try.prog.underlying 22 = some (.slice (Try.prog.elem 22)) := by kernel_rfl
  have hs : (sizeOf (Try.prog.elem 22)).run Try.prog w = .ok 1 w := by kernel_rfl
  rw [run_slice_l w 22 _ n cap hu .i64 (l : Int) (by omega) (by omega), hs]
  simp [Result.andThen, sliced, dropA]
set_option maxHeartbeats 800000 in
theorem fills_nil (a : Option Addr) (cap n : Nat) (w : World) : Calls Try.prog 23 #[.slice a 0 cap, .int .i64 (n : Nat)] w fun e w' => e = .returned (.bool (fillF [] (n : Int))) ∧ w = w' := by
  have HE : Hid (fillF [] (n : Int) = ((n : Int) == 0)) := by show decide _ = _; rfl
  rw [HE.out]
  go_enter Try.func23, Try.ntmps23
  go_wp2
  go_loop [1, 9] (fun m j => m = .int .i64 (n : Nat) ∧ j = .int .i64 0) (fun _ _ => 0)
  case atStart => exact ⟨rfl, rfl⟩
  case round =>
    obtain ⟨rfl, rfl⟩ := hrel
    go_wp2
    go_ret
    exact ⟨rfl, rfl⟩
set_option maxRecDepth 20000 in
set_option maxHeartbeats 1600000 in
theorem fills_some (g off cap n : Nat) (L : List Sg) (w : World) (hat : ∀ i, i < L.length → SgAt w g off i (gS L i)) (hlen : L.length ≤ 9000000000000000000) (hn : n ≤ 9000000000000000000) :
    Calls Try.prog 23 #[.slice (some ⟨g, off, none⟩) L.length cap, .int .i64 (n : Nat)] w fun e w' => e = .returned (.bool (fillF L (n : Int))) ∧ Below w.heap.size w w' := by
  have HA : Hid (∀ wr, Below w.heap.size w wr → ∀ i, i < L.length → SgAt wr g off i (gS L i)) := fun wr hb i hi => (hat i hi).keep (S := fun _ => False) (Keep.of_below hb) (fun e => e)
  clear hat
  go_enter Try.func23, Try.ntmps23
  go_wp2
  go_loopw [1, 9] (fun v j wr => ∃ k m : Nat, k ≤ L.length ∧ m ≤ 9000000000000000000 ∧ j = .int .i64 k ∧ v = .int .i64 (m : Nat) ∧ Hid (Below w.heap.size w wr ∧ fillF L (n : Int) = fillF (L.drop k) (m : Int))) (fun _ j _ => L.length - (intOf j).toNat)
  case atStart => exact ⟨0, n, Nat.zero_le _, hn, rfl, rfl, Below.refl _ _, rfl⟩
  case round =>
    obtain ⟨k, m, hk, hm, rfl, rfl, hR⟩ := hrel
    by_cases hlt : k < L.length
    · obtain ⟨c0, c1⟩ := HA.out wr hR.out.1 k hlt
      have k0 : (0 : Int) ≤ (k : Int) := by omega
      have k1 : (k : Int) < (L.length : Int) := by omega
      have HB : Hid (Below w.heap.size w (wr.alloc (.cells #[.int .i64 (gS L k).p, .int .i64 (gS L k).n] 35))) := hR.out.1.trans ((alloc_below' wr _).mono hR.out.1.size)
      have HF : Hid (fillF L (n : Int) = if (m : Int) < (gS L k).n then false else fillF (L.drop (k + 1)) ((m : Int) - max (gS L k).n 0)) := by
        show _ = _
        rw [hR.out.2, fillF_drop hlt]
      clear hR HA
      generalize (gS L k).p = P at *
      generalize (gS L k).n = N at *
      by_cases h1 : (m : Int) < N
      · have HE : Hid (fillF L (n : Int) = false) := by show _ = _; rw [HF.out, if_pos h1]
        clear HF
        go_wp2
        go_ret
        exact ⟨by rw [HE.out]; rfl, HB.out⟩
      · by_cases h2 : 0 ≤ N
        · obtain ⟨q, rfl⟩ := Int.eq_ofNat_of_zero_le h2
          have HE : Hid (fillF L (n : Int) = fillF (L.drop (k + 1)) ((m - q : Nat) : Int)) := by
            show _ = _
            rw [HF.out, if_neg h1, Int.max_eq_left h2, show (m : Int) - (q : Int) = ((m - q : Nat) : Int) by omega]
          have hqm : q ≤ m := by omega
          clear HF h2
          by_cases h3 : q = 0
          · subst h3
            go_wp2
            go_roundw
            case rel => exact ⟨k + 1, m, by omega, hm, by go_num, by go_num, HB.out, HE.out⟩
            case measure => simp [intOf]; omega
          · have h4 : (0 : Int) < (q : Int) := by omega
            go_wp2
            go_roundw
            case rel => exact ⟨k + 1, m - q, by omega, by omega, by go_num, by go_num, HB.out, HE.out⟩
            case measure => simp [intOf]; omega
        · have HE : Hid (fillF L (n : Int) = fillF (L.drop (k + 1)) (m : Int)) := by
            show _ = _
            rw [HF.out, if_neg h1, Int.max_eq_right (by omega), Int.sub_zero]
          have h3 : N < 0 := by omega
          clear HF
          go_wp2
          go_roundw
          case rel => exact ⟨k + 1, m, by omega, hm, by go_num, by go_num, HB.out, HE.out⟩
          case measure => simp [intOf]; omega
    · obtain rfl : k = L.length := by omega
      have HE : Hid (fillF L (n : Int) = ((m : Int) == 0)) := by
        show _ = _
        rw [hR.out.2, List.drop_length]; rfl
      have HW : Hid (Below w.heap.size w wr) := hR.out.1
      clear hlt hR HA
      go_wp2
      go_ret
      exact ⟨by rw [HE.out]; rfl, HW.out⟩
theorem fills_any (a : Option Addr) (cap n : Nat) (L : List Sg) (w : World) (hL : SL w a L) (hlen : L.length ≤ 9000000000000000000) (hn : n ≤ 9000000000000000000) :
    Calls Try.prog 23 #[.slice a L.length cap, .int .i64 (n : Nat)] w fun e w' => e = .returned (.bool (fillF L (n : Int))) ∧ Below w.heap.size w w' := by
  rcases hL with rfl | ⟨g, off, rfl, hat⟩
  · exact (fills_nil a cap n w).mono fun e w' ⟨h1, h2⟩ => ⟨h1, h2 ▸ Below.refl _ _⟩
  · exact fills_some g off cap n L w hat hlen hn
theorem Lies.take {w : World} {a : Option Addr} {bs : List Nat} (h : Lies w a bs) (k : Nat) : Lies w a (bs.take k) := by
  rcases h with h | ⟨b, off, rfl, h⟩
  · exact Or.inl (by rw [h, List.take_nil])
  · refine Or.inr ⟨b, off, rfl, fun i hi => ?_⟩
    rw [List.length_take] at hi
    rw [List.getElem?_take, if_pos (by omega)]
    exact h i (by omega)
theorem Lies.drop {w : World} {a : Option Addr} {bs : List Nat} {cap : Nat} (h : Lies w a bs) (k : Nat) (hc : bs.length ≤ cap) : Lies w (dropA a cap k) (bs.drop k) := by
  have := h.mid k bs.length hc
  rw [List.take_of_length_le (by rw [List.length_drop]; omega)] at this
  exact this
theorem dropA_blk {a : Option Addr} {cap k b : Nat} {off : Nat} (h : dropA a cap k = some ⟨b, off, none⟩) : blk a b := by
  unfold dropA at h
  split at h
  · exact ⟨_, h, rfl⟩
  · cases a with
    | none => cases h
    | some x =>
      refine ⟨x, rfl, ?_⟩
      have e : x.add k = ⟨b, off, none⟩ := Option.some.inj h
      have e2 : (x.add k).block = x.block := by unfold Addr.add; split <;> rfl
      rw [← e2, e]
/-- Bytes that lie elsewhere than in block hb. -/
structure DIn (w : World) (hb : Nat) (a : Option Addr) (cap : Nat) (D : List Nat) : Prop where
  lies : Lies w a D
  all : AllB D
  cap : D.length ≤ cap
  ne : ∀ b off, D ≠ [] → a = some ⟨b, off, none⟩ → b ≠ hb
theorem DIn.keep {S : Nat → Prop} {w w' : World} {hb : Nat} {a : Option Addr} {cap : Nat} {D : List Nat} (h : DIn w hb a cap D) (hk : Keep S w w') (hs : ∀ b, S b → b = hb) : DIn w' hb a cap D :=
  ⟨h.lies.keep hk (fun b off h1 h2 c => h.ne b off h1 h2 (hs b c)), h.all, h.cap, h.ne⟩
theorem DIn.drop {w : World} {hb : Nat} {a : Option Addr} {cap : Nat} {D : List Nat} (h : DIn w hb a cap D) (k : Nat) : DIn w hb (dropA a cap k) (cap - k) (D.drop k) := by
  refine ⟨h.lies.drop k h.cap, h.all.drop k, by rw [List.length_drop]; have := h.cap; omega, fun b off h1 h2 => ?_⟩
  have hD : D ≠ [] := fun e => h1 (by rw [e, List.drop_nil])
  obtain ⟨x, e, hx⟩ := dropA_blk h2
  rcases h.lies with h3 | ⟨b', off', e', _⟩
  · exact absurd h3 hD
  · rw [e] at e'
    cases e'
    have := h.ne b' off' hD e
    rw [← hx]; exact this
/-- What Scatter gives. -/
def ScatPost (w w' : World) (e : Ending) (mb hb : Nat) (l : List Nat) (L : List Sg) (D : List Nat) : Prop :=
  (fillF L (D.length : Int) = false ∧ e = .returned (.iface 48 (.int .i64 2)) ∧ Below w.heap.size w w') ∨
  (fillF L (D.length : Int) = true ∧ allF l.length L = false ∧ e = .returned (.iface 48 (.int .i64 1)) ∧ Below w.heap.size w w') ∨
  (fillF L (D.length : Int) = true ∧ allF l.length L = true ∧ e = .returned .nilIface ∧ MW w' mb hb (scat l L D) ∧ Keep (fun b => b = hb) w w')
set_option maxRecDepth 20000 in
set_option maxHeartbeats 1600000 in
theorem scatter_shape (mb hb : Nat) (l : List Nat) (a da : Option Addr) (cap dc : Nat) (L : List Sg) (D : List Nat) (w : World) (hL : SL w a L) (hl2 : L.length ≤ 9000000000000000000) (hd : D.length ≤ 140737488355328) (hf : fillF L (D.length : Int) = false) :
    Calls Try.prog 8 #[.pointer (some ⟨mb, 0, none⟩), .slice a L.length cap, .slice da D.length dc] w fun e w' => ScatPost w w' e mb hb l L D := by
  have HP := present_any mb w
  have HFi : Hid (Calls Try.prog 23 #[.slice a L.length cap, .int .i64 (D.length : Nat)] w fun e w' => e = .returned (.bool false) ∧ Below w.heap.size w w') := by
    have := fills_any a cap D.length L w hL hl2 (by omega)
    rw [hf] at this
    exact this
  have HD : Hid (∀ w', Below w.heap.size w w' → ScatPost w w' (.returned (.iface 48 (.int .i64 2))) mb hb l L D) := fun w' hb' => .inl ⟨hf, rfl, hb'⟩
  clear hL hf
  go_enter Try.func8, Try.ntmps8
  go_wp2_with fail
  refine HP.mono ?_
  rintro e w' ⟨rfl, rfl⟩
  go_wp2_with fail
  refine HFi.out.mono ?_
  rintro e w' ⟨rfl, hW⟩
  have HE := HD.out w' hW
  clear HP HFi HD hW
  go_wp2
  go_ret
  exact HE
set_option maxRecDepth 20000 in
set_option maxHeartbeats 1600000 in
theorem scatter_range (mb hb : Nat) (l : List Nat) (a da : Option Addr) (cap dc : Nat) (L : List Sg) (D : List Nat) (w : World) (h : MW w mb hb l) (hL : SL w a L) (hok : OkS L) (hl2 : L.length ≤ 9000000000000000000) (hd : D.length ≤ 140737488355328) (hf : fillF L (D.length : Int) = true) (hf2 : allF l.length L = false) :
    Calls Try.prog 8 #[.pointer (some ⟨mb, 0, none⟩), .slice a L.length cap, .slice da D.length dc] w fun e w' => ScatPost w w' e mb hb l L D := by
  have HP := present_any mb w
  have HFi : Hid (Calls Try.prog 23 #[.slice a L.length cap, .int .i64 (D.length : Nat)] w fun e w' => e = .returned (.bool true) ∧ Below w.heap.size w w') := by
    have := fills_any a cap D.length L w hL hl2 (by omega)
    rw [hf] at this
    exact this
  have HA : Hid (∀ wz, Below w.heap.size w wz → Calls Try.prog 24 #[.pointer (some ⟨mb, 0, none⟩), .slice a L.length cap] wz fun e w' => e = .returned (.bool false) ∧ Below w.heap.size w w') := fun wz hz => by
    have := allLie_any mb hb l a cap L wz (h.below hz) (hL.below hz) hok hl2
    rw [hf2] at this
    exact this.mono fun e w' ⟨q1, q2⟩ => ⟨q1, hz.trans (q2.mono hz.size)⟩
  have HD : Hid (∀ w', Below w.heap.size w w' → ScatPost w w' (.returned (.iface 48 (.int .i64 1))) mb hb l L D) := fun w' hb' => .inr (.inl ⟨hf, hf2, rfl, hb'⟩)
  clear hL hf hf2 h hok
  go_enter Try.func8, Try.ntmps8
  go_wp2_with fail
  refine HP.mono ?_
  rintro e w' ⟨rfl, rfl⟩
  go_wp2_with fail
  refine HFi.out.mono ?_
  rintro e w1 ⟨rfl, hW⟩
  have HA1 := HA.out w1 hW
  clear HP HFi hW HA
  go_wp2_with fail
  refine HA1.mono ?_
  rintro e w2 ⟨rfl, hW⟩
  have HE := HD.out w2 hW
  clear HA1 HD hW
  go_wp2
  go_ret
  exact HE
/-- While Scatter goes. -/
structure SI (w wr : World) (mb hb : Nat) (N : Nat) (R : List Nat) (L : List Sg) (k : Nat) (l : List Nat) (a : Option Addr) (cap : Nat) (D : List Nat) : Prop where
  mw : MW wr mb hb l
  kp : Keep (fun b => b = hb) w wr
  dn : DIn wr hb a cap D
  len : l.length = N
  eq : R = scat l (L.drop k) D
  fl : fillF (L.drop k) (D.length : Int) = true
theorem SI.seg {w wr : World} {mb hb N : Nat} {R : List Nat} {L : List Sg} {k : Nat} {l : List Nat} {a : Option Addr} {cap : Nat} {D : List Nat} (h : SI w wr mb hb N R L k l a cap D) (hlt : k < L.length) {P n : Nat} (hp : (gS L k).p = (P : Int)) (hn : (gS L k).n = (n : Int)) :
    n ≤ D.length ∧ fillF (L.drop (k + 1)) ((D.drop n).length : Int) = true ∧ R = scat (lay l P (D.take n)) (L.drop (k + 1)) (D.drop n) := by
  have h1 := h.fl
  rw [fillF_drop hlt, hn] at h1
  split at h1
  · cases h1
  · have hle : n ≤ D.length := by omega
    refine ⟨hle, ?_, ?_⟩
    · rw [Int.max_eq_left (by omega)] at h1
      rw [List.length_drop, show ((D.length - n : Nat) : Int) = (D.length : Int) - (n : Int) by omega]
      exact h1
    · have := h.eq
      rw [scat_drop hlt, hp, hn, Int.toNat_natCast, Int.toNat_natCast] at this
      exact this
/-- What Write gives of the next segment. -/
theorem SI.write {w wr : World} {mb hb N : Nat} {R : List Nat} {L : List Sg} {k : Nat} {l : List Nat} {a : Option Addr} {cap : Nat} {D : List Nat} (h : SI w wr mb hb N R L k l a cap D) (hlt : k < L.length) {P n : Nat} (hp : (gS L k).p = (P : Int)) (hn : (gS L k).n = (n : Int)) (hf : P + n ≤ N) (hw : hb < w.heap.size) (wz : World) (hz : Below wr.heap.size wr wz) :
    Calls Try.prog 13 #[.pointer (some ⟨mb, 0, none⟩), .int .i64 (P : Nat), .slice a n cap] wz fun e w' => e = .returned .nilIface ∧ SI w w' mb hb N R L (k + 1) (lay l P (D.take n)) (dropA a cap n) (cap - n) (D.drop n) ∧ Keep (fun b => b = hb) wz w' := by
  obtain ⟨h1, h2, h3⟩ := h.seg hlt hp hn
  have hkz : Keep (fun b => b = hb) wr wz := Keep.of_below hz
  have hd := h.dn.keep hkz (fun b e => e)
  have htl : (D.take n).length = n := by rw [List.length_take]; omega
  have := write_yes mb hb l P a (D.take n) cap wz (h.mw.below hz) (hd.lies.take n) (hd.all.take n) (by rw [htl, h.len]; exact hf)
  rw [htl] at this
  refine this.mono ?_
  rintro e w' ⟨q1, q2, q3⟩
  refine ⟨q1, ⟨q2, h.kp.trans (hkz.trans q3), (hd.keep q3 (fun b e => e)).drop n, ?_, h3, h2⟩, q3⟩
  rw [lay_len (by rw [htl, h.len]; exact hf)]
  exact h.len
set_option maxRecDepth 20000 in
set_option maxHeartbeats 3200000 in
theorem scatter_some (mb hb : Nat) (l : List Nat) (g off : Nat) (da : Option Addr) (cap dc : Nat) (L : List Sg) (D : List Nat) (w : World) (h : MW w mb hb l) (hat : ∀ i, i < L.length → SgAt w g off i (gS L i)) (hgb : g ≠ hb) (hok : OkS L) (hD : DIn w hb da dc D) (hl2 : L.length ≤ 9000000000000000000) (hd : D.length ≤ 140737488355328) (hf : fillF L (D.length : Int) = true) (hf2 : allF l.length L = true) :
    Calls Try.prog 8 #[.pointer (some ⟨mb, 0, none⟩), .slice (some ⟨g, off, none⟩) L.length cap, .slice da D.length dc] w fun e w' => ScatPost w w' e mb hb l L D := by
  have HP := present_any mb w
  have HFi : Hid (Calls Try.prog 23 #[.slice (some ⟨g, off, none⟩) L.length cap, .int .i64 (D.length : Nat)] w fun e w' => e = .returned (.bool true) ∧ Below w.heap.size w w') := by
    have := fills_any (some ⟨g, off, none⟩) cap D.length L w (.inr ⟨g, off, rfl, hat⟩) hl2 (by omega)
    rw [hf] at this
    exact this
  have HA : Hid (∀ wz, Below w.heap.size w wz → Calls Try.prog 24 #[.pointer (some ⟨mb, 0, none⟩), .slice (some ⟨g, off, none⟩) L.length cap] wz fun e w' => e = .returned (.bool true) ∧ Below w.heap.size w w') := fun wz hz => by
    have := allLie_any mb hb l (some ⟨g, off, none⟩) cap L wz (h.below hz) (SL.below (w := w) (.inr ⟨g, off, rfl, hat⟩) hz) hok hl2
    rw [hf2] at this
    exact this.mono fun e w' ⟨q1, q2⟩ => ⟨q1, hz.trans (q2.mono hz.size)⟩
  have HC : Hid (∀ wr, Keep (fun b => b = hb) w wr → ∀ i, i < L.length → SgAt wr g off i (gS L i)) := fun wr hk i hi => (hat i hi).keep hk hgb
  have HFt : Hid (∀ k, k < L.length → fits l.length (gS L k).p (gS L k).n) := allF_at hf2
  have H0 : Hid (∀ wz, Below w.heap.size w wz → SI w wz mb hb l.length (scat l L D) L 0 l da dc D) := fun wz hz => ⟨h.below hz, Keep.of_below hz, hD.keep (S := fun _ => False) (Keep.of_below hz) (fun b e => e.elim), rfl, rfl, hf⟩
  have HD : Hid (∀ w', MW w' mb hb (scat l L D) → Keep (fun b => b = hb) w w' → ScatPost w w' (.returned .nilIface) mb hb l L D) := fun w' q1 q2 => .inr (.inr ⟨hf, hf2, rfl, q1, q2⟩)
  have Hlt : Hid (hb < w.heap.size) := h.lt.2
  clear hat hf hf2 h hok hD
  generalize scat l L D = R at *
  go_enter Try.func8, Try.ntmps8
  go_wp2_with fail
  refine HP.mono ?_
  rintro e w' ⟨rfl, rfl⟩
  go_wp2_with fail
  refine HFi.out.mono ?_
  rintro e w1 ⟨rfl, hW⟩
  have HA1 := HA.out w1 hW
  clear HP HFi hW HA
  go_wp2_with fail
  refine HA1.mono ?_
  rintro e w2 ⟨rfl, hW⟩
  have H1 : Hid (SI w w2 mb hb l.length R L 0 l da dc D) := H0.out w2 hW
  clear HA1 H0 hW
  go_wp2
  go_loopw [2, 25] (fun v j wr => ∃ (k : Nat) (a : Option Addr) (cap : Nat) (D' l' : List Nat), k ≤ L.length ∧ D'.length ≤ 140737488355328 ∧ j = .int .i64 k ∧ v = .slice a D'.length cap ∧ Hid (SI w wr mb hb l.length R L k l' a cap D')) (fun _ j _ => L.length - (intOf j).toNat)
  case atStart => exact ⟨0, da, dc, D, l, Nat.zero_le _, hd, rfl, rfl, H1.out⟩
  case round =>
    obtain ⟨k, a, cap', D', l', hk, hdl, rfl, rfl, hR⟩ := hrel
    clear H1
    by_cases hlt : k < L.length
    · obtain ⟨c0, c1⟩ := HC.out wr hR.out.kp k hlt
      have k0 : (0 : Int) ≤ (k : Int) := by omega
      have k1 : (k : Int) < (L.length : Int) := by omega
      obtain ⟨f1, f2, f3⟩ := HFt.out k hlt
      obtain ⟨P, hP⟩ := Int.eq_ofNat_of_zero_le f1
      obtain ⟨n, hn⟩ := Int.eq_ofNat_of_zero_le f2
      rw [hP] at c0 f3
      rw [hn] at c1 f3
      have hnD : n ≤ D'.length := (hR.out.seg hlt hP hn).1
      have hDc : D'.length ≤ cap' := hR.out.dn.cap
      have hsl1 := fun wz => slice_toN a D'.length cap' n (by omega) wz
      have hsl2 := fun wz => slice_fromN a D'.length cap' n hnD hDc wz
      have HS0 : Hid (∀ x, (fun w' : World => w'.cell? ⟨wr.heap.size, 0, none⟩ = some (.int .i64 (P : Nat)) ∧ w'.cell? ⟨wr.heap.size, 1, none⟩ = some (.int .i64 (n : Nat))) ((wr.alloc (.cells #[.int .i64 (P : Nat), .int .i64 (n : Nat)] 35)).drewN x)) := fun x => ⟨by simp, by simp⟩
      have HWr : Hid (∀ x, Calls Try.prog 13 #[.pointer (some ⟨mb, 0, none⟩), .int .i64 (P : Nat), .slice a n cap'] ((wr.alloc (.cells #[.int .i64 (P : Nat), .int .i64 (n : Nat)] 35)).drewN x) fun e w' => e = .returned .nilIface ∧ SI w w' mb hb l.length R L (k + 1) (lay l' P (D'.take n)) (dropA a cap' n) (cap' - n) (D'.drop n) ∧ (w'.cell? ⟨wr.heap.size, 0, none⟩ = some (.int .i64 (P : Nat)) ∧ w'.cell? ⟨wr.heap.size, 1, none⟩ = some (.int .i64 (n : Nat)))) := fun x => by
        refine (hR.out.write hlt hP hn (by omega) Hlt.out _ (below_drewN (alloc_below' wr _) x)).mono ?_
        rintro e w' ⟨q1, q2, q3⟩
        have hne : ¬ wr.heap.size = hb := by have := hR.out.mw.lt.2; omega
        refine ⟨q1, q2, ?_, ?_⟩
        · rw [q3.cell (p := ⟨wr.heap.size, 0, none⟩) (by simp) hne]; exact (HS0.out x).1
        · rw [q3.cell (p := ⟨wr.heap.size, 1, none⟩) (by simp) hne]; exact (HS0.out x).2
      have HDl : Hid ((D'.drop n).length = D'.length - n ∧ (D'.drop n).length ≤ 140737488355328) := ⟨List.length_drop, by rw [List.length_drop]; omega⟩
      clear hR f1 f2 f3 hP hn HFt HC hDc
      generalize lay l' P (D'.take n) = l2 at *
      generalize D'.drop n = D2 at *
      generalize dropA a cap' n = a2 at *
      go_wp2
      go_region_held3 (fun w' => w'.cell? ⟨wr.heap.size, 0, none⟩ = some (.int .i64 (P : Nat)) ∧ w'.cell? ⟨wr.heap.size, 1, none⟩ = some (.int .i64 (n : Nat))) (first | exact HS0.out _ | exact HS0.out 0 | exact ⟨s0, s1⟩ | assumption | go_keep) (first | (go_at_call 13; refine (HWr.out _).mono ?_; rintro e w3 ⟨rfl, hS, s0, s1⟩))
      have HS : Hid (SI w w3 mb hb l.length R L (k + 1) l2 a2 (cap' - n) D2) := hS
      clear HWr HS0 hS
      go_wp2
      go_roundw
      case rel => exact ⟨k + 1, a2, cap' - n, D2, l2, by omega, HDl.out.2, by go_num, by rw [HDl.out.1], HS.out⟩
      case measure => simp [intOf]; omega
    · obtain rfl : k = L.length := by omega
      have HE := HD.out wr (by
        have := hR.out.mw
        have e := hR.out.eq
        rw [List.drop_length] at e
        rw [e]; exact this) hR.out.kp
      clear hlt hR HD HC HFt
      go_wp2
      go_ret
      exact HE
set_option maxRecDepth 20000 in
set_option maxHeartbeats 1600000 in
theorem scatter_nil (mb hb : Nat) (l : List Nat) (a da : Option Addr) (cap dc : Nat) (w : World) (h : MW w mb hb l) :
    Calls Try.prog 8 #[.pointer (some ⟨mb, 0, none⟩), .slice a 0 cap, .slice da 0 dc] w fun e w' => ScatPost w w' e mb hb l [] [] := by
  have HP := present_any mb w
  have HFi : Hid (Calls Try.prog 23 #[.slice a 0 cap, .int .i64 0] w fun e w' => e = .returned (.bool true) ∧ w = w') := fills_nil a cap 0 w
  have HA := allLie_nil (.pointer (some ⟨mb, 0, none⟩)) a cap w
  have HD : Hid (ScatPost w w (.returned .nilIface) mb hb l [] []) := .inr (.inr ⟨rfl, rfl, rfl, h, Keep.refl _ _⟩)
  clear h
  go_enter Try.func8, Try.ntmps8
  go_wp2_with fail
  refine HP.mono ?_
  rintro e w' ⟨rfl, rfl⟩
  go_wp2_with fail
  refine HFi.out.mono ?_
  rintro e w1 ⟨rfl, rfl⟩
  go_wp2_with fail
  refine HA.mono ?_
  rintro e w2 ⟨rfl, rfl⟩
  clear HP HFi HA
  go_wp2
  go_loop [2, 25] (fun v j => v = .slice da 0 dc ∧ j = .int .i64 0) (fun _ _ => 0)
  case atStart => exact ⟨rfl, rfl⟩
  case round =>
    obtain ⟨rfl, rfl⟩ := hrel
    go_wp2
    go_ret
    exact HD.out
theorem scatter_any (mb hb : Nat) (l : List Nat) (a da : Option Addr) (cap dc : Nat) (L : List Sg) (D : List Nat) (w : World) (h : MW w mb hb l) (hL : SL w a L) (hgb : ∀ b, blk a b → 0 < L.length → b ≠ hb) (hok : OkS L) (hD : DIn w hb da dc D) (hl2 : L.length ≤ 9000000000000000000) (hd : D.length ≤ 140737488355328) :
    Calls Try.prog 8 #[.pointer (some ⟨mb, 0, none⟩), .slice a L.length cap, .slice da D.length dc] w fun e w' => ScatPost w w' e mb hb l L D := by
  cases hf : fillF L (D.length : Int) with
  | false => exact scatter_shape mb hb l a da cap dc L D w hL hl2 hd hf
  | true =>
    cases hf2 : allF l.length L with
    | false => exact scatter_range mb hb l a da cap dc L D w h hL hok hl2 hd hf hf2
    | true =>
      by_cases h0 : L = []
      · subst h0
        have : D = [] := by
          have h1 : (D.length : Int) = 0 := of_decide_eq_true hf
          exact List.eq_nil_of_length_eq_zero (by omega)
        subst this
        exact scatter_nil mb hb l a da cap dc w h
      · have hp : 0 < L.length := List.length_pos_iff.2 h0
        obtain ⟨g, off, rfl, hat⟩ := hL.some_of hp
        exact scatter_some mb hb l g off da cap dc L D w h hat (hgb g ⟨_, rfl, rfl⟩ hp) hok hD hl2 hd hf hf2
end Go.Proofs.Ytdkafcgangcgbaj

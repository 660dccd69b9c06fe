/-
  What the call of a seer's Take gives.
-/
import Derived.Test.YtnfjfffchhiooaaPost2
import Derived.Test.YtnfjfffchhiooaaInts
namespace Go.Proofs.Ytnfjfffchhiooaa
open Go.RowKit
set_option linter.unusedVariables false

/-- PHASES LIE THERE. -/
def BR (w : World) (g off n : Nat) (ph : Nat → Bool) : Prop := ∀ i, i < n → w.cell? ⟨g, off + i, none⟩ = some (.bool (ph i))
theorem BR.keep {S : Nat → Prop} {w w' : World} {g off n : Nat} {ph : Nat → Bool} (h : BR w g off n ph) (hk : Keep S w w') (hs : ¬ S g) : BR w' g off n ph :=
  fun i hi => (hk.cell (p := ⟨g, off + i, none⟩) (World.block_lt_of_cell? w _ (h i hi)) hs).trans (h i hi)
theorem BR.below {w w' : World} {g off n : Nat} {ph : Nat → Bool} (h : BR w g off n ph) (hb : Below w.heap.size w w') : BR w' g off n ph :=
  h.keep (S := fun _ => False) (Keep.of_below hb) (fun e => e)
set_option maxHeartbeats 800000 in
theorem take_no {w : World} {T : TypeId} {n pb sb h q : Nat} (r : PV w T n pb sb h q) (a : Option Addr) (L c : Nat) (hL : L ≤ 9223372036854775807) (hl : ¬ L = n) :
    Calls Try.prog 7 #[.pointer (some ⟨pb, 0, none⟩), .slice a L c] w fun e w' => e = .returned (.tuple #[.slice none 0 0, .iface 51 (.int .i64 2)]) ∧ w' = w := by
  have c0 : w.cell? ⟨pb, 0, none⟩ = some (.slice (some ⟨sb, 0, none⟩) n n) := r.st.cell 0
  have ht : (((L : Nat) : Int) != ((n : Nat) : Int)) = true := by simp; omega
  clear r hl
  go_enter Try.func7, Try.ntmps7
  go_wp2
  go_ret2
  exact ⟨rfl, rfl⟩
/-- How long a slice is. -/
def slN : Value → Nat
  | .slice _ k _ => k
  | _ => 0
theorem slN_slice (a : Option Addr) (k c : Nat) : slN (.slice a k c) = k := rfl
/-- While it takes. -/
structure TS (w wr : World) (T : TypeId) (n pb sb g off q k cap : Nat) (a : Option Addr) (ph : Nat → Bool) : Prop where
  pv : PV wr T n pb sb (q % n) (q + k)
  br : BR wr g off n ph
  own : OwnI wr w.heap.size a cap (tkL n q k)
  keep : Keep (fun b => b = pb) w wr
  all : ∀ i, i < k → ph ((q + i) % n) = phs n (q + i)
  lt : pb < w.heap.size
  gp : ¬ g = pb
  gl : g < w.heap.size
theorem TS.drewN {w wr : World} {T : TypeId} {n pb sb g off q k cap : Nat} {a : Option Addr} {ph : Nat → Bool} (h : TS w wr T n pb sb g off q k cap a ph) (x : Nat) : TS w (wr.drewN x) T n pb sb g off q k cap a ph :=
  have hb : Below wr.heap.size wr (wr.drewN x) := below_drewN (Below.refl _ _) x
  ⟨h.pv.below hb, h.br.below hb, h.own.below hb, h.keep.drewN x, h.all, h.lt, h.gp, h.gl⟩
/-- What Take gives. -/
def TPost (w w' : World) (e : Ending) (T : TypeId) (n pb sb q : Nat) (ph : Nat → Bool) : Prop :=
  ∃ k a cap, Tk n ph q k ∧ e = .returned (.tuple #[.slice a k cap, .nilIface]) ∧ OwnI w' w.heap.size a cap (tkL n q k) ∧ PV w' T n pb sb ((q + k) % n) (q + k) ∧ Keep (fun b => b = pb) w w'
theorem TS.fin {w wr : World} {T : TypeId} {n pb sb g off q k cap : Nat} {a : Option Addr} {ph : Nat → Bool} (h : TS w wr T n pb sb g off q k cap a ph) (hk : k ≤ n - 1) (hs : k = n - 1 ∨ ¬ ph ((q + k) % n) = phs n (q + k)) :
    (∃ u, wr.cell? ⟨pb, 1, none⟩ = some u) ∧ wr.cell? ⟨pb, 2, none⟩ = some (.int .i64 ((q + k) % n : Nat)) ∧ wr.frozen? ⟨pb, 1, none⟩ = false ∧ TPost w (wr.setCell ⟨pb, 1, none⟩ (.int .i64 ((q + k) % n : Nat))) (.returned (.tuple #[.slice a k cap, .nilIface])) T n pb sb q ph := by
  refine ⟨⟨_, h.pv.st.cell 1⟩, h.pv.st.cell 2, h.pv.st.free 1, k, a, cap, ⟨hk, h.all, hs⟩, rfl, ?_, ?_, h.keep.set1 1 _⟩
  · refine h.own.keep ((Keep.refl (fun b => b = pb) wr).set1 1 _) (fun b hb e => ?_)
    have := (h.own.blk hb).1
    have := h.lt
    omega
  · exact ⟨h.pv.st.set 1 _, h.pv.ht, h.pv.ht, h.pv.n2, h.pv.nm⟩
theorem TS.own1 {w wr w1 : World} {T : TypeId} {n pb sb g off q k cap : Nat} {a : Option Addr} {ph : Nat → Bool} (h : TS w wr T n pb sb g off q k cap a ph) (hk : Keep (fun b => b = pb) wr w1) (o : Obj) : OwnI (w1.alloc o) w.heap.size a cap (tkL n q k) ∧ w.heap.size ≤ (w1.alloc o).heap.size := by
  have hlt := h.lt
  have ho : OwnI w1 w.heap.size a cap (tkL n q k) := h.own.keep hk (fun b hb e => by have := (h.own.blk hb).1; omega)
  refine ⟨ho.below (alloc_below' _ _), ?_⟩
  have h1 := h.keep.size
  have h2 := hk.size
  simp
  omega
theorem TS.more {w wr w1 w2 : World} {T : TypeId} {n pb sb g off q k cap c1 : Nat} {a a1 : Option Addr} {ph : Nat → Bool} (h : TS w wr T n pb sb g off q k cap a ph) (hm : ph ((q + k) % n) = phs n (q + k)) (hp : PV w1 T n pb sb (q % n) (q + k + 1)) (hk : Keep (fun b => b = pb) wr w1)
    (o : Obj) (ho2 : OwnI w2 w.heap.size a1 c1 (tkL n q (k + 1))) (hk2 : Keep (blk a) (w1.alloc o) w2) : TS w w2 T n pb sb g off q (k + 1) c1 a1 ph := by
  have hlt := h.lt
  have hgl := h.gl
  have hnb : ∀ b, blk a b → w.heap.size ≤ b := fun b hb => (h.own.blk hb).1
  have k1 : Keep (blk a) w1 w2 := ((Keep.refl _ w1).alloc o).trans hk2
  refine ⟨hp.keep k1 (fun e => by have := hnb _ e; omega), (h.br.keep hk h.gp).keep k1 (fun e => by have := hnb _ e; omega), ho2, ?_, ?_, hlt, h.gp, hgl⟩
  · refine (h.keep.trans hk).thru k1 (fun i hi e => ?_)
    have := hnb _ e
    omega
  · intro i hi
    by_cases e : i = k
    · subst e; exact hm
    · exact h.all i (by omega)
set_option maxRecDepth 100000 in
set_option maxHeartbeats 3200000 in
theorem take_yes {w : World} {T : TypeId} {n pb sb g off q c : Nat} {ph : Nat → Bool} (r : PV w T n pb sb (q % n) q) (hb : BR w g off n ph) (hg : ¬ g = pb) :
    Calls Try.prog 7 #[.pointer (some ⟨pb, 0, none⟩), .slice (some ⟨g, off, none⟩) n c] w fun e w' => TPost w w' e T n pb sb q ph := by
  have c0 : w.cell? ⟨pb, 0, none⟩ = some (.slice (some ⟨sb, 0, none⟩) n n) := r.st.cell 0
  have hn2 := r.n2
  have hnm := r.nm
  have ht : (((n : Nat) : Int) != ((n : Nat) : Int)) = false := by simp
  have H0 : Hid (TS w w T n pb sb g off q 0 0 none ph) := ⟨r, hb, OwnI.nil _ _, Keep.refl _ _, fun i hi => by omega, heap_lt r.st, hg, World.block_lt_of_cell? w _ (hb 0 (by omega))⟩
  clear r hb hg
  go_enter Try.func7, Try.ntmps7
  go_wp2
  go_loopw [6] (fun v wq => ∃ (k cap : Nat) (a : Option Addr), k ≤ n - 1 ∧ v = .slice a k cap ∧ Hid (TS w wq T n pb sb g off q k cap a ph)) (fun v _ => n - slN v)
  case atStart => exact ⟨0, 0, none, Nat.zero_le _, rfl, H0.out⟩
  case round =>
    obtain ⟨k, cap, a, hk, rfl, hR⟩ := hrel
    clear H0 c0
    obtain ⟨t, HT⟩ : ∃ t : Nat, Hid ((q + k) % n = t) := ⟨_, rfl⟩
    obtain ⟨f, HP⟩ : ∃ f : Bool, Hid (phs n (q + k) = f) := ⟨_, rfl⟩
    have c2 : wr.cell? ⟨pb, 2, none⟩ = some (.int .i64 (t : Nat)) := by rw [← HT.out]; exact hR.out.pv.st.cell 2
    have c3 : wr.cell? ⟨pb, 3, none⟩ = some (.bool f) := by rw [← HP.out]; exact hR.out.pv.st.cell 3
    have htl : t < n := by rw [← HT.out]; exact hR.out.pv.ht
    have cp : wr.cell? ⟨g, off + t, none⟩ = some (.bool (ph t)) := hR.out.br _ htl
    by_cases hm : ph t = f
    · have HM : Hid (ph ((q + k) % n) = phs n (q + k)) := by rw [HT.out, HP.out]; exact hm
      by_cases hf : k = n - 1
      · have HC : Hid (∀ x, Calls Try.prog 10 #[.pointer (some ⟨pb, 0, none⟩)] (wr.drewN x) fun e w' => e = .returned (.tuple #[.int .i64 0, .bool false, .iface 51 (.int .i64 3)]) ∧ Hid (TS w w' T n pb sb g off q k cap a ph)) := fun x => by
          have hR' := hR.out.drewN x
          refine (goOn_full hR'.pv ((full_iff hn2 (by omega)).2 hf)).mono ?_
          rintro e w' ⟨he, hb⟩
          exact ⟨he, ⟨hR'.pv.below hb, hR'.br.below hb, hR'.own.below hb, hR'.keep.trans (Keep.of_below hb), hR'.all, hR'.lt, hR'.gp, hR'.gl⟩⟩
        have HF : Hid (k ≤ n - 1 ∧ k = n - 1) := ⟨hk, hf⟩
        rw [hm] at cp
        clear hf hR hm hk
        go_wp2
        go_quiet (fail)
        go_wp2_with fail
        refine (HC.out _).mono ?_
        rintro e w1 ⟨rfl, h1⟩
        obtain ⟨⟨u, d1⟩, d2, d3, d4⟩ := h1.out.fin HF.out.1 (Or.inl HF.out.2)
        rw [HT.out] at d2 d4
        have H4 : Hid (TPost w (w1.setCell ⟨pb, 1, none⟩ (.int .i64 (t : Nat))) (.returned (.tuple #[.slice a k cap, .nilIface])) T n pb sb q ph) := d4
        clear HC d4 h1 c2 c3 cp
        go_wp2
        go_ret2
        exact H4.out
      · have HC : Hid (∀ x, Calls Try.prog 10 #[.pointer (some ⟨pb, 0, none⟩)] (wr.drewN x) fun e w' => e = .returned (.tuple #[.int .i64 (t : Nat), .bool f, .nilIface]) ∧ PV w' T n pb sb (q % n) (q + k + 1) ∧ Keep (fun b => b = pb) wr w') := fun x => by
          have hR' := hR.out.drewN x
          have e := goOn_room hR'.pv (fun e => hf ((full_iff hn2 (by omega)).1 e))
          rw [HT.out, HP.out] at e
          exact e.mono fun e w' ⟨he, h1, h2⟩ => ⟨he, h1, ((Keep.refl _ wr).drewN x).trans h2⟩
        have HF : Hid (k + 1 ≤ n - 1) := by show _ ≤ _; omega
        have hlk : k < n := by omega
        rw [hm] at cp
        clear hf hm hk
        go_wp2
        go_quiet (fail)
        go_wp2_with fail
        refine (HC.out _).mono ?_
        rintro e w1 ⟨rfl, h1, h2⟩
        have HO : Hid (∀ o, OwnI (w1.alloc o) w.heap.size a cap (tkL n q k) ∧ w.heap.size ≤ (w1.alloc o).heap.size) := fun o => hR.out.own1 h2 o
        have HMo : Hid (∀ (o : Obj) (a1 : Option Addr) (c1 : Nat) (w2 : World), OwnI w2 w.heap.size a1 c1 (tkL n q (k + 1)) → Keep (blk a) (w1.alloc o) w2 → TS w w2 T n pb sb g off q (k + 1) c1 a1 ph) := fun o a1 c1 w2 ho2 hk2 => hR.out.more HM.out h1 h2 o ho2 hk2
        have HTk : Hid (tkL n q (k + 1) = tkL n q k ++ [(t : Int)]) := by show _ = _; rw [tkL_succ, HT.out]
        have HLk : Hid ((tkL n q k).length = k ∧ (tkL n q (k + 1)).length = k + 1) := ⟨tkL_len, tkL_len⟩
        clear HC hR h1 h2 c2 c3 cp HM HP HT
        generalize tkL n q k = ys at *
        generalize tkL n q (k + 1) = zs at *
        go_wp2_with (at_builtin; refine app_stepI rfl (.tmp 46) (.tmp 48) rfl w.heap.size a cap ys (by rw [HLk.out.1]; rfl) (HO.out _).1 (some ⟨w1.heap.size, 0, none⟩) 1 1 [(t : Int)] rfl (by rfl) (fun e => by cases e) (il_one w1 _) zs HTk.out (by rw [HLk.out.2]; omega) (HO.out _).2 ?_; intro a1 c1 w2 ho hk2; have HF2 : Hid (TS w w2 T n pb sb g off q (k + 1) c1 a1 ph) := HMo.out _ a1 c1 w2 ho hk2; clear ho hk2 HMo HO)
        have e1 := HLk.out.2
        rw [e1]
        exact ⟨⟨k + 1, c1, a1, HF.out, rfl, HF2.out⟩, by simp [slN]; omega⟩
    · have hd : (ph t == f) = false := by simp [hm]
      have HX : Hid (∀ x, (∃ u, (wr.drewN x).cell? ⟨pb, 1, none⟩ = some u) ∧ (wr.drewN x).frozen? ⟨pb, 1, none⟩ = false ∧ TPost w ((wr.drewN x).setCell ⟨pb, 1, none⟩ (.int .i64 (t : Nat))) (.returned (.tuple #[.slice a k cap, .nilIface])) T n pb sb q ph) := fun x => by
        obtain ⟨d1, d2, d3, d4⟩ := (hR.out.drewN x).fin hk (Or.inr (by rw [HT.out, HP.out]; exact hm))
        rw [HT.out] at d4
        exact ⟨d1, d3, d4⟩
      clear hR hm HT HP hk
      go_wp2
      go_quiet (fail)
      obtain ⟨⟨u, d1⟩, d3, d4⟩ := HX.out nq
      have H4 : Hid (TPost w ((wr.drewN nq).setCell ⟨pb, 1, none⟩ (.int .i64 (t : Nat))) (.returned (.tuple #[.slice a k cap, .nilIface])) T n pb sb q ph) := d4
      clear d4 HX
      go_wp2
      go_ret2
      exact H4.out
end Go.Proofs.Ytnfjfffchhiooaa

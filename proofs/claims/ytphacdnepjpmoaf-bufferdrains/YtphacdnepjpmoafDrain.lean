/-
  What the call of Drain gives.
-/
import Derived.Test.YtphacdnepjpmoafCall
namespace Go.Proofs.Ytphacdnepjpmoaf
open Go.RowKit Go.Maps
set_option linter.unusedVariables false

def lenV : Value → Nat
  | .slice _ n _ => n
  | _ => 0
def rnOf (x : Nd) : RN := ⟨x.it, x.a, x.cap⟩
theorem Apart.grow {B : Nat} {S : Nat → Prop} {w w1 w2 : World} (h : Apart B w w1) (hk : Keep S w1 w2) (hs : ∀ b, S b → w.heap.size ≤ b) (hB : B ≤ w.heap.size) : Apart B w w2 :=
  ⟨h.bel.trans (hk.below (Nat.le_trans hB h.bel.size) (fun b e => Nat.le_trans hB (hs b e))), fun b cs T f hc h1 h2 => by
    have hl := heap_lt hc
    rw [hk.block b (Nat.lt_of_lt_of_le hl h.bel.size) (fun e => by have := hs b e; omega)]
    exact h.oth b cs T f hc h1 h2⟩
/-- A row of another type has grown. -/
theorem BU.grow {T : TypeId} {w w' : World} {B bb mb most base cap : Nat} {N : List Nd} {a : Option Addr} {M : List RN} (h : BU w B bb mb most N) (ho : OwnR T w base a cap M) (hk : Keep (blk a) w w') (h1 : T ≠ 69) (h2 : T ≠ 60) (h5 : T ≠ 5) : BU w' B bb mb most N := by
  refine h.keep hk (fun b hb e => ?_) (fun x hx b hb e => ?_)
  · obtain ⟨_, cur, hg⟩ := ho.ty e
    rcases BM.ty h.bc h.mp hb hg with e | e
    · exact h1 e
    · exact h2 e
  · obtain ⟨_, cur, hg⟩ := ho.ty e
    obtain ⟨cur2, e2⟩ := (h.dat x hx).ty hb
    rw [hg] at e2
    injection e2 with e1
    injection e1 with _ e2 _
    exact h5 e2
/-- What a drain gives. -/
def DrPost (w w' : World) (e : Ending) (B bb mb most : Nat) (L : List It) (k : Int) : Prop :=
  ∃ (M : List RN) (a : Option Addr) (cap : Nat), e = .returned (.slice a M.length cap) ∧ M.map (·.it) = L.take k.toNat ∧ RowAt 45 w' a M ∧ (∀ x ∈ M, OwnA w' B x.a x.cap x.it.data) ∧ BS w' B bb mb most (L.drop k.toNat) ∧ Apart B w w'
/-- Between two rounds. -/
structure DR (w wr : World) (B bb mb most : Nat) (N : List Nd) (i : Nat) (a : Option Addr) (cap : Nat) : Prop where
  own : OwnR 45 wr w.heap.size a cap ((N.take i).map rnOf)
  bu : BU wr B bb mb most (N.drop i)
  ap : Apart B w wr
theorem DR.post {w wr : World} {B bb mb most : Nat} {N : List Nd} {i : Nat} {a : Option Addr} {cap : Nat} {k : Int} (h0 : BU w B bb mb most N) (h : DR w wr B bb mb most N i a cap) (hi : i = k.toNat ∨ (i ≤ k.toNat ∧ N.length ≤ i)) (e : Ending) (he : e = .returned (.slice a (N.take i).length cap)) : DrPost w wr e B bb mb most (N.map (·.it)) k := by
  have hlen : ∀ M : List Nd, (M.map rnOf).map (·.it) = M.map (·.it) := fun M => by rw [List.map_map]; rfl
  have e1 : N.take k.toNat = N.take i := by
    rcases hi with hi | hi
    · rw [hi]
    · rw [List.take_of_length_le hi.2, List.take_of_length_le (by omega)]
  have e2 : N.drop k.toNat = N.drop i := by
    rcases hi with hi | hi
    · rw [hi]
    · rw [List.drop_eq_nil_of_le hi.2, List.drop_eq_nil_of_le (by omega)]
  refine ⟨(N.take i).map rnOf, a, cap, by rw [List.length_map]; exact he, ?_, h.own.at, ?_, ⟨N.drop i, h.bu, ?_⟩, h.ap⟩
  · rw [hlen, ← List.map_take, e1]
  · intro x hx
    obtain ⟨y, hy, rfl⟩ := List.mem_map.1 hx
    exact (h0.dat y (List.mem_of_mem_take hy)).apart h.ap
  · rw [← List.map_drop, e2]
set_option maxRecDepth 20000 in
set_option maxHeartbeats 1600000 in
theorem drainN {w : World} {B bb mb most : Nat} {N : List Nd} (h : BU w B bb mb most N) (k : Int) :
    Calls Try.prog 13 #[.pointer (some ⟨bb, 0, none⟩), .int .i64 k] w fun e w' => DrPost w w' e B bb mb most (N.map (·.it)) k := by
  have HB : Hid (BU w B bb mb most N) := h
  have HBB : Hid (B ≤ w.heap.size) := h.lt
  have hl16 : N.length ≤ 16 := by have := h.ok.ln; rw [List.length_map] at this; have := h.m16; omega
  clear h
  go_enter Try.func13, Try.ntmps13
  go_wp2
  go_loopw [5] (fun v wr => ∃ (i : Nat) (a : Option Addr) (cap : Nat), i ≤ k.toNat ∧ i ≤ N.length ∧ v = .slice a i cap ∧ Hid (DR w wr B bb mb most N i a cap)) (fun v _ => N.length - lenV v)
  case atStart => exact ⟨0, none, 0, Nat.zero_le _, Nat.zero_le _, rfl, ⟨OwnR.nil _ _ _, HB.out, Apart.refl _ _⟩⟩
  case round =>
    obtain ⟨i, a, cap, hi, hiN, rfl, hD⟩ := hrel
    have hb3 := (ptr_at hD.out.bu.bc.bk (j := 1)).trans (show _ = some (ptr (hd (N.drop i) none)) from rfl)
    have HP : Hid (∀ q, (i = k.toNat ∨ (i ≤ k.toNat ∧ N.length ≤ i)) → DrPost w (wr.drewN q) (.returned (.slice a i cap)) B bb mb most (N.map (·.it)) k) := fun q hq => by
      have hbq : Below wr.heap.size wr (wr.drewN q) := below_drewN (Below.refl _ _) q
      have hB := hD.out.bu.lt
      exact DR.post HB.out ⟨hD.out.own.below hbq, hD.out.bu.below hbq, hD.out.ap.trans (Apart.of_below hbq hB)⟩ hq _ (by rw [List.length_take, Nat.min_eq_left hiN])
    by_cases hik : (i : Int) < k
    · cases hN : N.drop i with
      | nil =>
        rw [hN] at hb3
        have hb4 : wr.cell? ⟨bb, 1, none⟩ = some (.pointer none) := hb3
        have hge : N.length ≤ i := List.drop_eq_nil_iff.1 hN
        clear hD hb3 HB
        go_wp2
        go_ret
        exact HP.out 0 (Or.inr ⟨hi, hge⟩)
      | cons x r =>
        rw [hN] at hb3
        have hb4 : wr.cell? ⟨bb, 1, none⟩ = some (.pointer (some ⟨x.g, 0, none⟩)) := hb3
        have hlt : i < N.length := by
          have := congrArg List.length hN
          rw [List.length_drop, List.length_cons] at this
          omega
        have hx : N[i] = x ∧ N.drop (i + 1) = r := by
          rw [List.drop_eq_getElem_cons hlt] at hN
          injection hN with h1 h2
          exact ⟨h1, h2⟩
        have e1 : (N.take (i + 1)).map rnOf = (N.take i).map rnOf ++ [rnOf x] := by
          rw [List.take_succ_eq_append_getElem hlt, List.map_append, hx.1]
          rfl
        have HR : Hid (Calls Try.prog 20 #[.pointer (some ⟨bb, 0, none⟩), .pointer (some ⟨x.g, 0, none⟩)] wr fun e w' => e = .returned (.agg #[.int .i64 x.it.lba, .bool x.it.gone, .slice x.a x.it.data.length x.cap]) ∧ Hid (OwnR 45 w' w.heap.size a cap ((N.take i).map rnOf) ∧ BU w' B bb mb most (N.drop (i + 1)) ∧ Apart B w w')) := by
          have hbu := hD.out.bu
          rw [hN] at hbu
          refine (rem_any (A := []) hbu).mono ?_
          rintro e w' ⟨h1, h2, h3⟩
          have hap := Apart.of_keep hbu h3
          exact ⟨h1, hD.out.own.apart hap (by decide) (by decide), by rw [hx.2]; exact h2, hD.out.ap.trans hap⟩
        have HL : Hid (((N.take i).map rnOf).length = i) := by show _ = i; rw [List.length_map, List.length_take, Nat.min_eq_left hiN]
        have HE : Hid ((N.take (i + 1)).map rnOf = (N.take i).map rnOf ++ [rnOf x]) := e1
        have HBw : Hid (∀ w1, Apart B w w1 → w.heap.size ≤ w1.heap.size) := fun w1 h1 => h1.bel.size
        clear hD hb3 HP e1 hx hN HB
        go_wp2_with fail
        refine HR.out.mono ?_
        rintro e w1 ⟨rfl, HO⟩
        clear HR hb4
        generalize hM : (N.take i).map rnOf = M at *
        go_wp2_with (at_builtin; refine app_stepR 45 43 Try.underlying43 infoB rfl (.tmp 18) (.tmp 26) rfl w1 w.heap.size cap a M (rnOf x) (by rw [HL.out]; rfl) (by rfl) HO.out.1 (by rw [HL.out]; omega) (HBw.out _ HO.out.2.2) ?_)
        intro a1 cap1 w2 ho hk2
        have HN : Hid (DR w w2 B bb mb most N (i + 1) a1 cap1) := by
          refine ⟨by rw [HE.out]; exact ho, HO.out.2.1.grow HO.out.1 hk2 (by decide) (by decide) (by decide), HO.out.2.2.grow hk2 (fun b e => (HO.out.1.ty e).1) HBB.out⟩
        clear ho hk2 HO HE
        have hL := HL.out
        clear HL
        subst hL
        go_wp2
        go_roundw
        case rel => exact ⟨_, a1, cap1, by omega, by omega, rfl, HN⟩
        case measure => simp [lenV]; omega
    · have hk : Hid (i = k.toNat) := by show i = k.toNat; omega
      clear hD hb3 HB
      go_wp2
      go_ret
      exact HP.out 0 (Or.inl hk.out)
theorem drain_any {w : World} {B bb mb most : Nat} {L : List It} (h : BS w B bb mb most L) (k : Int) : Calls Try.prog 13 #[.pointer (some ⟨bb, 0, none⟩), .int .i64 k] w fun e w' => DrPost w w' e B bb mb most L k := by
  obtain ⟨N, hB, rfl⟩ := h
  exact drainN hB k
end Go.Proofs.Ytphacdnepjpmoaf

/-
  The walk of CmdLoose.
-/
import Derived.Test.YteklankhffebaaaMathCmd
import Derived.Test.YteklankhffebaaaInB
namespace Go.Proofs.Yteklankhffebaaa
open Go.RowKit
set_option linter.unusedVariables false

/-- While noise is laid. -/
structure LI (w wr : World) (g : Nat) (l0 l : List Nat) (op id lba cnt fst snd : Int) : Prop where
  bel : Below w.heap.size w wr
  row : Row wr g l
  ge : w.heap.size < g
  len : l.length = 64
  all : AllB l
  same : ∀ i, i < 6 → rdN CF l i = rdN CF l0 i
  st : Stc wr w.heap.size 23 [.int .i64 op, .int .i64 id, .int .i64 lba, .int .i64 cnt, .int .i64 fst, .int .i64 snd]
theorem LI.set {w wr : World} {g : Nat} {l0 l : List Nat} {op id lba cnt fst snd : Int} (h : LI w wr g l0 l op id lba cnt fst snd) {k : Nat} (hk : Loose k) (v : Nat) (hv : v < 256) : LI w (wr.setCell ⟨g, k, none⟩ (.int .u8 (v : Int))) g l0 (l.set k v) op id lba cnt fst snd :=
  ⟨h.bel.setCell (by have := h.ge; show w.heap.size ≤ g; omega) _, row_set h.row k v, h.ge, by rw [List.length_set]; exact h.len, h.all.set k v hv, fun i hi => by rw [rdN_set hk hi]; exact h.same i hi,
   h.st.keep ((Keep.refl (fun b => b = g) wr).set1 k _) (by have := h.ge; omega)⟩
set_option maxRecDepth 100000 in
set_option maxHeartbeats 3200000 in
theorem loose_any (op id lba cnt fst snd : Int) (a : Option Addr) (cap : Nat) (ns : List Nat) (w : World) (hI : BIn w a cap ns) :
    Calls Try.prog 4 #[cmdV op id lba cnt fst snd, .slice a ns.length cap] w fun e w' => e = .returned (.bool true) ∧ Below w.heap.size w w' := by
  obtain ⟨L0, HL0⟩ : ∃ L0, Hid (L0 = wrt CF [op, id, lba, cnt, fst, snd] 64 6) := ⟨_, rfl⟩
  have HE : Hid (Calls Try.prog 6 #[cmdV op id lba cnt fst snd] (w.alloc (.cells #[.int .i64 op, .int .i64 id, .int .i64 lba, .int .i64 cnt, .int .i64 fst, .int .i64 snd] 23)) fun e w' => (holdL CF [op, id, lba, cnt, fst, snd] 6 ∧ ∃ g, e = .returned (.tuple #[.slice (some ⟨g, 0, none⟩) 64 64, .nilIface]) ∧ LI w w' g L0 L0 op id lba cnt fst snd) ∨ (e = .returned (.tuple #[.slice none 0 0, .iface 51 (.int .i64 1)]) ∧ Below w.heap.size w w')) := by
    refine (encode_any op id lba cnt fst snd _).mono ?_
    rintro e w' ⟨hb, ⟨h1, g, hg, rfl, hr⟩ | ⟨h1, rfl⟩⟩
    · refine .inl ⟨h1, g, rfl, ⟨(alloc_below' w _).trans (hb.mono (by simp)), ?_, by simp at hg; omega, ?_, ?_, fun _ _ => rfl, ?_⟩⟩
      · rw [HL0.out]; exact hr
      · rw [HL0.out]; exact wrt_len okCF 6 (by decide)
      · rw [HL0.out]; exact wrt_all 6
      · exact Stc.keep (S := fun _ => False) (w := w.alloc (.cells #[.int .i64 op, .int .i64 id, .int .i64 lba, .int .i64 cnt, .int .i64 fst, .int .i64 snd] 23)) (heap_alloc_new w _) (Keep.of_below hb) (fun e => e)
    · exact .inr ⟨rfl, (alloc_below' w _).trans (hb.mono (by simp))⟩
  have HI : Hid (BIn w a cap ns) := hI
  have hbig := hI.big
  clear hI
  go_enter Try.func4, Try.ntmps4
  go_wp2_with fail
  refine HE.out.mono ?_
  rintro e w1 (⟨hh, g, rfl, hLI⟩ | ⟨rfl, hb⟩)
  · have HLI : Hid (LI w w1 g L0 L0 op id lba cnt fst snd) := hLI
    have HH : Hid (holdL CF [op, id, lba, cnt, fst, snd] 6) := hh
    clear HE hLI hh
    go_wp2
    go_loopw [7] (fun j wr => ∃ i : Nat, i ≤ ns.length ∧ j = .int .i64 i ∧ Hid (∃ l, LI w wr g L0 l op id lba cnt fst snd)) (fun j _ => ns.length - (intOf j).toNat)
    case atStart => exact ⟨0, by omega, rfl, L0, HLI.out⟩
    case round =>
      clear HLI
      obtain ⟨i, hi, rfl, hr⟩ := hrel
      by_cases hlt : i < ns.length
      · obtain ⟨l, hL⟩ := hr.out
        have HL : Hid (LI w wr g L0 l op id lba cnt fst snd) := hL
        obtain ⟨b, o, rfl, hc⟩ : ∃ b o, a = some ⟨b, o, none⟩ ∧ wr.cell? ⟨b, o + i, none⟩ = some (.int .u8 ((ns[i]?.getD 0 : Nat) : Int)) := by
          rcases (HI.out.lies.keep (Keep.of_below (S := fun _ => False) hL.bel) (fun _ _ _ _ e => e)) with h | ⟨b, o, h1, h2⟩
          · rw [h] at hlt; exact absurd hlt (by simp)
          · exact ⟨b, o, h1, h2 i hlt⟩
        have hv := HI.out.all.at i
        generalize ns[i]?.getD 0 = V at hc hv
        have hfz := fun k => row_free hL.row k
        have HS : Hid (∀ k, Loose k → ∃ l, LI w (wr.setCell ⟨g, k, none⟩ (.int .u8 (V : Int))) g L0 l op id lba cnt fst snd) := fun k hk => ⟨_, HL.out.set hk V hv⟩
        have HC : Hid (∀ k, k < 64 → ∃ u, wr.cell? ⟨g, k, none⟩ = some u) := fun k hk => ⟨_, row_cell HL.out.row k (by rw [HL.out.len]; exact hk)⟩
        clear hL hr
        obtain ⟨z1, hz1⟩ := HC.out (40 + i % 24) (by omega)
        obtain ⟨z2, hz2⟩ := HC.out (4 + i % 4) (by omega)
        obtain ⟨z3, hz3⟩ := HC.out 1 (by omega)
        obtain ⟨z4, hz4⟩ := HC.out (20 + i % 4) (by omega)
        clear HC HH HL0
        go_wp2
        all_goals exact ⟨⟨i + 1, by omega, by go_num, HS.out _ (loose_of (by omega))⟩, by simp [intOf]; omega⟩
      · obtain ⟨l, hL⟩ := hr.out
        obtain rfl : i = ns.length := by omega
        have hln := hL.len
        have HD : Hid (Calls Try.prog 7 #[.slice (some ⟨g, 0, none⟩) 64 64] wr fun e w' => e = .returned (.tuple #[cmdV op id lba cnt fst snd, .nilIface]) ∧ Below w.heap.size w w' ∧ Stc w' w.heap.size 23 [.int .i64 op, .int .i64 id, .int .i64 lba, .int .i64 cnt, .int .i64 fst, .int .i64 snd]) := by
          refine (decode_yes g 0 64 l wr hL.len hL.all (fun i hi => by rw [Nat.zero_add]; exact row_cell hL.row i (by rw [hL.len]; exact hi))).mono ?_
          rintro e w' ⟨hb, h⟩
          have hs := hL.same
          rw [HL0.out] at hs
          have hf := fitC HH.out hs
          obtain ⟨b0, b1, b2, b3, b4, b5⟩ := backC HH.out
          refine ⟨?_, hL.bel.trans (hb.mono hL.bel.size), hL.st.keep (Keep.of_below (S := fun _ => False) hb) (fun e => e)⟩
          rcases h with ⟨h, _⟩ | ⟨_, h, _⟩ | ⟨_, _, h⟩
          · exact absurd hL.len h
          · exact absurd hf h
          · rw [h, hs 0 (by decide), hs 1 (by decide), hs 2 (by decide), hs 3 (by decide), hs 4 (by decide), hs 5 (by decide), b0, b1, b2, b3, b4, b5]
        clear hL hr HI HH HL0 hln
        go_wp2_with fail
        refine HD.out.mono ?_
        rintro e w2 ⟨rfl, hb, hs⟩
        have q0 : ∀ o, (w2.alloc o).cell? ⟨w.heap.size, 0, none⟩ = some (.int .i64 op) := fun o => (hs.keep (Keep.of_below (S := fun _ => False) (alloc_below' w2 o)) (fun e => e)).cell 0
        have q1 : ∀ o, (w2.alloc o).cell? ⟨w.heap.size, 1, none⟩ = some (.int .i64 id) := fun o => (hs.keep (Keep.of_below (S := fun _ => False) (alloc_below' w2 o)) (fun e => e)).cell 1
        have q2 : ∀ o, (w2.alloc o).cell? ⟨w.heap.size, 2, none⟩ = some (.int .i64 lba) := fun o => (hs.keep (Keep.of_below (S := fun _ => False) (alloc_below' w2 o)) (fun e => e)).cell 2
        have q3 : ∀ o, (w2.alloc o).cell? ⟨w.heap.size, 3, none⟩ = some (.int .i64 cnt) := fun o => (hs.keep (Keep.of_below (S := fun _ => False) (alloc_below' w2 o)) (fun e => e)).cell 3
        have q4 : ∀ o, (w2.alloc o).cell? ⟨w.heap.size, 4, none⟩ = some (.int .i64 fst) := fun o => (hs.keep (Keep.of_below (S := fun _ => False) (alloc_below' w2 o)) (fun e => e)).cell 4
        have q5 : ∀ o, (w2.alloc o).cell? ⟨w.heap.size, 5, none⟩ = some (.int .i64 snd) := fun o => (hs.keep (Keep.of_below (S := fun _ => False) (alloc_below' w2 o)) (fun e => e)).cell 5
        have HB : Hid (∀ o, Below w.heap.size w (w2.alloc o)) := fun o => hb.trans ((alloc_below' w2 o).mono hb.size)
        have hge := fun x y => guard_cmd .eql x y
        have heq := eql_cmd op id lba cnt fst snd
        clear HD hb hs
        go_wp2
        go_ret
        exact ⟨rfl, HB.out _⟩
  · clear HE HI
    have HB : Hid (Below w.heap.size w w1) := hb
    clear hb
    go_wp2
    go_ret
    exact ⟨rfl, HB.out⟩
end Go.Proofs.Yteklankhffebaaa

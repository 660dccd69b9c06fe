/-
  What the call of bufferStep gives that gets.
-/
import Derived.Test.YtphacdnepjpmoafDoorStep
namespace Go.Proofs.YtphacdnepjpmoafDoor
open Go.RowKit
set_option linter.unusedVariables false

/-- Those from place k on are as they were. -/
def Flip (w : World) (base : Nat) (a : Option Addr) (ys : List Nat) (k : Nat) : Prop := ∀ j, k ≤ j → j < ys.length → ∃ g, a = some ⟨g, 0, none⟩ ∧ base ≤ g ∧ w.cell? ⟨g, j, none⟩ = some (.int .u8 ((ys[j]?.getD 0 : Nat) : Int)) ∧ w.frozen? ⟨g, j, none⟩ = false
theorem OwnA.flip {w : World} {base cap : Nat} {a : Option Addr} {ys : List Nat} (h : OwnA w base a cap ys) : Flip w base a ys 0 := by
  intro j _ hj
  have hl := h.lies
  rcases h.parts with ⟨_, _, e⟩ | ⟨g, cur, rfl, h1, h2, _⟩
  · rw [e] at hj; simp at hj
  · rcases hl with e | ⟨b, off, e, hc⟩
    · rw [e] at hj; simp at hj
    · cases e
      have := hc j hj
      rw [Nat.zero_add] at this
      exact ⟨g, rfl, h1, this, row_free h2 j⟩
theorem Flip.set {w : World} {base g k : Nat} {ys : List Nat} (h : Flip w base (some ⟨g, 0, none⟩) ys k) (u : Value) : Flip (w.setCell ⟨g, k, none⟩ u) base (some ⟨g, 0, none⟩) ys (k + 1) := by
  intro j hj hj2
  obtain ⟨g', e, h1, h2, h3⟩ := h j (by omega) hj2
  cases e
  exact ⟨g, rfl, h1, by rw [far _ (by omega)]; exact h2, by rw [World.frozen?_setCell]; exact h3⟩
theorem Flip.below {w w' : World} {base k : Nat} {a : Option Addr} {ys : List Nat} (h : Flip w base a ys k) (hb : Below w.heap.size w w') : Flip w' base a ys k := by
  intro j hj hj2
  obtain ⟨g, e, h1, h2, h3⟩ := h j hj hj2
  have hlt := World.block_lt_of_cell? w _ h2
  exact ⟨g, e, h1, by rw [hb.cell (p := ⟨g, j, none⟩) hlt]; exact h2, by rw [hb.frozen (p := ⟨g, j, none⟩) hlt]; exact h3⟩
theorem box_below {w w' : World} {H : Nat} {k l : Int} {s : Value} (hb : w.heap[H]? = some (.cells #[.int .i64 k, .int .i64 l, s] 45)) (ha : Below w.heap.size w w') : w'.cell? ⟨H, 1, none⟩ = some (.int .i64 l) := (ptr_at ((ha.block H (heap_lt hb)).trans hb)).trans rfl
set_option maxRecDepth 20000 in
set_option maxHeartbeats 1600000 in
theorem step_miss {B bb mb most rb : Nat} {w0 wr : World} {L : List It} (h : PS B bb mb most rb w0 wr L) (hE : EType w0) (hB : w0.heap.size = B) (l : Int) (a : Option Addr) (sn cap : Nat) (h9 : l ≤ 9223372036854775807) (hf : l < 0 ∨ fnd L l = none) :
    Calls Tryd.prog 13 #[.pointer (some ⟨bb, 0, none⟩), .pointer (some ⟨rb, 0, none⟩), .agg #[.int .i64 3, .int .i64 l, .slice a sn cap]] wr fun e w' => e = .returned (.bool true) ∧ ∃ L', PS B bb mb most rb w0 w' L' := by
  have hal := alloc_below' wr (.cells #[.int .i64 3, .int .i64 l, .slice a sn cap] 45)
  have hbox := heap_alloc_new wr (.cells #[.int .i64 3, .int .i64 l, .slice a sn cap] 45)
  have h0 := h.below hal
  obtain ⟨ia, icap, M, h1, h2, h3, h4, h5⟩ := id h0
  have hOk := h1.bs.ok
  have HFi : Hid (Calls Tryd.prog 25 #[.pointer (some ⟨rb, 0, none⟩), .int .i64 l] (wr.alloc (.cells #[.int .i64 3, .int .i64 l, .slice a sn cap] 45)) fun e w' => (∃ z, e = .returned (.int .i64 z) ∧ (0 ≤ l → z < 0)) ∧ w'.cell? ⟨wr.heap.size, 1, none⟩ = some (.int .i64 l) ∧ Hid (PS B bb mb most rb w0 w' L)) := by
    refine (find_any h2 l).mono ?_
    rintro e w' ⟨⟨z, e1, e2⟩, e3⟩
    refine ⟨⟨z, e1, fun hl => ?_⟩, box_below hbox e3, h0.below e3⟩
    rcases hf with hf | hf
    · omega
    · rcases e2.fnd (by rw [h3]; exact hOk.1.nd) with ⟨e, _⟩ | ⟨i, _, _, e⟩
      · omega
      · rw [h3, hf] at e; cases e
  have HER : Hid (∀ W, PS B bb mb most rb w0 W L → ∀ n : Nat, n ≠ 0 → Calls Tryd.prog 11 #[.iface 33 (.int .i64 (n : Int)), .int .i64 (n : Int)] W fun ev w' => ev = .returned (.bool true) ∧ Hid (PS B bb mb most rb w0 w' L)) := fun W hW n hn => by
    have := hW.err hE hB n
    rw [errI_ne hn] at this
    exact this
  by_cases hl : l < 0
  · have HGt : Hid (Calls Tryd.prog 18 #[.pointer (some ⟨bb, 0, none⟩), .int .i64 l] (wr.alloc (.cells #[.int .i64 3, .int .i64 l, .slice a sn cap] 45)) fun e w' => e = .returned (.tuple #[.slice none 0 0, .bool false, .iface 33 (.int .i64 1)]) ∧ w' = (wr.alloc (.cells #[.int .i64 3, .int .i64 l, .slice a sn cap] 45))) := h1.get_low l hl
    clear h0 h1 h2 h3 h4 h5 hOk hal hbox hf hE hB h
    go_enter Tryd.func13, Tryd.ntmps13
    go_wp2_with fail
    refine HGt.out.mono ?_
    rintro e w2 ⟨rfl, rfl⟩
    clear HGt
    go_wp2_with fail
    refine HFi.out.mono ?_
    rintro e w3 ⟨⟨z, rfl, _⟩, b1, h3⟩
    clear HFi
    go_wp2_with fail
    refine (HER.out _ h3.out 1 (by decide)).mono ?_
    rintro e w4 ⟨rfl, h4⟩
    clear HER h3
    go_wp2
    go_ret
    exact ⟨rfl, L, h4.out⟩
  · have hf' : fnd L l = none := hf.resolve_left hl
    have HGt : Hid (Calls Tryd.prog 18 #[.pointer (some ⟨bb, 0, none⟩), .int .i64 l] (wr.alloc (.cells #[.int .i64 3, .int .i64 l, .slice a sn cap] 45)) fun e w' => e = .returned (.tuple #[.slice none 0 0, .bool false, .iface 33 (.int .i64 4)]) ∧ w' = (wr.alloc (.cells #[.int .i64 3, .int .i64 l, .slice a sn cap] 45))) := h1.get_none l (by omega) h9 hf'
    have hl0 : 0 ≤ l := by omega
    clear h0 h1 h2 h3 h4 h5 hOk hal hbox hf hf' hE hB hl h
    go_enter Tryd.func13, Tryd.ntmps13
    go_wp2_with fail
    refine HGt.out.mono ?_
    rintro e w2 ⟨rfl, rfl⟩
    clear HGt
    go_wp2_with fail
    refine HFi.out.mono ?_
    rintro e w3 ⟨⟨z, rfl, hz⟩, b1, h3⟩
    have hz1 := hz hl0
    clear HFi hz
    go_wp2_with fail
    refine (HER.out _ h3.out 4 (by decide)).mono ?_
    rintro e w4 ⟨rfl, h4⟩
    clear HER h3
    go_wp2
    go_ret
    exact ⟨rfl, L, h4.out⟩
set_option maxRecDepth 20000 in
set_option maxHeartbeats 3200000 in
theorem step_hit {B bb mb most rb : Nat} {w0 wr : World} {L : List It} (h : PS B bb mb most rb w0 wr L) (hB : w0.heap.size = B) (l : Int) (a : Option Addr) (sn cap : Nat) (h0 : 0 ≤ l) (h9 : l ≤ 9223372036854775807) (x : It) (hf : fnd L l = some x) :
    Calls Tryd.prog 13 #[.pointer (some ⟨bb, 0, none⟩), .pointer (some ⟨rb, 0, none⟩), .agg #[.int .i64 3, .int .i64 l, .slice a sn cap]] wr fun e w' => e = .returned (.bool true) ∧ ∃ L', PS B bb mb most rb w0 w' L' := by
  have hal := alloc_below' wr (.cells #[.int .i64 3, .int .i64 l, .slice a sn cap] 45)
  have hbox := heap_alloc_new wr (.cells #[.int .i64 3, .int .i64 l, .slice a sn cap] 45)
  obtain ⟨W1, hW1⟩ : ∃ W, W = wr.alloc (.cells #[.int .i64 3, .int .i64 l, .slice a sn cap] 45) := ⟨_, rfl⟩
  rw [← hW1] at hal hbox
  have hP := h.below hal
  obtain ⟨ia, icap, M, h1, h2, h3, h4, h5⟩ := id hP
  have hOk := h1.bs.ok
  have hxd : x.data.length ≤ 140737488355328 := hOk.1.dl x (fnd_some hf).1
  have HGt : Hid (Calls Tryd.prog 18 #[.pointer (some ⟨bb, 0, none⟩), .int .i64 l] W1 fun e w' => ∃ a c, e = .returned (.tuple #[.slice a x.data.length c, .bool x.gone, .nilIface]) ∧ w'.cell? ⟨wr.heap.size, 1, none⟩ = some (.int .i64 l) ∧ Hid (OwnA w' W1.heap.size a c x.data ∧ Below W1.heap.size W1 w')) := (h1.get_some l x h0 h9 hf).mono fun e w' ⟨a, c, e1, e2, e3⟩ => ⟨a, c, e1, box_below hbox e3.out, e2.out, e3.out⟩
  have HFi : Hid (∀ W, Below W1.heap.size W1 W → Calls Tryd.prog 25 #[.pointer (some ⟨rb, 0, none⟩), .int .i64 l] W fun e w' => (∃ i : Nat, e = .returned (.int .i64 i) ∧ i < M.length ∧ Hid ((M[i]?.getD rn0).it = x)) ∧ w'.cell? ⟨wr.heap.size, 1, none⟩ = some (.int .i64 l) ∧ Hid (Below W.heap.size W w')) := fun W hW => by
    refine (find_any (h2.below hW) l).mono ?_
    rintro e w' ⟨⟨z, e1, e2⟩, e3⟩
    rcases e2.fnd (by rw [h3]; exact hOk.1.nd) with ⟨_, e⟩ | ⟨i, e4, e5, e⟩
    · rw [h3, hf] at e; cases e
    · rw [h3, hf] at e
      exact ⟨⟨i, by rw [e1, e4], e5, (Option.some.inj e).symm⟩, box_below hbox (hW.trans (e3.mono hW.size)), e3⟩
  have HR : Hid (∀ W i, Below W1.heap.size W1 W → i < M.length → (M[i]?.getD rn0).it = x → ∃ (g off : Nat) (ra : Option Addr) (rc : Nat), ia = some ⟨g, off, none⟩ ∧ W.cell? ⟨rb, 1, none⟩ = some (.slice (some ⟨g, off, none⟩) M.length icap) ∧ W.cell? ⟨g, off + i * 3 + 1, none⟩ = some (.bool x.gone) ∧ W.cell? ⟨g, off + i * 3 + 2, none⟩ = some (.slice ra x.data.length rc) ∧ Hid (Lies W ra x.data) ∧ Hid (∀ W', Below W1.heap.size W1 W' → W'.cell? ⟨rb, 1, none⟩ = some (.slice (some ⟨g, off, none⟩) M.length icap) ∧ W'.cell? ⟨g, off + i * 3 + 1, none⟩ = some (.bool x.gone))) := fun W i hW hi hx => by
    have hF := h2.below hW
    obtain ⟨g, off, e, d0, d1, d2⟩ := hF.row.at hi
    rw [hx] at d1 d2
    refine ⟨g, off, (M[i]?.getD rn0).a, (M[i]?.getD rn0).cap, e, by rw [← e]; exact hF.c1, d1, d2, ?_, fun W' hW' => ?_⟩
    · have hm : M[i]?.getD rn0 ∈ M := by rw [List.getElem?_eq_getElem hi]; exact List.getElem_mem hi
      have := (h4 _ hm).1
      rw [hx] at this
      exact this.bel (h1.below hW).bel (Nat.le_of_eq hB)
    · have hF' := h2.below hW'
      obtain ⟨g', off', e', d0', d1', d2'⟩ := hF'.row.at hi
      rw [e] at e'
      cases e'
      rw [hx] at d1'
      exact ⟨by rw [← e]; exact hF'.c1, d1'⟩
  have HPs : Hid (∀ W, Below W1.heap.size W1 W → PS B bb mb most rb w0 W L) := fun W hW => hP.below hW
  have hlen : M.length ≤ 9223372036854775807 := Nat.le_trans h2.lc h2.cm
  have HX : Hid (x.data.length ≤ 140737488355328) := hxd
  have hx63 : x.data.length ≤ 9223372036854775807 := by omega
  clear h1 h2 h3 h4 h5 hOk hal hbox hf hB h hP hxd
  go_enter Tryd.func13, Tryd.ntmps13
  go_wp2_with fail
  rw [← hW1]
  refine HGt.out.mono ?_
  rintro e w2 ⟨a2, c2, rfl, b1, h2⟩
  clear HGt hW1
  go_wp2_with fail
  refine (HFi.out _ h2.out.2).mono ?_
  rintro e w3 ⟨⟨i, rfl, hi, hxi⟩, b2, h3⟩
  clear HFi b1
  have hB3 : Below W1.heap.size W1 w3 := h2.out.2.trans (h3.out.mono h2.out.2.size)
  obtain ⟨g, off, ra, rc, hia, r1, r2, r3, hLi, hRW⟩ := HR.out w3 i hB3 hi hxi.out
  have HO3 : Hid (OwnA w3 W1.heap.size a2 c2 x.data) := h2.out.1.below h3.out
  have HBy := bytes_any a2 ra x.data x.data c2 rc w3 HX.out HX.out HO3.out.lies hLi.out
  rw [decide_eq_true rfl] at HBy
  have HBy2 : Hid (Calls Tryd.prog 10 #[.slice a2 x.data.length c2, .slice ra x.data.length rc] w3 fun e w' => e = .returned (.bool true) ∧ Hid (Flip w' W1.heap.size a2 x.data 0 ∧ Below W1.heap.size W1 w')) := HBy.mono fun e w' ⟨e1, e2⟩ => ⟨e1, (HO3.out.below e2).flip, hB3.trans (e2.mono hB3.size)⟩
  clear HBy HR hLi hxi h2 h3 hB3 HO3 HX hia
  go_wp2_with fail
  refine HBy2.out.mono ?_
  rintro e w4 ⟨rfl, h4⟩
  clear HBy2 r1 r2 r3
  go_wp2
  go_loopw [16] (fun j wq => ∃ k : Nat, k ≤ x.data.length ∧ j = .int .i64 k ∧ Hid (Flip wq W1.heap.size a2 x.data k ∧ Below W1.heap.size W1 wq)) (fun j _ => x.data.length - (intOf j).toNat)
  case atStart => exact ⟨0, Nat.zero_le _, rfl, h4⟩
  case round =>
    obtain ⟨k, hk, rfl, hq⟩ := hrel
    clear h4
    by_cases hlt : k < x.data.length
    · obtain ⟨gd, hgd, hge, hcd, hfd⟩ := hq.out.1 k (Nat.le_refl _) hlt
      subst hgd
      have HN : Hid (∀ u, Flip (wr.setCell ⟨gd, k, none⟩ u) W1.heap.size (some ⟨gd, 0, none⟩) x.data (k + 1) ∧ Below W1.heap.size W1 (wr.setCell ⟨gd, k, none⟩ u)) := fun u => ⟨hq.out.1.set u, hq.out.2.setCell hge u⟩
      clear hq
      generalize x.data[k]?.getD 0 = v at *
      go_wp2
      exact ⟨⟨k + 1, by omega, by go_num, HN.out _⟩, by simp [intOf]; omega⟩
    · obtain rfl : k = x.data.length := by omega
      obtain ⟨s1, s2⟩ := hRW.out _ hq.out.2
      have HF : Hid (PS B bb mb most rb w0 wr L) := HPs.out _ hq.out.2
      clear hq hRW HPs
      go_wp2
      go_ret
      exact ⟨rfl, L, HF.out⟩
end Go.Proofs.YtphacdnepjpmoafDoor

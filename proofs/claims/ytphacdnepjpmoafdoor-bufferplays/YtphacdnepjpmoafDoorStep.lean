/-
  What lies there between two calls on both buffers; what the calls of bufferStep give that put or drop.
-/
import Derived.Test.YtphacdnepjpmoafDoorRefAdd
namespace Go.Proofs.YtphacdnepjpmoafDoor
open Go.RowKit
set_option linter.unusedVariables false

theorem radd_all {w : World} {rb most icap : Nat} {ia : Option Addr} {M : List RN} (h : RF w rb most ia icap M) (hOk : Ok most (M.map (·.it))) (hm : most ≤ 16) (x : RN) :
    Calls Tryd.prog 24 #[.pointer (some ⟨rb, 0, none⟩), .agg #[.int .i64 x.it.lba, .bool x.it.gone, .slice x.a x.it.data.length x.cap]] w fun e w' => AddPost w w' e rb most M x := by
  by_cases hl : x.it.lba < 0
  · refine (radd_low w rb x.it.lba x.it.gone x.a x.it.data.length x.cap hl).mono ?_
    rintro e w' ⟨h1, h2⟩
    have h0 : putE most (M.map (·.it)) x.it.lba = 1 := if_pos hl
    refine ⟨by rw [h0]; exact h1, Keep.of_below h2, ia, icap, M, h.below h2, ?_, fun y hy => Or.inl hy⟩
    unfold putL
    rw [h0]
    rfl
  · exact radd_any h hOk hm x (by omega)
/-- BOTH BUFFERS HOLD THE ITEMS L. -/
def PS (B bb mb most rb : Nat) (w0 wr : World) (L : List It) : Prop :=
  ∃ (ia : Option Addr) (icap : Nat) (M : List RN), LS B bb mb most w0 wr L ∧ RF wr rb most ia icap M ∧ M.map (·.it) = L ∧ (∀ x ∈ M, Lies w0 x.a x.it.data ∧ x.it.data.length ≤ 140737488355328) ∧ B ≤ rb
theorem PS.below {B bb mb most rb : Nat} {w0 wr w' : World} {L : List It} (h : PS B bb mb most rb w0 wr L) (hb : Below wr.heap.size wr w') : PS B bb mb most rb w0 w' L := by
  obtain ⟨ia, icap, M, h1, h2, h3, h4, h5⟩ := h
  exact ⟨ia, icap, M, h1.below hb, h2.below hb, h3, h4, h5⟩
theorem PS.ls {B bb mb most rb : Nat} {w0 wr : World} {L : List It} (h : PS B bb mb most rb w0 wr L) : LS B bb mb most w0 wr L := by
  obtain ⟨ia, icap, M, h1, _⟩ := h
  exact h1
/-- The document's buffer alone has turned. -/
theorem LS.ref {B bb mb most rb icap : Nat} {ia : Option Addr} {M : List RN} {w0 wr w' : World} {L : List It} (h : LS B bb mb most w0 wr L) (hr : RF wr rb most ia icap M) (hB : B ≤ rb) (hk : Keep (fun b => b = rb) wr w') : LS B bb mb most w0 w' L :=
  ⟨h.bs.own hk hr.bk (by decide) (by decide) (by decide), h.bel.trans (hk.below h.bs.lt (fun k e => by omega))⟩
/-- The document's Add, behind the program's Put. -/
theorem LS.add {B bb mb most rb icap : Nat} {ia : Option Addr} {M : List RN} {w0 wr : World} {L : List It} (x : RN) (h : LS B bb mb most w0 wr (putL most L x.it)) (hr : RF wr rb most ia icap M) (hM : M.map (·.it) = L) (hOk : Ok most L) (hm : most ≤ 16) (hB : B ≤ rb)
    (hd : ∀ y ∈ M, Lies w0 y.a y.it.data ∧ y.it.data.length ≤ 140737488355328) (hx : Lies w0 x.a x.it.data ∧ x.it.data.length ≤ 140737488355328) :
    Calls Tryd.prog 24 #[.pointer (some ⟨rb, 0, none⟩), .agg #[.int .i64 x.it.lba, .bool x.it.gone, .slice x.a x.it.data.length x.cap]] wr fun e w' => e = .returned (.int .i64 (putE most L x.it.lba : Nat)) ∧ Hid (PS B bb mb most rb w0 w' (putL most L x.it)) := by
  subst hM
  refine (radd_all hr hOk hm x).mono ?_
  rintro e w' ⟨h1, h2, ia', icap', M', h3, h4, h5⟩
  refine ⟨h1, ia', icap', M', h.ref hr hB h2, h3, h4, fun y hy => ?_, hB⟩
  rcases h5 y hy with e | rfl
  · exact hd y e
  · exact hx
/-- The box of an operation stays. -/
theorem box_apart {B : Nat} {w w' : World} {H : Nat} {k l : Int} {s : Value} (hb : w.heap[H]? = some (.cells #[.int .i64 k, .int .i64 l, s] 45)) (ha : Apart B w w') : w'.cell? ⟨H, 1, none⟩ = some (.int .i64 l) ∧ w'.cell? ⟨H, 2, none⟩ = some s := by
  have := (ha.oth H _ _ _ hb (by decide) (by decide)).trans hb
  exact ⟨(ptr_at this).trans rfl, (ptr_at this).trans rfl⟩
theorem PS.err {B bb mb most rb : Nat} {w0 wr : World} {L : List It} (h : PS B bb mb most rb w0 wr L) (hE : EType w0) (hB : w0.heap.size = B) (n : Nat) : Calls Tryd.prog 11 #[errI n, .int .i64 (n : Int)] wr fun ev w' => ev = .returned (.bool true) ∧ Hid (PS B bb mb most rb w0 w' L) :=
  (same_err n wr (hE.below h.ls.bel (by rw [← hB]; exact hE.pos))).mono fun e w' ⟨h1, h2⟩ => ⟨h1, h.below h2⟩
set_option maxRecDepth 20000 in
set_option maxHeartbeats 1600000 in
theorem step_put {B bb mb most rb : Nat} {w0 wr : World} {L : List It} (h : PS B bb mb most rb w0 wr L) (hE : EType w0) (hB : w0.heap.size = B) (l : Int) (bs : List Nat) (a : Option Addr) (cap : Nat) (h9 : l ≤ 9223372036854775807) (hL : Lies w0 a bs) (hb : bs.length ≤ 140737488355328) :
    Calls Tryd.prog 13 #[.pointer (some ⟨bb, 0, none⟩), .pointer (some ⟨rb, 0, none⟩), .agg #[.int .i64 1, .int .i64 l, .slice a bs.length cap]] wr fun e w' => e = .returned (.bool true) ∧ ∃ L', PS B bb mb most rb w0 w' L' := by
  obtain ⟨ia, icap, M, h1, h2, h3, h4, h5⟩ := h
  have hal := alloc_below' wr (.cells #[.int .i64 1, .int .i64 l, .slice a bs.length cap] 45)
  have hbox := heap_alloc_new wr (.cells #[.int .i64 1, .int .i64 l, .slice a bs.length cap] 45)
  have hOk := h1.bs.ok
  have HP : Hid (Calls Tryd.prog 17 #[.pointer (some ⟨bb, 0, none⟩), .int .i64 l, .slice a bs.length cap] (wr.alloc (.cells #[.int .i64 1, .int .i64 l, .slice a bs.length cap] 45)) fun e w' => e = .returned (errI (putE most L l)) ∧ (w'.cell? ⟨wr.heap.size, 1, none⟩ = some (.int .i64 l) ∧ w'.cell? ⟨wr.heap.size, 2, none⟩ = some (.slice a bs.length cap)) ∧ Hid (LS B bb mb most w0 w' (putL most L (It.mk l false bs)) ∧ RF w' rb most ia icap M)) :=
    ((h1.below hal).put l bs a cap h9 (hL.bel (h1.below hal).bel (Nat.le_of_eq hB)) hb).mono fun e w' ⟨e1, e2, e3⟩ => ⟨e1, box_apart hbox e3.out, e2.out, (h2.below hal).apart e3.out⟩
  have HA : Hid (∀ W, LS B bb mb most w0 W (putL most L (It.mk l false bs)) → RF W rb most ia icap M → Calls Tryd.prog 24 #[.pointer (some ⟨rb, 0, none⟩), .agg #[.int .i64 l, .bool false, .slice a bs.length cap]] W fun e w' => e = .returned (.int .i64 (putE most L l : Nat)) ∧ Hid (PS B bb mb most rb w0 w' (putL most L (It.mk l false bs)))) := fun W hW hR => hW.add ⟨It.mk l false bs, a, cap⟩ hR h3 hOk.1 hOk.2.2 h5 h4 ⟨hL, hb⟩
  have HE : Hid (∀ W L', PS B bb mb most rb w0 W L' → ∀ n : Nat, Calls Tryd.prog 11 #[errI n, .int .i64 (n : Int)] W fun ev w' => ev = .returned (.bool true) ∧ Hid (PS B bb mb most rb w0 w' L')) := fun W L' hW n => hW.err hE hB n
  clear h1 h2 h3 h4 h5 hal hbox hOk hL hb hE hB h9
  generalize putL most L (It.mk l false bs) = L' at *
  generalize putE most L l = n at *
  go_enter Tryd.func13, Tryd.ntmps13
  go_wp2_with fail
  refine HP.out.mono ?_
  rintro e w2 ⟨rfl, ⟨b1, b2⟩, h2⟩
  clear HP
  go_wp2_with fail
  refine (HA.out _ h2.out.1 h2.out.2).mono ?_
  rintro e w3 ⟨rfl, h3⟩
  clear HA b1 b2 h2
  go_wp2_with fail
  refine (HE.out _ _ h3.out n).mono ?_
  rintro e w4 ⟨rfl, h4⟩
  clear HE h3
  go_wp2
  go_ret
  exact ⟨rfl, L', h4.out⟩
set_option maxRecDepth 20000 in
set_option maxHeartbeats 1600000 in
theorem step_drop {B bb mb most rb : Nat} {w0 wr : World} {L : List It} (h : PS B bb mb most rb w0 wr L) (hE : EType w0) (hB : w0.heap.size = B) (l : Int) (a : Option Addr) (sn cap : Nat) (h9 : l ≤ 9223372036854775807) :
    Calls Tryd.prog 13 #[.pointer (some ⟨bb, 0, none⟩), .pointer (some ⟨rb, 0, none⟩), .agg #[.int .i64 2, .int .i64 l, .slice a sn cap]] wr fun e w' => e = .returned (.bool true) ∧ ∃ L', PS B bb mb most rb w0 w' L' := by
  obtain ⟨ia, icap, M, h1, h2, h3, h4, h5⟩ := h
  have hal := alloc_below' wr (.cells #[.int .i64 2, .int .i64 l, .slice a sn cap] 45)
  have hbox := heap_alloc_new wr (.cells #[.int .i64 2, .int .i64 l, .slice a sn cap] 45)
  have hOk := h1.bs.ok
  have HP : Hid (Calls Tryd.prog 15 #[.pointer (some ⟨bb, 0, none⟩), .int .i64 l] (wr.alloc (.cells #[.int .i64 2, .int .i64 l, .slice a sn cap] 45)) fun e w' => e = .returned (errI (putE most L l)) ∧ (w'.cell? ⟨wr.heap.size, 1, none⟩ = some (.int .i64 l) ∧ w'.cell? ⟨wr.heap.size, 2, none⟩ = some (.slice a sn cap)) ∧ Hid (LS B bb mb most w0 w' (putL most L (It.mk l true [])) ∧ RF w' rb most ia icap M)) :=
    ((h1.below hal).drop l h9).mono fun e w' ⟨e1, e2, e3⟩ => ⟨e1, box_apart hbox e3.out, e2.out, (h2.below hal).apart e3.out⟩
  have HA : Hid (∀ W, LS B bb mb most w0 W (putL most L (It.mk l true [])) → RF W rb most ia icap M → Calls Tryd.prog 24 #[.pointer (some ⟨rb, 0, none⟩), .agg #[.int .i64 l, .bool true, .slice none 0 0]] W fun e w' => e = .returned (.int .i64 (putE most L l : Nat)) ∧ Hid (PS B bb mb most rb w0 w' (putL most L (It.mk l true [])))) := fun W hW hR => hW.add ⟨It.mk l true [], none, 0⟩ hR h3 hOk.1 hOk.2.2 h5 h4 ⟨Or.inl rfl, Nat.zero_le _⟩
  have HE : Hid (∀ W L', PS B bb mb most rb w0 W L' → ∀ n : Nat, Calls Tryd.prog 11 #[errI n, .int .i64 (n : Int)] W fun ev w' => ev = .returned (.bool true) ∧ Hid (PS B bb mb most rb w0 w' L')) := fun W L' hW n => hW.err hE hB n
  clear h1 h2 h3 h4 h5 hal hbox hOk hE hB h9
  generalize putL most L (It.mk l true []) = L' at *
  generalize putE most L l = n at *
  go_enter Tryd.func13, Tryd.ntmps13
  go_wp2_with fail
  refine HP.out.mono ?_
  rintro e w2 ⟨rfl, ⟨b1, b2⟩, h2⟩
  clear HP
  go_wp2_with fail
  refine (HA.out _ h2.out.1 h2.out.2).mono ?_
  rintro e w3 ⟨rfl, h3⟩
  clear HA b1 b2 h2
  go_wp2_with fail
  refine (HE.out _ _ h3.out n).mono ?_
  rintro e w4 ⟨rfl, h4⟩
  clear HE h3
  go_wp2
  go_ret
  exact ⟨rfl, L', h4.out⟩
end Go.Proofs.YtphacdnepjpmoafDoor

/-
  What the calls of slot.Choose and slot.Next give: which of two is told, its number and its body; which is written next.
-/
import Derived.Test.YtbajdgadljdnkaeDoorLook
namespace Go.Proofs.YtbajdgadljdnkaeDoor
open Go.RowKit
set_option linter.unusedVariables false

theorem results_tmp4 {fn : Func} {t u v x : Tmp} (h : fn.results = #[.tmp t, .tmp u, .tmp v, .tmp x]) (tmps : Array Value) (P : Program) (w : World) :
    (results fn tmps).run P w = .ok (.tuple #[tmps.getD t undef, tmps.getD u undef, tmps.getD v undef, tmps.getD x undef]) w := by
  simp [results, h]
theorem whole_len {s : List Nat} (h : Whole s) : (bodyS s).length ≤ 4096 := by
  obtain ⟨h1, _, h3, _⟩ := h
  rw [bodyS_len (by omega)]
  exact h3
/-- What Choose gives. -/
def ChPost (w w' : World) (e : Ending) (s t : List Nat) : Prop :=
  Below w.heap.size w w' ∧ ((sel s t = none ∧ e = .returned (.tuple #[.int .i64 0, .int .i64 0, .slice none 0 0, .iface 28 (.int .i64 4)])) ∨ ∃ k X a c, sel s t = some (k, X) ∧ e = .returned (.tuple #[.int .i64 (k : Nat), .int .i64 (seqS X : Nat), .slice a (bodyS X).length c, .nilIface]) ∧ OwnA w' w.heap.size a c (bodyS X))
set_option maxRecDepth 20000 in
set_option maxHeartbeats 1600000 in
theorem choose_any (a b : Option Addr) (s t : List Nat) (ca cb : Nat) (w : World) (hA : BIn w a ca s) (hB : BIn w b cb t) :
    Calls Tryd.prog 23 #[.slice a s.length ca, .slice b t.length cb] w fun e w' => ChPost w w' e s t := by
  have HA : Hid (BIn w a ca s) := hA
  have HBb : Hid (∀ wz, Below w.heap.size w wz → BIn wz a ca s ∧ BIn wz b cb t) := fun wz hb => ⟨hA.below hb, hB.below hb⟩
  clear hA hB
  go_enter Tryd.func23, Tryd.ntmps23
  go_wp2_with fail
  refine (look_any a s ca w HA.out).mono ?_
  clear HA
  rintro e w1 ⟨⟨hW, rfl⟩ | ⟨hW, rfl⟩, b1⟩
  · go_wp2_with fail
    refine (look_any b t cb w1 (HBb.out w1 b1).2).mono ?_
    rintro e w2 ⟨⟨hV, rfl⟩ | ⟨hV, rfl⟩, b2⟩
    · have bb := b1.trans (b2.mono b1.size)
      by_cases hlt : seqS s < seqS t
      · have hlt' : ((seqS s : Nat) : Int) < ((seqS t : Nat) : Int) := by omega
        have HK : Hid (Calls Tryd.prog 37 #[.slice (dropA b cb 12) (bodyS t).length (cb - 12)] w2 fun e w' => OwnPost w2 w' e (bodyS t)) := clone_any _ _ _ w2 (by have := whole_len hV; omega) ((HBb.out w2 bb).2.lies.body (HBb.out w2 bb).2.lc)
        have HR : Hid (∀ w3 a3 c3, Below w.heap.size w w3 → OwnA w3 w.heap.size a3 c3 (bodyS t) → ChPost w w3 (.returned (.tuple #[.int .i64 1, .int .i64 (seqS t : Nat), .slice a3 (bodyS t).length c3, .nilIface])) s t) := fun w3 a3 c3 h1 h2 => ⟨h1, Or.inr ⟨1, t, a3, c3, sel_two hV (Or.inr hlt), rfl, h2⟩⟩
        clear HBb b1 b2 hW hV hlt
        generalize dropA b cb 12 = DB at *
        generalize dropA a ca 12 = DA at *
        generalize bodyS t = BT at *
        generalize bodyS s = BS at *
        generalize seqS t = QT at *
        generalize seqS s = QS at *
        go_wp2_with fail
        refine HK.out.mono ?_
        rintro e w3 ⟨a3, c3, rfl, o3, b3⟩
        have HP := HR.out w3 a3 c3 (bb.trans (b3.mono bb.size)) (o3.base bb.size)
        have HP' : Hid (ChPost w w3 (.returned (.tuple #[.int .i64 1, .int .i64 (QT : Nat), .slice a3 BT.length c3, .nilIface])) s t) := HP
        clear HP HR HK o3 b3
        go_wp2
        (try simp only [Exit.inBlock, Exit.then]); refine bodyPost_ret (results_tmp4 rfl _ _ _) rfl ?_
        exact HP'.out
      · have hlt' : ((seqS t : Nat) : Int) ≤ ((seqS s : Nat) : Int) := by omega
        have HK : Hid (Calls Tryd.prog 37 #[.slice (dropA a ca 12) (bodyS s).length (ca - 12)] w2 fun e w' => OwnPost w2 w' e (bodyS s)) := clone_any _ _ _ w2 (by have := whole_len hW; omega) ((HBb.out w2 bb).1.lies.body (HBb.out w2 bb).1.lc)
        have HR : Hid (∀ w3 a3 c3, Below w.heap.size w w3 → OwnA w3 w.heap.size a3 c3 (bodyS s) → ChPost w w3 (.returned (.tuple #[.int .i64 0, .int .i64 (seqS s : Nat), .slice a3 (bodyS s).length c3, .nilIface])) s t) := fun w3 a3 c3 h1 h2 => ⟨h1, Or.inr ⟨0, s, a3, c3, sel_one hW (fun e => hlt e.2), rfl, h2⟩⟩
        clear HBb b1 b2 hW hV hlt
        generalize dropA b cb 12 = DB at *
        generalize dropA a ca 12 = DA at *
        generalize bodyS t = BT at *
        generalize bodyS s = BS at *
        generalize seqS t = QT at *
        generalize seqS s = QS at *
        go_wp2_with fail
        refine HK.out.mono ?_
        rintro e w3 ⟨a3, c3, rfl, o3, b3⟩
        have HP := HR.out w3 a3 c3 (bb.trans (b3.mono bb.size)) (o3.base bb.size)
        have HP' : Hid (ChPost w w3 (.returned (.tuple #[.int .i64 0, .int .i64 (QS : Nat), .slice a3 BS.length c3, .nilIface])) s t) := HP
        clear HP HR HK o3 b3
        go_wp2
        (try simp only [Exit.inBlock, Exit.then]); refine bodyPost_ret (results_tmp4 rfl _ _ _) rfl ?_
        exact HP'.out
    · have bb := b1.trans (b2.mono b1.size)
      have HK : Hid (Calls Tryd.prog 37 #[.slice (dropA a ca 12) (bodyS s).length (ca - 12)] w2 fun e w' => OwnPost w2 w' e (bodyS s)) := clone_any _ _ _ w2 (by have := whole_len hW; omega) ((HBb.out w2 bb).1.lies.body (HBb.out w2 bb).1.lc)
      have HR : Hid (∀ w3 a3 c3, Below w.heap.size w w3 → OwnA w3 w.heap.size a3 c3 (bodyS s) → ChPost w w3 (.returned (.tuple #[.int .i64 0, .int .i64 (seqS s : Nat), .slice a3 (bodyS s).length c3, .nilIface])) s t) := fun w3 a3 c3 h1 h2 => ⟨h1, Or.inr ⟨0, s, a3, c3, sel_one hW (fun e => hV e.1), rfl, h2⟩⟩
      clear HBb b1 b2 hW hV
      generalize dropA b cb 12 = DB at *
      generalize dropA a ca 12 = DA at *
      generalize bodyS t = BT at *
      generalize bodyS s = BS at *
      generalize seqS t = QT at *
      generalize seqS s = QS at *
      go_wp2_with fail
      refine HK.out.mono ?_
      rintro e w3 ⟨a3, c3, rfl, o3, b3⟩
      have HP := HR.out w3 a3 c3 (bb.trans (b3.mono bb.size)) (o3.base bb.size)
      have HP' : Hid (ChPost w w3 (.returned (.tuple #[.int .i64 0, .int .i64 (QS : Nat), .slice a3 BS.length c3, .nilIface])) s t) := HP
      clear HP HR HK o3 b3
      go_wp2
      (try simp only [Exit.inBlock, Exit.then]); refine bodyPost_ret (results_tmp4 rfl _ _ _) rfl ?_
      exact HP'.out
  · go_wp2_with fail
    refine (look_any b t cb w1 (HBb.out w1 b1).2).mono ?_
    rintro e w2 ⟨⟨hV, rfl⟩ | ⟨hV, rfl⟩, b2⟩
    · have bb := b1.trans (b2.mono b1.size)
      have HK : Hid (Calls Tryd.prog 37 #[.slice (dropA b cb 12) (bodyS t).length (cb - 12)] w2 fun e w' => OwnPost w2 w' e (bodyS t)) := clone_any _ _ _ w2 (by have := whole_len hV; omega) ((HBb.out w2 bb).2.lies.body (HBb.out w2 bb).2.lc)
      have HR : Hid (∀ w3 a3 c3, Below w.heap.size w w3 → OwnA w3 w.heap.size a3 c3 (bodyS t) → ChPost w w3 (.returned (.tuple #[.int .i64 1, .int .i64 (seqS t : Nat), .slice a3 (bodyS t).length c3, .nilIface])) s t) := fun w3 a3 c3 h1 h2 => ⟨h1, Or.inr ⟨1, t, a3, c3, sel_two hV (Or.inl hW), rfl, h2⟩⟩
      clear HBb b1 b2 hW hV
      generalize dropA b cb 12 = DB at *
      generalize dropA a ca 12 = DA at *
      generalize bodyS t = BT at *
      generalize bodyS s = BS at *
      generalize seqS t = QT at *
      generalize seqS s = QS at *
      go_wp2_with fail
      refine HK.out.mono ?_
      rintro e w3 ⟨a3, c3, rfl, o3, b3⟩
      have HP := HR.out w3 a3 c3 (bb.trans (b3.mono bb.size)) (o3.base bb.size)
      have HP' : Hid (ChPost w w3 (.returned (.tuple #[.int .i64 1, .int .i64 (QT : Nat), .slice a3 BT.length c3, .nilIface])) s t) := HP
      clear HP HR HK o3 b3
      go_wp2
      (try simp only [Exit.inBlock, Exit.then]); refine bodyPost_ret (results_tmp4 rfl _ _ _) rfl ?_
      exact HP'.out
    · have bb := b1.trans (b2.mono b1.size)
      have HP' : Hid (ChPost w w2 (.returned (.tuple #[.int .i64 0, .int .i64 0, .slice none 0 0, .iface 28 (.int .i64 4)])) s t) := ⟨bb, Or.inl ⟨sel_none hW hV, rfl⟩⟩
      clear HBb b1 b2 hW hV bb
      go_wp2
      (try simp only [Exit.inBlock, Exit.then]); refine bodyPost_ret (results_tmp4 rfl _ _ _) rfl ?_
      exact HP'.out
theorem sel_le {s t : List Nat} {k : Nat} {X : List Nat} (h : sel s t = some (k, X)) : k ≤ 1 := by
  obtain ⟨_, ⟨h1, _⟩ | ⟨h1, _⟩⟩ := sel_some h <;> omega
set_option maxRecDepth 20000 in
set_option maxHeartbeats 800000 in
theorem next_any (a b : Option Addr) (s t : List Nat) (ca cb : Nat) (w : World) (hA : BIn w a ca s) (hB : BIn w b cb t) :
    Calls Tryd.prog 24 #[.slice a s.length ca, .slice b t.length cb] w fun e w' => e = .returned (.int .i64 (nextF s t : Nat)) ∧ Below w.heap.size w w' := by
  have HC : Hid (Calls Tryd.prog 23 #[.slice a s.length ca, .slice b t.length cb] w fun e w' => ChPost w w' e s t) := choose_any a b s t ca cb w hA hB
  clear hA hB
  go_enter Tryd.func24, Tryd.ntmps24
  go_wp2_with fail
  refine HC.out.mono ?_
  rintro e w1 ⟨b1, ⟨hn, rfl⟩ | ⟨k, X, a1, c1, hs, rfl, _⟩⟩
  · have HV : Hid (nextF s t = 0) := nextF_none hn
    clear HC hn
    go_wp2
    go_ret
    exact ⟨by rw [HV.out]; rfl, b1⟩
  · have hk := sel_le hs
    have HV : Hid (((nextF s t : Nat) : Int) = 1 - (k : Int)) := by show _ = _; rw [nextF_some hs]; omega
    clear HC hs
    generalize seqS X = Q
    generalize bodyS X = B
    go_wp2
    go_ret
    exact ⟨by rw [HV.out]; rfl, b1⟩
end Go.Proofs.YtbajdgadljdnkaeDoor

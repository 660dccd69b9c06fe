/-
  What the call of bufferStep gives that drains.
-/
import Derived.Test.YtphacdnepjpmoafDoorStepG
namespace Go.Proofs.YtphacdnepjpmoafDoor
open Go.RowKit
set_option linter.unusedVariables false

/-- Where a slice of items begins that is cut from place l on. -/
def dropA (a : Option Addr) (cap l : Nat) : Option Addr := if cap = l then a else a.map (·.add (l * 3))
theorem slice_from (a : Option Addr) (n cap l : Nat) (h : l ≤ n) (w : World) : (Instr.slice 40 (.slice a n cap) (some (.int .i64 (l : Int))) none none).run Tryd.prog w = .ok (.slice (dropA a cap l) (n - l) (cap - l)) w := by
  have hu : Tryd.prog.underlying 40 = some (.slice (Tryd.prog.elem 40)) := by kernel_rfl
  have hs : (sizeOf (Tryd.prog.elem 40)).run Tryd.prog w = .ok 3 w := by kernel_rfl
  rw [run_slice_l w 40 _ n cap hu .i64 (l : Int) (by omega) (by omega), hs]
  simp [Result.andThen, sliced, dropA]
theorem RowAt.drop {T : TypeId} {w : World} {a : Option Addr} {M : List RN} {cap : Nat} (h : RowAt T w a M) (l : Nat) (hc : M.length ≤ cap) : RowAt T w (dropA a cap l) (M.drop l) := by
  by_cases hl : l < M.length
  · rcases h with h | ⟨g, off, cur, f, rfl, h1, h2⟩
    · rw [h] at hl; simp at hl
    · refine Or.inr ⟨g, off + l * 3, cur, f, ?_, h1, fun i hi => ?_⟩
      · unfold dropA
        rw [if_neg (by omega)]
        simp [Go.WideShapes.add_plain]
      · rw [List.length_drop] at hi
        rw [List.getElem?_drop]
        have := h2 (l + i) (by omega)
        have e : off + (l + i) * 3 = off + l * 3 + i * 3 := by omega
        rw [e] at this
        exact this
  · exact Or.inl (List.drop_eq_nil_of_le (by omega))
/-- What is there behind the program's Drain. -/
structure DS (B bb mb most rb : Nat) (w0 w2 : World) (L : List It) (l : Int) (ia : Option Addr) (icap : Nat) (M M1 : List RN) (a : Option Addr) : Prop where
  ls : LS B bb mb most w0 w2 (L.drop l.toNat)
  rf : RF w2 rb most ia icap M
  hM : M.map (·.it) = L
  dt : ∀ x ∈ M, Lies w0 x.a x.it.data ∧ x.it.data.length ≤ 140737488355328
  ge : B ≤ rb
  h1 : M1.map (·.it) = L.take l.toNat
  row : RowAt 55 w2 a M1
  da : ∀ x ∈ M1, OwnA w2 B x.a x.cap x.it.data
  ln : M1.length ≤ M.length
  eq : w0.heap.size = B
theorem DS.below {B bb mb most rb : Nat} {w0 w2 w' : World} {L : List It} {l : Int} {ia : Option Addr} {icap : Nat} {M M1 : List RN} {a : Option Addr} (h : DS B bb mb most rb w0 w2 L l ia icap M M1 a) (hb : Below w2.heap.size w2 w') : DS B bb mb most rb w0 w' L l ia icap M M1 a :=
  ⟨h.ls.below hb, h.rf.below hb, h.hM, h.dt, h.ge, h.h1, h.row.below hb, fun x hx => (h.da x hx).below hb, h.ln, h.eq⟩
theorem take_same {M M1 : List RN} {L : List It} {n : Nat} (h : M.map (·.it) = L) (h1 : M1.map (·.it) = L.take n) (k : Nat) (hk : k < M1.length) : (M[k]?.getD rn0).it = (M1[k]?.getD rn0).it ∧ k < M.length := by
  have e1 : (M1.map (·.it))[k]? = some (M1[k]?.getD rn0).it := lbaR_map M1 k hk
  have hkn : k < n ∧ k < L.length := by
    have := congrArg List.length h1
    rw [List.length_map, List.length_take] at this
    omega
  have hkm : k < M.length := by
    have := congrArg List.length h
    rw [List.length_map] at this
    omega
  have e2 : (M.map (·.it))[k]? = some (M[k]?.getD rn0).it := lbaR_map M k hkm
  rw [h1, List.getElem?_take, if_pos hkn.1, ← h, e2] at e1
  exact ⟨Option.some.inj e1, hkm⟩
/-- What a round meets. -/
theorem DS.round {B bb mb most rb : Nat} {w0 w2 : World} {L : List It} {l : Int} {ia : Option Addr} {icap : Nat} {M M1 : List RN} {a : Option Addr} (h : DS B bb mb most rb w0 w2 L l ia icap M M1 a) (k : Nat) (hk : k < M1.length) :
    ∃ (g off g1 off1 : Nat) (it : It) (ra a1 : Option Addr) (rc c1 : Nat), ia = some ⟨g, off, none⟩ ∧ a = some ⟨g1, off1, none⟩ ∧ k < M.length ∧ w2.cell? ⟨rb, 1, none⟩ = some (.slice (some ⟨g, off, none⟩) M.length icap)
      ∧ (w2.cell? ⟨g, off + k * 3, none⟩ = some (.int .i64 it.lba) ∧ w2.cell? ⟨g, off + k * 3 + 1, none⟩ = some (.bool it.gone) ∧ w2.cell? ⟨g, off + k * 3 + 2, none⟩ = some (.slice ra it.data.length rc))
      ∧ (w2.cell? ⟨g1, off1 + k * 3, none⟩ = some (.int .i64 it.lba) ∧ w2.cell? ⟨g1, off1 + k * 3 + 1, none⟩ = some (.bool it.gone) ∧ w2.cell? ⟨g1, off1 + k * 3 + 2, none⟩ = some (.slice a1 it.data.length c1))
      ∧ g1 < w2.heap.size ∧ Hid (Lies w2 ra it.data ∧ Lies w2 a1 it.data ∧ it.data.length ≤ 140737488355328) := by
  obtain ⟨e, hkm⟩ := take_same h.hM h.h1 k hk
  obtain ⟨g, off, e1, d0, d1, d2⟩ := h.rf.row.at hkm
  obtain ⟨g1, off1, e2, f0, f1, f2⟩ := h.row.at hk
  have hm : M[k]?.getD rn0 ∈ M := by rw [List.getElem?_eq_getElem hkm]; exact List.getElem_mem hkm
  have hm1 : M1[k]?.getD rn0 ∈ M1 := by rw [List.getElem?_eq_getElem hk]; exact List.getElem_mem hk
  have q1 := h.dt _ hm
  have q2 := (h.da _ hm1).lies
  rw [← e] at f0 f1 f2 q2
  exact ⟨g, off, g1, off1, (M[k]?.getD rn0).it, _, _, _, _, e1, e2, hkm, by rw [← e1]; exact h.rf.c1, ⟨d0, d1, d2⟩, ⟨f0, f1, f2⟩, World.block_lt_of_cell? w2 _ f0, q1.1.bel h.ls.bel (Nat.le_of_eq h.eq), q2, q1.2⟩
/-- The end. -/
theorem DS.fin {B bb mb most rb : Nat} {w0 w2 : World} {L : List It} {l : Int} {ia : Option Addr} {icap : Nat} {M M1 : List RN} {a : Option Addr} (h : DS B bb mb most rb w0 w2 L l ia icap M M1 a) : w2.cell? ⟨rb, 1, none⟩ = some (.slice ia M.length icap) ∧ w2.frozen? ⟨rb, 1, none⟩ = false
    ∧ PS B bb mb most rb w0 (w2.setCell ⟨rb, 1, none⟩ (.slice (dropA ia icap M1.length) (M.length - M1.length) (icap - M1.length))) (L.drop l.toNat) := by
  have hk : Keep (fun b => b = rb) w2 (w2.setCell ⟨rb, 1, none⟩ (.slice (dropA ia icap M1.length) (M.length - M1.length) (icap - M1.length))) := (Keep.refl _ _).set1 _ _
  have hlen : M1.length = min l.toNat L.length := by
    have := congrArg List.length h.h1
    rw [List.length_map, List.length_take] at this
    exact this
  have hML : M.length = L.length := by rw [← h.hM, List.length_map]
  refine ⟨h.rf.c1, row_free h.rf.bk 1, dropA ia icap M1.length, icap - M1.length, M.drop M1.length, h.ls.ref h.rf h.ge hk, ⟨?_, ?_, ?_, ?_⟩, ?_, fun x hx => h.dt x (List.mem_of_mem_drop hx), h.ge⟩
  · rw [set_blk h.rf.bk, List.length_drop]; rfl
  · refine (h.rf.row.drop M1.length h.rf.lc).keep hk (fun b cs f hb e => ?_)
    subst e
    rw [h.rf.bk] at hb
    injection hb with e1
    injection e1 with _ e2 _
    exact absurd e2 (by decide)
  · rw [List.length_drop]; have := h.rf.lc; omega
  · have := h.rf.cm; omega
  · rw [List.map_drop, h.hM, hlen]
    by_cases hc : l.toNat ≤ L.length
    · rw [Nat.min_eq_left hc]
    · rw [Nat.min_eq_right (by omega), List.drop_eq_nil_of_le (Nat.le_refl _), List.drop_eq_nil_of_le (by omega)]
set_option maxRecDepth 20000 in
set_option maxHeartbeats 3200000 in
theorem step_drain {B bb mb most rb : Nat} {w0 wr : World} {L : List It} (h : PS B bb mb most rb w0 wr L) (hB : w0.heap.size = B) (kd l : Int) (a : Option Addr) (sn cap : Nat) (k1 : kd ≠ 1) (k2 : kd ≠ 2) (k3 : kd ≠ 3) :
    Calls Tryd.prog 13 #[.pointer (some ⟨bb, 0, none⟩), .pointer (some ⟨rb, 0, none⟩), .agg #[.int .i64 kd, .int .i64 l, .slice a sn cap]] wr fun e w' => e = .returned (.bool true) ∧ ∃ L', PS B bb mb most rb w0 w' L' := by
  have hal := alloc_below' wr (.cells #[.int .i64 kd, .int .i64 l, .slice a sn cap] 45)
  have hbox := heap_alloc_new wr (.cells #[.int .i64 kd, .int .i64 l, .slice a sn cap] 45)
  obtain ⟨ia, icap, M, h1, h2, h3, h4, h5⟩ := h.below hal
  have t1 : (kd == 1) = false := by rw [beq_eq_false_iff_ne]; exact k1
  have t2 : (kd == 2) = false := by rw [beq_eq_false_iff_ne]; exact k2
  have t3 : (kd == 3) = false := by rw [beq_eq_false_iff_ne]; exact k3
  have HDr : Hid (Calls Tryd.prog 16 #[.pointer (some ⟨bb, 0, none⟩), .int .i64 l] (wr.alloc (.cells #[.int .i64 kd, .int .i64 l, .slice a sn cap] 45)) fun e w' => ∃ (M1 : List RN) (a1 : Option Addr) (c1 : Nat), e = .returned (.slice a1 M1.length c1) ∧ w'.cell? ⟨wr.heap.size, 1, none⟩ = some (.int .i64 l) ∧ w'.cell? ⟨rb, 1, none⟩ = some (.slice ia M.length icap) ∧ M1.length = min l.toNat M.length ∧ Hid (DS B bb mb most rb w0 w' L l ia icap M M1 a1)) := by
    refine (drain_any h1.bs l).mono ?_
    rintro e w' ⟨M1, a1, c1, e1, e2, e3, e4, e5, e6⟩
    have hlen : M1.length = min l.toNat M.length := by
      have := congrArg List.length e2
      rw [List.length_map, List.length_take, ← h3, List.length_map] at this
      exact this
    exact ⟨M1, a1, c1, e1, (box_apart hbox e6).1, (h2.apart e6).c1, hlen, h1.apart e5 e6, h2.apart e6, h3, h4, h5, e2, e3, e4, by omega, hB⟩
  have hlen : M.length ≤ 9223372036854775807 := Nat.le_trans h2.lc h2.cm
  have HS : Hid (∀ n W, n ≤ M.length → (Instr.slice 40 (.slice ia M.length icap) (some (.int .i64 (n : Int))) none none).run Tryd.prog W = .ok (.slice (dropA ia icap n) (M.length - n) (icap - n)) W) := fun n W hn => slice_from ia M.length icap n hn W
  clear h1 h2 h3 h4 h5 hal hbox hB h k1 k2 k3
  go_enter Tryd.func13, Tryd.ntmps13
  go_wp2_with fail
  refine HDr.out.mono ?_
  rintro e w2 ⟨M1, a1, c1, rfl, b1, b2, hm, hD⟩
  clear HDr
  have hsl := HS.out M1.length
  have HSl : Hid (∀ W, M1.length ≤ M.length → (Instr.slice 40 (.slice ia M.length icap) (some (.int .i64 (M1.length : Int))) none none).run Tryd.prog W = .ok (.slice (dropA ia icap M1.length) (M.length - M1.length) (icap - M1.length)) W) := hsl
  clear hsl HS
  have hmle : M1.length ≤ M.length := by omega
  by_cases hl : l < 0
  · have hz1 : M1.length = 0 := by omega
    generalize hz0 : M1.length = z at *
    have hzz : Hid (M1.length = 0) := by rw [← hz1]; exact hz0
    subst hz1
    clear hz0 hm
    have tg : decide (((M.length : Nat) : Int) < 0) = false := decide_eq_false (by omega)
    go_wp2
    go_loopw [19] (fun j wq => j = .int .i64 0 ∧ Hid (DS B bb mb most rb w0 wq L l ia icap M M1 a1)) (fun j _ => 0)
    case atStart => exact ⟨rfl, hD⟩
    case round =>
      obtain ⟨rfl, hq⟩ := hrel
      have hF := hq.out.fin
      rw [hzz.out] at hF
      obtain ⟨s1, s2, s3⟩ := hF
      have HF : Hid (PS B bb mb most rb w0 (wr.setCell ⟨rb, 1, none⟩ (.slice (dropA ia icap 0) (M.length - 0) (icap - 0))) (L.drop l.toNat)) := s3
      have hsl : ∀ W, (Instr.slice 40 (.slice ia M.length icap) (some (.int .i64 0)) none none).run Tryd.prog W = .ok (.slice (dropA ia icap 0) (M.length - 0) (icap - 0)) W := fun W => HSl.out W hmle
      clear hq HSl s3 hzz
      go_wp2
      go_ret
      exact ⟨rfl, _, HF.out⟩
  · by_cases hg : (M.length : Int) < l
    · have hlc : ¬ l < 0 := by omega
      have hz1 : M1.length = M.length := by omega
      generalize hz0 : M1.length = z at *
      have hzz : Hid (M1.length = M.length) := by rw [← hz1]; exact hz0
      subst hz1
      clear hz0 hm
      go_wp2
      go_loopw [19] (fun j wq => ∃ k : Nat, k ≤ M.length ∧ j = .int .i64 k ∧ Hid (DS B bb mb most rb w0 wq L l ia icap M M1 a1)) (fun j _ => M.length - (intOf j).toNat)
      case atStart => exact ⟨0, Nat.zero_le _, rfl, hD⟩
      case round =>
        obtain ⟨k, hk, rfl, hq⟩ := hrel
        clear hD b1 b2
        by_cases hlt : k < M.length
        · obtain ⟨g, off, g1, off1, it, ra, ya, rc, yc, e1, e2, hkm, r1, ⟨d0, d1, d2⟩, ⟨f0, f1, f2⟩, hg1, hLi⟩ := hq.out.round k (by rw [hzz.out]; exact hlt)
          subst e1 e2
          have hal := alloc_below' wr (.cells #[.int .i64 it.lba, .bool it.gone, .slice ra it.data.length rc] 71)
          have HBy : Hid (∀ q, Calls Tryd.prog 10 #[.slice ya it.data.length yc, .slice ra it.data.length rc] ((wr.alloc (.cells #[.int .i64 it.lba, .bool it.gone, .slice ra it.data.length rc] 71)).drewN q) fun e w' => e = .returned (.bool true) ∧ (w'.cell? ⟨g1, off1 + k * 3, none⟩ = some (.int .i64 it.lba) ∧ w'.cell? ⟨g1, off1 + k * 3 + 1, none⟩ = some (.bool it.gone) ∧ w'.cell? ⟨g1, off1 + k * 3 + 2, none⟩ = some (.slice ya it.data.length yc) ∧ w'.cell? ⟨wr.heap.size, 0, none⟩ = some (.int .i64 it.lba) ∧ w'.cell? ⟨wr.heap.size, 1, none⟩ = some (.bool it.gone) ∧ w'.cell? ⟨wr.heap.size, 2, none⟩ = some (.slice ra it.data.length rc)) ∧ Hid (∀ q, DS B bb mb most rb w0 (w'.drewN q) L l (some ⟨g, off, none⟩) icap M M1 (some ⟨g1, off1, none⟩))) := fun q => by
            have hbq : Below wr.heap.size wr ((wr.alloc (.cells #[.int .i64 it.lba, .bool it.gone, .slice ra it.data.length rc] 71)).drewN q) := below_drewN hal q
            have := bytes_any ya ra it.data it.data yc rc ((wr.alloc (.cells #[.int .i64 it.lba, .bool it.gone, .slice ra it.data.length rc] 71)).drewN q) hLi.out.2.2 hLi.out.2.2 (hLi.out.2.1.below hbq) (hLi.out.1.below hbq)
            rw [decide_eq_true rfl] at this
            refine this.mono ?_
            rintro e w' ⟨q1, q2⟩
            have hb2 : Below wr.heap.size wr w' := hbq.trans (q2.mono hbq.size)
            have hbx : w'.heap[wr.heap.size]? = some (.cells #[.int .i64 it.lba, .bool it.gone, .slice ra it.data.length rc] 71  (0, 0)) := (q2.block _ (by simp)).trans (heap_alloc_new wr _)
            exact ⟨q1, ⟨by rw [hb2.cell (p := ⟨g1, off1 + k * 3, none⟩) hg1]; exact f0, by rw [hb2.cell (p := ⟨g1, off1 + k * 3 + 1, none⟩) hg1]; exact f1, by rw [hb2.cell (p := ⟨g1, off1 + k * 3 + 2, none⟩) hg1]; exact f2, (ptr_at hbx).trans rfl, (ptr_at hbx).trans rfl, (ptr_at hbx).trans rfl⟩, fun q => hq.out.below (below_drewN hb2 q)⟩
          clear hq hLi hal HSl
          generalize it.lba = X at *
          generalize it.gone = G at *
          generalize it.data.length = dn at *
          go_wp2_with fail
          go_region_held3 (fun w' => w'.cell? ⟨g1, off1 + k * 3 + 2, none⟩ = some (.slice ya dn yc) ∧ w'.cell? ⟨wr.heap.size, 2, none⟩ = some (.slice ra dn rc)) (first | assumption | go_keep) (first | (go_at_call 10; refine (HBy.out _).mono ?_; rintro e w5 ⟨rfl, ⟨j0, j1, j2, j3, j4, j5⟩, hN⟩))
          go_wp2_with fail
          go_quiet (fail)
          go_wp2
          go_roundw
          case rel => exact ⟨k + 1, by omega, by go_num, hN.out _⟩
          case measure => simp [intOf]; omega
        · obtain rfl : k = M.length := by omega
          have hF := hq.out.fin
          rw [hzz.out] at hF
          obtain ⟨s1, s2, s3⟩ := hF
          rw [Nat.sub_self] at s3
          have HF : Hid (PS B bb mb most rb w0 (wr.setCell ⟨rb, 1, none⟩ (.slice (dropA ia icap M.length) 0 (icap - M.length))) (L.drop (l).toNat)) := s3
          have hsl := fun W => HSl.out W hmle
          clear hq HSl s3 hzz
          go_wp2
          go_ret
          exact ⟨rfl, _, HF.out⟩
    · have hlz : l = ((M1.length : Nat) : Int) := by omega
      subst hlz
      clear hl hg
      generalize hz0 : M1.length = z at *
      have hzz : Hid (M1.length = z) := hz0
      clear hz0 hm
      have tg : decide (M.length < z) = false := decide_eq_false (by omega)
      go_wp2
      go_loopw [19] (fun j wq => ∃ k : Nat, k ≤ z ∧ j = .int .i64 k ∧ Hid (DS B bb mb most rb w0 wq L ((z : Nat) : Int) ia icap M M1 a1)) (fun j _ => z - (intOf j).toNat)
      case atStart => exact ⟨0, Nat.zero_le _, rfl, hD⟩
      case round =>
        obtain ⟨k, hk, rfl, hq⟩ := hrel
        clear hD b1 b2
        by_cases hlt : k < z
        · obtain ⟨g, off, g1, off1, it, ra, ya, rc, yc, e1, e2, hkm, r1, ⟨d0, d1, d2⟩, ⟨f0, f1, f2⟩, hg1, hLi⟩ := hq.out.round k (by rw [hzz.out]; exact hlt)
          subst e1 e2
          have hal := alloc_below' wr (.cells #[.int .i64 it.lba, .bool it.gone, .slice ra it.data.length rc] 71)
          have HBy : Hid (∀ q, Calls Tryd.prog 10 #[.slice ya it.data.length yc, .slice ra it.data.length rc] ((wr.alloc (.cells #[.int .i64 it.lba, .bool it.gone, .slice ra it.data.length rc] 71)).drewN q) fun e w' => e = .returned (.bool true) ∧ (w'.cell? ⟨g1, off1 + k * 3, none⟩ = some (.int .i64 it.lba) ∧ w'.cell? ⟨g1, off1 + k * 3 + 1, none⟩ = some (.bool it.gone) ∧ w'.cell? ⟨g1, off1 + k * 3 + 2, none⟩ = some (.slice ya it.data.length yc) ∧ w'.cell? ⟨wr.heap.size, 0, none⟩ = some (.int .i64 it.lba) ∧ w'.cell? ⟨wr.heap.size, 1, none⟩ = some (.bool it.gone) ∧ w'.cell? ⟨wr.heap.size, 2, none⟩ = some (.slice ra it.data.length rc)) ∧ Hid (∀ q, DS B bb mb most rb w0 (w'.drewN q) L ((z : Nat) : Int) (some ⟨g, off, none⟩) icap M M1 (some ⟨g1, off1, none⟩))) := fun q => by
            have hbq : Below wr.heap.size wr ((wr.alloc (.cells #[.int .i64 it.lba, .bool it.gone, .slice ra it.data.length rc] 71)).drewN q) := below_drewN hal q
            have := bytes_any ya ra it.data it.data yc rc ((wr.alloc (.cells #[.int .i64 it.lba, .bool it.gone, .slice ra it.data.length rc] 71)).drewN q) hLi.out.2.2 hLi.out.2.2 (hLi.out.2.1.below hbq) (hLi.out.1.below hbq)
            rw [decide_eq_true rfl] at this
            refine this.mono ?_
            rintro e w' ⟨q1, q2⟩
            have hb2 : Below wr.heap.size wr w' := hbq.trans (q2.mono hbq.size)
            have hbx : w'.heap[wr.heap.size]? = some (.cells #[.int .i64 it.lba, .bool it.gone, .slice ra it.data.length rc] 71  (0, 0)) := (q2.block _ (by simp)).trans (heap_alloc_new wr _)
            exact ⟨q1, ⟨by rw [hb2.cell (p := ⟨g1, off1 + k * 3, none⟩) hg1]; exact f0, by rw [hb2.cell (p := ⟨g1, off1 + k * 3 + 1, none⟩) hg1]; exact f1, by rw [hb2.cell (p := ⟨g1, off1 + k * 3 + 2, none⟩) hg1]; exact f2, (ptr_at hbx).trans rfl, (ptr_at hbx).trans rfl, (ptr_at hbx).trans rfl⟩, fun q => hq.out.below (below_drewN hb2 q)⟩
          clear hq hLi hal HSl
          generalize it.lba = X at *
          generalize it.gone = G at *
          generalize it.data.length = dn at *
          go_wp2_with fail
          go_region_held3 (fun w' => w'.cell? ⟨g1, off1 + k * 3 + 2, none⟩ = some (.slice ya dn yc) ∧ w'.cell? ⟨wr.heap.size, 2, none⟩ = some (.slice ra dn rc)) (first | assumption | go_keep) (first | (go_at_call 10; refine (HBy.out _).mono ?_; rintro e w5 ⟨rfl, ⟨j0, j1, j2, j3, j4, j5⟩, hN⟩))
          go_wp2_with fail
          go_quiet (fail)
          go_wp2
          go_roundw
          case rel => exact ⟨k + 1, by omega, by go_num, hN.out _⟩
          case measure => simp [intOf]; omega
        · obtain rfl : k = z := by omega
          have hF := hq.out.fin
          rw [hzz.out] at hF
          obtain ⟨s1, s2, s3⟩ := hF
          have HF : Hid (PS B bb mb most rb w0 (wr.setCell ⟨rb, 1, none⟩ (.slice (dropA ia icap k) (M.length - k) (icap - k))) (L.drop (((k : Nat) : Int)).toNat)) := s3
          have hsl := fun W => HSl.out W hmle
          clear hq HSl s3 hzz
          go_wp2
          go_ret
          exact ⟨rfl, _, HF.out⟩
end Go.Proofs.YtphacdnepjpmoafDoor

/-
  What the call of keep gives where there is room.
-/
import Derived.Test.YtphacdnepjpmoafKeep
namespace Go.Proofs.Ytphacdnepjpmoaf
open Go.RowKit Go.Maps
set_option linter.unusedVariables false

/-- What the last statement of keep reads. -/
def KS (bb mb H : Nat) (it : It) (a : Option Addr) (cap : Nat) (w : World) : Prop :=
  w.cell? ⟨bb, 3, none⟩ = some (.map (some mb)) ∧ w.cell? ⟨H, 0, none⟩ = some (.int .i64 it.lba) ∧ w.cell? ⟨H, 1, none⟩ = some (.bool it.gone) ∧ w.cell? ⟨H, 2, none⟩ = some (.slice a it.data.length cap)
theorem BU.ks {w : World} {B bb mb most H : Nat} {N : List Nd} {it : It} {a : Option Addr} {cap : Nat} (h : BU w B bb mb most N) (hi : w.heap[H]? = some (iObj it a cap)) : KS bb mb H it a cap w :=
  ⟨(ptr_at h.bc.bk).trans rfl, (ptr_at hi).trans rfl, (ptr_at hi).trans rfl, (ptr_at hi).trans rfl⟩
/-- The list's add, and then the map's entry. -/
theorem add_step {w : World} {B bb mb most H : Nat} {N : List Nd} {it : It} {a : Option Addr} {cap : Nat} (h : BU w B bb mb most N) (hi : w.heap[H]? = some (iObj it a cap)) (hd1 : OwnA w B a cap it.data) (hf : fndN N it.lba = none) (hl : N.length < most) (h0 : 0 ≤ it.lba) (h9 : it.lba ≤ 9223372036854775807) (hq7 : it.data.length ≤ 140737488355328) :
    Calls Try.prog 24 #[.pointer (some ⟨bb, 1, none⟩), .agg #[.int .i64 it.lba, .bool it.gone, .slice a it.data.length cap]] w fun e w' => e = .returned (.pointer (some ⟨w.heap.size + 1, 0, none⟩)) ∧ KS bb mb H it a cap w' ∧
      ∃ w2, (Instr.mapUpdate 55 (.map (some mb)) (.int .i64 it.lba) (.pointer (some ⟨w.heap.size + 1, 0, none⟩))).run Try.prog w' = .ok () w2 ∧ BU w2 B bb mb most (N ++ [⟨w.heap.size + 1, it, a, cap⟩]) ∧ Keep (BM bb mb N) w w2 := by
  have hbl := heap_lt h.bc.bk
  obtain ⟨es, cl, hmb⟩ := h.mp.blk
  have hmlt := heap_lt hmb
  have hBl := h.lt
  have hne : bb ≠ mb := fun e => by have := h.bc.bk; rw [e, hmb] at this; cases this
  have hng : ∀ y ∈ N, y.g ≠ mb ∧ y.g < w.heap.size := fun y hy => by
    obtain ⟨p, n, hn⟩ := h.bc.ch.node y hy
    refine ⟨fun e => ?_, heap_lt hn⟩
    unfold NodeAt at hn
    rw [e, hmb] at hn
    cases hn
  refine (ladd_any h.bc it a cap).mono ?_
  rintro e w' ⟨rfl, hb, hk⟩
  have hmp : MP w' mb N := h.mp.keep hk (fun e => by
    rcases e with e | ⟨y, hy, e⟩
    · exact hne e.symm
    · exact (hng y hy).1 e.symm)
  have hi' : w'.heap[H]? = some (iObj it a cap) := (hk.block H (heap_lt hi) (fun e => by
    have hz : ¬ BM bb mb N H := fun hz => by
      rcases BM.ty h.bc h.mp hz hi with e | e
      · exact absurd e (by decide)
      · exact absurd e (by decide)
    exact hz (e.imp id Or.inr))).trans hi
  have hks : KS bb mb H it a cap w' := ⟨(ptr_at hb.bk).trans rfl, (ptr_at hi').trans rfl, (ptr_at hi').trans rfl, (ptr_at hi').trans rfl⟩
  obtain ⟨D, hD, hq⟩ := id hmp
  have hlen : N.length < maxLen := by have := h.m16; unfold maxLen; omega
  obtain ⟨w2, hrun, hown2, hturn⟩ := hD.store law Try.underlying55 hlen (key_lit it.lba (by omega)) (pEl_some (w.heap.size + 1))
  have hmp2 := mp_put (x := ⟨w.heap.size + 1, it, a, cap⟩) hmp hD hf hown2
  have k12 := keep_map hturn
  have k02 : Keep (BM bb mb N) w w2 := (hk.mono (fun i e => e.imp id Or.inr)).thru k12 (fun i _ e => Or.inr (Or.inl e))
  refine ⟨rfl, hks, w2, hrun, ⟨hb.keep k12 hne (fun y hy => ?_), hmp2, fun y hy => ?_, ⟨h.ge.1, h.ge.2.1, fun y hy => ?_⟩, ?_, h.m16⟩, k02⟩
  · rw [List.mem_append] at hy
    rcases hy with hy | hy
    · exact (hng y hy).1
    · simp at hy; subst hy; show w.heap.size + 1 ≠ mb; omega
  · rw [List.mem_append] at hy
    rcases hy with hy | hy
    · exact (h.dat y hy).keep k02 (fun b hb => (h.dat y hy).off h.bc h.mp hb)
    · simp at hy; subst hy
      exact hd1.keep k02 (fun b hb => hd1.off h.bc h.mp hb)
  · rw [List.mem_append] at hy
    rcases hy with hy | hy
    · exact h.ge.2.2 y hy
    · simp at hy; subst hy; show B ≤ w.heap.size + 1; omega
  · have hh : has (N.map (·.it)) it.lba = false := fnd_none (by rw [← fndN_it, hf]; rfl)
    have e := drp_no _ _ hh
    rw [List.map_append, ← e]
    refine ok_put (x := it) h.ok h9 hq7 ?_
    rcases putE_cases most (N.map (·.it)) it.lba with ⟨e, _⟩ | ⟨_, _, e, _⟩ | ⟨_, _, _, e⟩ | ⟨_, e, _⟩
    · omega
    · rw [List.length_map] at e; omega
    · exact e
    · rw [hh] at e; cases e
/-- What lies there ahead of the last statement. -/
structure KR (w : World) (B bb mb most H : Nat) (N : List Nd) (it : It) (a : Option Addr) (cap : Nat) : Prop where
  bu : BU w B bb mb most N
  ob : w.heap[H]? = some (iObj it a cap)
  da : OwnA w B a cap it.data
  fn : fndN N it.lba = none
  ln : N.length < most
  l0 : 0 ≤ it.lba
  l9 : it.lba ≤ 9223372036854775807
  d7 : it.data.length ≤ 140737488355328
theorem KR.below {w w' : World} {B bb mb most H : Nat} {N : List Nd} {it : It} {a : Option Addr} {cap : Nat} (h : KR w B bb mb most H N it a cap) (hb : Below w.heap.size w w') : KR w' B bb mb most H N it a cap :=
  ⟨h.bu.below hb, (hb.block H (heap_lt h.ob)).trans h.ob, h.da.below hb, h.fn, h.ln, h.l0, h.l9, h.d7⟩
theorem KR.ks {w : World} {B bb mb most H : Nat} {N : List Nd} {it : It} {a : Option Addr} {cap : Nat} (h : KR w B bb mb most H N it a cap) : KS bb mb H it a cap w := h.bu.ks h.ob
/-- What comes of it. -/
def KP (w0 w2 : World) (B bb mb most G : Nat) (N : List Nd) (it : It) (a : Option Addr) (cap : Nat) : Prop := BU w2 B bb mb most (N ++ [⟨G, it, a, cap⟩]) ∧ Keep (BM bb mb N) w0 w2
theorem KR.add {w0 w : World} {B bb mb most H : Nat} {N : List Nd} {it : It} {a : Option Addr} {cap : Nat} (h : KR w B bb mb most H N it a cap) (hb : Below w0.heap.size w0 w) :
    Calls Try.prog 24 #[.pointer (some ⟨bb, 1, none⟩), .agg #[.int .i64 it.lba, .bool it.gone, .slice a it.data.length cap]] w fun e w' => ∃ G, e = .returned (.pointer (some ⟨G, 0, none⟩)) ∧ KS bb mb H it a cap w' ∧
      ∃ w2, (Instr.mapUpdate 55 (.map (some mb)) (.int .i64 it.lba) (.pointer (some ⟨G, 0, none⟩))).run Try.prog w' = .ok () w2 ∧ KS bb mb H it a cap w2 ∧ Hid (KP w0 w2 B bb mb most G N it a cap) := by
  refine (add_step h.bu h.ob h.da h.fn h.ln h.l0 h.l9 h.d7).mono ?_
  rintro e w' ⟨h1, h2, w2, h3, h4, h5⟩
  have hz : ¬ BM bb mb N H := fun hz => by
    rcases BM.ty h.bu.bc h.bu.mp hz h.ob with e | e
    · exact absurd e (by decide)
    · exact absurd e (by decide)
  exact ⟨_, h1, h2, w2, h3, h4.ks ((h5.block H (heap_lt h.ob) hz).trans h.ob), h4, (Keep.of_below hb).thru h5 (fun i _ e => e)⟩
set_option maxRecDepth 100000 in
set_option maxHeartbeats 2000000 in
theorem keep_new {w : World} {B bb mb most : Nat} {N : List Nd} {it : It} {a : Option Addr} {cap : Nat} (h : BU w B bb mb most N) (hd1 : OwnA w B a cap it.data) (hf : fndN N it.lba = none) (hl : N.length < most) (h0 : 0 ≤ it.lba) (h9 : it.lba ≤ 9223372036854775807) (hq7 : it.data.length ≤ 140737488355328) :
    Calls Try.prog 19 #[.pointer (some ⟨bb, 0, none⟩), .agg #[.int .i64 it.lba, .bool it.gone, .slice a it.data.length cap]] w fun e w' => e = .returned .nilIface ∧ ∃ g, BU w' B bb mb most (N ++ [⟨g, it, a, cap⟩]) ∧ Keep (BM bb mb N) w w' := by
  have HB : Hid (∀ q, Below w.heap.size w ((w.alloc (iObj it a cap)).drewN q)) := fun q => below_drewN (alloc_below' w _) q
  have hB1 : ∀ q, BU ((w.alloc (iObj it a cap)).drewN q) B bb mb most N := fun q => h.below (HB.out q)
  have c3 : w.cell? ⟨bb, 3, none⟩ = some (.map (some mb)) := (ptr_at h.bc.bk).trans rfl
  have c0 : w.cell? ⟨bb, 0, none⟩ = some (.int .i64 most) := (ptr_at h.bc.bk).trans rfl
  have hbl := heap_lt h.bc.bk
  have hlk : (Instr.lookup 55 (.map (some mb)) (.int .i64 it.lba) true).run Try.prog (w.alloc (.cells #[.int .i64 it.lba, .bool it.gone, .slice a it.data.length cap] 45)).drew = .ok (.tuple #[.pointer none, .bool false]) (w.alloc (.cells #[.int .i64 it.lba, .bool it.gone, .slice a it.data.length cap] 45)).drew := by
    have := (hB1 1).mp.look it.lba (by omega)
    rw [hf] at this
    exact this
  have HL : Hid (∀ q, Calls Try.prog 14 #[.pointer (some ⟨bb, 0, none⟩)] ((w.alloc (.cells #[.int .i64 it.lba, .bool it.gone, .slice a it.data.length cap] 45)).drewN q) fun e w' => e = .returned (.int .i64 (N.length : Nat)) ∧ w' = ((w.alloc (.cells #[.int .i64 it.lba, .bool it.gone, .slice a it.data.length cap] 45)).drewN q)) := fun q => len_any (hB1 q)
  have hne : ((N.length : Nat) : Int) ≠ (most : Int) := by omega
  have HK : Hid (∀ q, KR ((w.alloc (.cells #[.int .i64 it.lba, .bool it.gone, .slice a it.data.length cap] 45)).drewN q) B bb mb most w.heap.size N it a cap ∧ Below w.heap.size w ((w.alloc (.cells #[.int .i64 it.lba, .bool it.gone, .slice a it.data.length cap] 45)).drewN q)) := fun q => ⟨⟨hB1 q, heap_alloc_new w _, hd1.below (HB.out q), hf, hl, h0, h9, hq7⟩, HB.out q⟩
  clear hB1 hf hd1 h hl
  go_enter Try.func19, Try.ntmps19
  go_wp2
  go_region
  all_goals (try go_wp2)
  go_quiet (first | exact (HL.out _).mono (fun _ _ ⟨he, hm⟩ => ⟨he, _, hm⟩))
  go_wp2
  have HZ : Hid (∀ q, KR ((((w.alloc (.cells #[.int .i64 it.lba, .bool it.gone, .slice a it.data.length cap] 45)).drew.drewN nq)).drewN q) B bb mb most w.heap.size N it a cap ∧ Below w.heap.size w ((((w.alloc (.cells #[.int .i64 it.lba, .bool it.gone, .slice a it.data.length cap] 45)).drew.drewN nq)).drewN q)) := fun q => ⟨(HK.out 1).1.below (below_drewN (below_drewN (Below.refl _ _) nq) q), below_drewN (below_drewN (HK.out 1).2 nq) q⟩
  generalize ((w.alloc (.cells #[.int .i64 it.lba, .bool it.gone, .slice a it.data.length cap] 45)).drew.drewN nq) = wz at HZ ⊢
  have hS : KS bb mb w.heap.size it a cap wz := (HZ.out 0).1.ks
  have HS : Hid (KS bb mb w.heap.size it a cap wz) := hS
  obtain ⟨s0, s1, s2, s3⟩ := hS
  clear hlk HL HK HB c0 c3 hne
  go_region_held3 (fun w' => w'.cell? ⟨bb, 3, none⟩ = some (.map (some mb)) ∧ w'.cell? ⟨w.heap.size, 0, none⟩ = some (.int .i64 it.lba) ∧ w'.cell? ⟨w.heap.size, 1, none⟩ = some (.bool it.gone) ∧ w'.cell? ⟨w.heap.size, 2, none⟩ = some (.slice a it.data.length cap)) (first | exact HS.out | assumption | go_keep) (first | (go_at_call 24; refine ((HZ.out _).1.add (HZ.out _).2).mono ?_; rintro e w' ⟨G, rfl, hS2, w2, hup, hS3, HF⟩))
  go_wp2
  go_ret
  exact ⟨rfl, G, HF.out⟩
theorem fndN_split {N : List Nd} {k : Int} {x : Nd} (h : fndN N k = some x) : ∃ A C, N = A ++ x :: C ∧ x.it.lba = k := by
  obtain ⟨h1, h2⟩ := fndN_some h
  obtain ⟨A, C, e⟩ := List.append_of_mem h1
  exact ⟨A, C, e, h2⟩
set_option maxRecDepth 100000 in
set_option maxHeartbeats 2000000 in
theorem keep_old {w : World} {B bb mb most : Nat} {A C : List Nd} {x : Nd} {it : It} {a : Option Addr} {cap : Nat} (h : BU w B bb mb most (A ++ x :: C)) (hd1 : OwnA w B a cap it.data) (hf : fndN (A ++ x :: C) it.lba = some x) (h0 : 0 ≤ it.lba) (h9 : it.lba ≤ 9223372036854775807) (hq7 : it.data.length ≤ 140737488355328) :
    Calls Try.prog 19 #[.pointer (some ⟨bb, 0, none⟩), .agg #[.int .i64 it.lba, .bool it.gone, .slice a it.data.length cap]] w fun e w' => e = .returned .nilIface ∧ ∃ g, BU w' B bb mb most ((A ++ C) ++ [⟨g, it, a, cap⟩]) ∧ Keep (BM bb mb (A ++ x :: C)) w w' := by
  have HB : Hid (∀ q, Below w.heap.size w ((w.alloc (iObj it a cap)).drewN q)) := fun q => below_drewN (alloc_below' w _) q
  have hB1 : ∀ q, BU ((w.alloc (iObj it a cap)).drewN q) B bb mb most (A ++ x :: C) := fun q => h.below (HB.out q)
  have c3 : w.cell? ⟨bb, 3, none⟩ = some (.map (some mb)) := (ptr_at h.bc.bk).trans rfl
  have c0 : w.cell? ⟨bb, 0, none⟩ = some (.int .i64 most) := (ptr_at h.bc.bk).trans rfl
  have hbl := heap_lt h.bc.bk
  have hlk : (Instr.lookup 55 (.map (some mb)) (.int .i64 it.lba) true).run Try.prog (w.alloc (.cells #[.int .i64 it.lba, .bool it.gone, .slice a it.data.length cap] 45)).drew = .ok (.tuple #[.pointer (some ⟨x.g, 0, none⟩), .bool true]) (w.alloc (.cells #[.int .i64 it.lba, .bool it.gone, .slice a it.data.length cap] 45)).drew := by
    have := (hB1 1).mp.look it.lba (by omega)
    rw [hf] at this
    exact this
  have HR : Hid (∀ q, Calls Try.prog 20 #[.pointer (some ⟨bb, 0, none⟩), .pointer (some ⟨x.g, 0, none⟩)] ((w.alloc (.cells #[.int .i64 it.lba, .bool it.gone, .slice a it.data.length cap] 45)).drewN q) fun e w' => e = .returned (itV x) ∧ KR w' B bb mb most w.heap.size (A ++ C) it a cap ∧ Keep (BM bb mb (A ++ x :: C)) w w') := fun q => by
    have hb2 : Below w.heap.size w ((w.alloc (iObj it a cap)).drewN q) := HB.out q
    have hB2 : BU ((w.alloc (iObj it a cap)).drewN q) B bb mb most (A ++ x :: C) := h.below hb2
    refine (rem_any hB2).mono ?_
    rintro e w' ⟨h1, h2, h3⟩
    have hi : ((w.alloc (iObj it a cap)).drewN q).heap[w.heap.size]? = some (iObj it a cap) := heap_alloc_new w _
    have hz : ¬ BM bb mb (A ++ x :: C) w.heap.size := fun hz => by
      rcases BM.ty hB2.bc hB2.mp hz hi with e | e
      · exact absurd e (by decide)
      · exact absurd e (by decide)
    have hx := (fndN_some hf).2
    have hn := BC.lbas h
    refine ⟨h1, ⟨h2, (h3.block _ (heap_lt hi) hz).trans hi, (hd1.below hb2).keep h3 (fun b hb => (hd1.below hb2).off hB2.bc hB2.mp hb), ?_, ?_, h0, h9, hq7⟩, (Keep.of_below hb2).thru h3 (fun i _ e => e)⟩
    · rw [fndN_mid A C x _ hn, if_pos hx.symm]
    · have := h.ok.ln
      rw [List.length_map, List.length_append, List.length_cons] at this
      rw [List.length_append]
      omega
  clear hB1 hf hd1 h
  go_enter Try.func19, Try.ntmps19
  go_wp2
  go_region
  all_goals (try go_wp2)
  go_quiet (fail)
  go_wp2_with fail
  refine (HR.out _).mono ?_
  rintro e wz ⟨rfl, hK, hKp⟩
  have HZ : Hid (∀ q, KR (wz.drewN q) B bb mb most w.heap.size (A ++ C) it a cap ∧ Below wz.heap.size wz (wz.drewN q)) := fun q => ⟨hK.below (below_drewN (Below.refl _ _) q), below_drewN (Below.refl _ _) q⟩
  have HKp : Hid (Keep (BM bb mb (A ++ x :: C)) w wz) := hKp
  have hS : KS bb mb w.heap.size it a cap wz := (HZ.out 0).1.ks
  have HS : Hid (KS bb mb w.heap.size it a cap wz) := hS
  obtain ⟨s0, s1, s2, s3⟩ := hS
  clear hlk HR HB c0 c3 hK hKp
  go_wp2_with fail
  go_region_held3 (fun w' => w'.cell? ⟨bb, 3, none⟩ = some (.map (some mb)) ∧ w'.cell? ⟨w.heap.size, 0, none⟩ = some (.int .i64 it.lba) ∧ w'.cell? ⟨w.heap.size, 1, none⟩ = some (.bool it.gone) ∧ w'.cell? ⟨w.heap.size, 2, none⟩ = some (.slice a it.data.length cap)) (first | exact HS.out | assumption | go_keep) (first | (go_at_call 24; refine ((HZ.out _).1.add (HZ.out _).2).mono ?_; rintro e w' ⟨G, rfl, hS2, w2, hup, hS3, HF⟩))
  go_wp2
  go_ret
  refine ⟨rfl, G, HF.out.1, HKp.out.thru HF.out.2 ?_⟩
  rintro i _ (e | e | ⟨y, hy, e⟩)
  · exact Or.inl e
  · exact Or.inr (Or.inl e)
  · exact Or.inr (Or.inr ⟨y, by simp at hy ⊢; rcases hy with hy | hy <;> simp [hy], e⟩)
end Go.Proofs.Ytphacdnepjpmoaf

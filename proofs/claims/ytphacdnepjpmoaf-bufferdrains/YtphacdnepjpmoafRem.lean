/-
  How a whole buffer lies; what the call of its remove gives.
-/
import Derived.Test.YtphacdnepjpmoafLadd
namespace Go.Proofs.Ytphacdnepjpmoaf
open Go.RowKit Go.Maps
set_option linter.unusedVariables false

/-- A BUFFER: in blocks from B on; it has the entries N. -/
structure BU (w : World) (B bb mb most : Nat) (N : List Nd) : Prop where
  bc : BC w bb mb most N
  mp : MP w mb N
  dat : ∀ x ∈ N, OwnA w B x.a x.cap x.it.data
  ge : B ≤ bb ∧ B ≤ mb ∧ ∀ x ∈ N, B ≤ x.g
  ok : Ok most (N.map (·.it))
  m16 : 1 ≤ most ∧ most ≤ 16
/-- Its blocks. -/
def BM (bb mb : Nat) (N : List Nd) (b : Nat) : Prop := b = bb ∨ b = mb ∨ ∃ y ∈ N, b = y.g
theorem BU.keep {S : Nat → Prop} {w w' : World} {B bb mb most : Nat} {N : List Nd} (h : BU w B bb mb most N) (hk : Keep S w w') (h1 : ∀ b, BM bb mb N b → ¬ S b) (h2 : ∀ x ∈ N, ∀ b, blk x.a b → ¬ S b) : BU w' B bb mb most N :=
  ⟨h.bc.keep hk (h1 _ (Or.inl rfl)) (fun x hx => h1 _ (Or.inr (Or.inr ⟨x, hx, rfl⟩))), h.mp.keep hk (h1 _ (Or.inr (Or.inl rfl))), fun x hx => (h.dat x hx).keep hk (h2 x hx), h.ge, h.ok, h.m16⟩
theorem BU.below {w w' : World} {B bb mb most : Nat} {N : List Nd} (h : BU w B bb mb most N) (hb : Below w.heap.size w w') : BU w' B bb mb most N := h.keep (S := fun _ => False) (Keep.of_below hb) (fun _ _ e => e) (fun _ _ _ _ e => e)
/-- Its blocks are an entry's, a buffer's, a map. -/
theorem BM.ty {w : World} {bb mb most : Nat} {N : List Nd} (h : BC w bb mb most N) (hm : MP w mb N) {b : Nat} (hb : BM bb mb N b) {cs : Array Value} {T : TypeId} {f : Nat × Nat} (hc : w.heap[b]? = some (.cells cs T f)) : T = 69 ∨ T = 60 := by
  rcases hb with rfl | rfl | ⟨y, hy, rfl⟩
  · rw [h.bk] at hc
    injection hc with h1
    injection h1 with _ h2 _
    exact Or.inr h2.symm
  · obtain ⟨es, c, e⟩ := hm.blk
    rw [e] at hc
    cases hc
  · obtain ⟨p, n, hn⟩ := h.ch.node y hy
    unfold NodeAt at hn
    rw [hn] at hc
    injection hc with h1
    injection h1 with _ h2 _
    exact Or.inl h2.symm
theorem OwnA.ty {w : World} {base cap : Nat} {a : Option Addr} {ys : List Nat} (h : OwnA w base a cap ys) {b : Nat} (hb : blk a b) : ∃ cur, w.heap[b]? = some (.cells cur 5 (0, 0)) := by
  obtain ⟨x, rfl, rfl⟩ := hb
  rcases h.parts with ⟨e, _, _⟩ | ⟨g, cur, e, h1, h2, _⟩
  · cases e
  · cases e
    exact ⟨cur, h2⟩
theorem OwnA.off {w : World} {base cap bb mb most : Nat} {a : Option Addr} {ys : List Nat} {N : List Nd} (h : OwnA w base a cap ys) (hB : BC w bb mb most N) (hm : MP w mb N) {b : Nat} (hb : blk a b) : ¬ BM bb mb N b := fun e => by
  obtain ⟨cur, hc⟩ := h.ty hb
  rcases BM.ty hB hm e hc with e | e
  · exact absurd e (by decide)
  · exact absurd e (by decide)
/-- ALL BUT BLOCKS FROM B ON, AND OF THESE ALL BUT ENTRIES, BUFFERS AND MAPS, IS AS IT WAS. -/
structure Apart (B : Nat) (w w' : World) : Prop where
  bel : Below B w w'
  oth : ∀ (b : Nat) (cs : Array Value) (T : TypeId) (f : Nat × Nat), w.heap[b]? = some (.cells cs T f) → T ≠ 69 → T ≠ 60 → w'.heap[b]? = w.heap[b]?
theorem Apart.refl (B : Nat) (w : World) : Apart B w w := ⟨Below.refl _ _, fun _ _ _ _ _ _ _ => rfl⟩
theorem Apart.trans {B : Nat} {a b c : World} (h : Apart B a b) (k : Apart B b c) : Apart B a c :=
  ⟨h.bel.trans k.bel, fun i cs T f hc h1 h2 => (k.oth i cs T f ((h.oth i cs T f hc h1 h2).trans hc) h1 h2).trans (h.oth i cs T f hc h1 h2)⟩
theorem Apart.of_below {B : Nat} {w w' : World} (h : Below w.heap.size w w') (hB : B ≤ w.heap.size) : Apart B w w' := ⟨h.mono hB, fun b cs T f hc _ _ => h.block b (heap_lt hc)⟩
theorem Apart.of_keep {w w' : World} {B bb mb most : Nat} {N : List Nd} (h : BU w B bb mb most N) (hk : Keep (BM bb mb N) w w') : Apart B w w' := by
  refine ⟨hk.below (Nat.le_of_lt (Nat.lt_of_le_of_lt h.ge.1 (heap_lt h.bc.bk))) (fun k hk => ?_), fun b cs T f hc h1 h2 => hk.block b (heap_lt hc) (fun e => ?_)⟩
  · rcases hk with rfl | rfl | ⟨y, hy, rfl⟩
    · exact h.ge.1
    · exact h.ge.2.1
    · exact h.ge.2.2 y hy
  · rcases BM.ty h.bc h.mp e hc with e | e
    · exact h1 e
    · exact h2 e
theorem OwnA.apart {w w' : World} {B base cap : Nat} {a : Option Addr} {ys : List Nat} (h : OwnA w base a cap ys) (hk : Apart B w w') : OwnA w' base a cap ys := by
  refine ⟨h.1, ?_⟩
  rcases h.2 with h2 | ⟨g, cap', cur, hv, r1, r2, r3⟩
  · exact Or.inl h2
  · exact Or.inr ⟨g, cap', cur, hv, r1, (hk.oth g _ _ _ r2 (by decide) (by decide)).trans r2, r3⟩
theorem BU.lt {w : World} {B bb mb most : Nat} {N : List Nd} (h : BU w B bb mb most N) : B ≤ w.heap.size := Nat.le_of_lt (Nat.lt_of_le_of_lt h.ge.1 (heap_lt h.bc.bk))
theorem BC.lbas {w : World} {B bb mb most : Nat} {N : List Nd} (h : BU w B bb mb most N) : (N.map (·.it.lba)).Nodup := by
  have := h.ok.nd
  rw [List.map_map] at this
  exact this
def itV (x : Nd) : Value := .agg #[.int .i64 x.it.lba, .bool x.it.gone, .slice x.a x.it.data.length x.cap]
theorem keep_map {w w' : World} {mb : Nat} (h : w.mapTurned w' mb) : Keep (fun b => b = mb) w w' := by
  have := h.grown
  exact ⟨this.os, this.tape, this.output, this.size, fun k hk hs => this.block k hk (fun e => hs (by cases e; rfl))⟩
def zItem : Obj := .cells #[.int .i64 0, .bool false, .slice none 0 0] 45
/-- Behind the list's remove: what is deleted, and what then lies there. -/
theorem rem_step {w w1 : World} {B bb mb most : Nat} {A C : List Nd} {x : Nd} (h : BU w B bb mb most (A ++ x :: C)) (hb : BC w1 bb mb most (A ++ C)) (hn : NodeAt w1 x (lst none A) (hd C none)) (hk : Keep (NB bb (A ++ C)) (w.alloc zItem) w1) :
    ∃ w2, (Builtin.delete_ #[55, 3] 0 #[.map (some mb), .int .i64 x.it.lba]).run Try.prog w1.drew = .ok (.tuple #[]) w2 ∧ BU w2 B bb mb most (A ++ C) ∧ NodeAt w2 x (lst none A) (hd C none) ∧ Keep (BM bb mb (A ++ x :: C)) w w2 ∧ w2.heap[w.heap.size]? = some zItem := by
  have hbm := heap_lt h.bc.bk
  have hm0 := h.mp.blk
  obtain ⟨es, cl, hmb⟩ := hm0
  have hmlt := heap_lt hmb
  have hne : bb ≠ mb := fun e => by have := h.bc.bk; rw [e, hmb] at this; cases this
  have hng : ∀ y ∈ A ++ x :: C, y.g ≠ mb ∧ y.g < w.heap.size := fun y hy => by
    obtain ⟨p, n, hn⟩ := h.bc.ch.node y hy
    refine ⟨fun e => ?_, heap_lt hn⟩
    unfold NodeAt at hn
    rw [e, hmb] at hn
    cases hn
  have hsub : ∀ y, y ∈ A ++ C → y ∈ A ++ x :: C := fun y hy => by simp at hy ⊢; rcases hy with e | e <;> simp [e]
  have hal : Keep (BM bb mb (A ++ x :: C)) w (w.alloc zItem) := (Keep.refl _ _).alloc _
  have hnb : ∀ i, NB bb (A ++ C) i → BM bb mb (A ++ x :: C) i := fun i e => by
    rcases e with e | ⟨y, hy, e⟩
    · exact Or.inl e
    · exact Or.inr (Or.inr ⟨y, hsub y hy, e⟩)
  have k01 : Keep (BM bb mb (A ++ x :: C)) w w1 := hal.thru hk (fun i _ e => hnb i e)
  have hmp1 : MP w1 mb (A ++ x :: C) := (h.mp.keep (S := fun _ => False) ((Keep.refl _ _).alloc _) (fun e => e)).keep hk (fun e => by
    rcases e with e | ⟨y, hy, e⟩
    · exact hne e.symm
    · exact (hng y (hsub y hy)).1 e.symm)
  have hmp1' : MP w1.drew mb (A ++ x :: C) := hmp1
  obtain ⟨D, hD, hq⟩ := hmp1
  have hD' : w1.drew.ownsMap Try.prog 3 pEl mb (A ++ x :: C).length D := hD.drew
  have hx := h.ok.rg x.it (List.mem_map.2 ⟨x, by simp, rfl⟩)
  obtain ⟨w2, hrun, hown2, hturn⟩ := hD'.drop law Try.underlying55 (key_lit x.it.lba (by omega)) 0
  have hmp2 := mp_del hmp1' hD' (BC.lbas h) hown2
  have hkm := keep_map hturn
  have k12 : Keep (fun b => b = mb) w1 w2 := ((Keep.refl _ w1).drew).thru hkm (fun _ _ e => e)
  have k02 : Keep (BM bb mb (A ++ x :: C)) w w2 := k01.thru k12 (fun i _ e => Or.inr (Or.inl e))
  refine ⟨w2, hrun, ⟨hb.keep k12 hne (fun y hy => (hng y (hsub y hy)).1), hmp2, fun y hy => ?_, ⟨h.ge.1, h.ge.2.1, fun y hy => h.ge.2.2 y (hsub y hy)⟩, ?_, h.m16⟩, ?_, k02, ?_⟩
  · exact (h.dat y (hsub y hy)).keep k02 (fun b hb => (h.dat y (hsub y hy)).off h.bc h.mp hb)
  · have := h.ok
    rw [List.map_append, List.map_cons] at this
    have e := drp_mid (A.map (·.it)) (C.map (·.it)) x.it this.nd
    rw [List.map_append, ← e]
    exact ⟨drp_nodup _ this.nd, fun y hy => this.rg y (drp_mem hy).1, Nat.le_trans (drp_len _ _) this.ln, fun y hy => this.dl y (drp_mem hy).1⟩
  · exact (k12.block x.g (heap_lt hn) (hng x (by simp)).1).trans hn
  · have e1 : w1.heap[w.heap.size]? = some zItem := by
      refine (hk.block w.heap.size (by simp) (fun e => ?_)).trans (heap_alloc_new w _)
      rcases e with e | ⟨y, hy, e⟩
      · omega
      · have := (hng y (hsub y hy)).2; omega
    exact (k12.block w.heap.size (heap_lt e1) (by omega)).trans e1
/-- The result's own block is written. -/
theorem BU.own {w w' : World} {B bb mb most g : Nat} {N : List Nd} (h : BU w B bb mb most N) (hk : Keep (fun b => b = g) w w') {cs : Array Value} {T : TypeId} {f : Nat × Nat} (hg : w.heap[g]? = some (.cells cs T f)) (h1 : T ≠ 69) (h2 : T ≠ 60) (h5 : T ≠ 5) : BU w' B bb mb most N := by
  refine h.keep hk (fun b hb e => ?_) (fun x hx b hb e => ?_)
  · subst e
    rcases BM.ty h.bc h.mp hb hg with e | e
    · exact h1 e
    · exact h2 e
  · subst e
    obtain ⟨cur, e⟩ := (h.dat x hx).ty hb
    rw [hg] at e
    injection e with e1
    injection e1 with _ e2 _
    exact h5 e2
set_option maxRecDepth 100000 in
set_option maxHeartbeats 2000000 in
theorem rem_any {w : World} {B bb mb most : Nat} {A C : List Nd} {x : Nd} (h : BU w B bb mb most (A ++ x :: C)) :
    Calls Try.prog 20 #[.pointer (some ⟨bb, 0, none⟩), .pointer (some ⟨x.g, 0, none⟩)] w fun e w' => e = .returned (itV x) ∧ BU w' B bb mb most (A ++ C) ∧ Keep (BM bb mb (A ++ x :: C)) w w' := by
  have hal : Keep (fun _ => False) w (w.alloc zItem) := (Keep.refl _ _).alloc _
  have H1 : Hid (Calls Try.prog 25 #[.pointer (some ⟨bb, 1, none⟩), .pointer (some ⟨x.g, 0, none⟩)] (w.alloc (.cells #[.int .i64 0, .bool false, .slice none 0 0] 45)) fun e w' => e = .returned (.tuple #[]) ∧ BC w' bb mb most (A ++ C) ∧ NodeAt w' x (lst none A) (hd C none) ∧ Keep (NB bb (A ++ C)) (w.alloc zItem) w') := lrem_any (h.bc.keep hal (fun e => e) (fun _ _ e => e))
  have HN : Hid (∀ w1, BC w1 bb mb most (A ++ C) → NodeAt w1 x (lst none A) (hd C none) → Keep (NB bb (A ++ C)) (w.alloc zItem) w1 → w1.cell? ⟨bb, 3, none⟩ = some (.map (some mb)) ∧ w1.cell? ⟨x.g, 0, none⟩ = some (.int .i64 x.it.lba)
      ∧ ∃ w2, (Builtin.delete_ #[55, 3] 0 #[.map (some mb), .int .i64 x.it.lba]).run Try.prog w1.drew = .ok (.tuple #[]) w2 ∧ w2.cell? ⟨x.g, 0, none⟩ = some (.int .i64 x.it.lba) ∧ w2.cell? ⟨x.g, 1, none⟩ = some (.bool x.it.gone) ∧ w2.cell? ⟨x.g, 2, none⟩ = some (.slice x.a x.it.data.length x.cap)
      ∧ (∀ o, w2.frozen? ⟨w.heap.size, o, none⟩ = false) ∧ w2.cell? ⟨w.heap.size, 0, none⟩ = some (.int .i64 0) ∧ w2.cell? ⟨w.heap.size, 1, none⟩ = some (.bool false) ∧ w2.cell? ⟨w.heap.size, 2, none⟩ = some (.slice none 0 0)
      ∧ Hid (w2.heap[w.heap.size]? = some zItem) ∧ Hid (∀ w3, Keep (fun b => b = w.heap.size) w2 w3 → BU w3 B bb mb most (A ++ C) ∧ Keep (BM bb mb (A ++ x :: C)) w w3)) := by
    intro w1 hb hn hk
    obtain ⟨w2, hrun, hB2, hn2, hk2, hz2⟩ := rem_step h hb hn hk
    refine ⟨(ptr_at hb.bk).trans rfl, (ptr_at hn).trans rfl, w2, hrun, (ptr_at hn2).trans rfl, (ptr_at hn2).trans rfl, (ptr_at hn2).trans rfl, row_free hz2, (ptr_at hz2).trans rfl, (ptr_at hz2).trans rfl, (ptr_at hz2).trans rfl, hz2, fun w3 hk3 => ⟨hB2.own hk3 hz2 (by decide) (by decide) (by decide), hk2.thru hk3 (fun i hi e => by omega)⟩⟩
  clear hal h
  go_enter Try.func20, Try.ntmps20
  go_wp2_with fail
  refine H1.out.mono ?_
  rintro e w1 ⟨rfl, hb, hn, hk⟩
  obtain ⟨c0, c1, w2, hdel, d0, d1, d2, fr, z0, z1, z2, HZ, HF⟩ := HN.out w1 hb hn hk
  clear H1 HN hb hn hk
  have fr0 := fr 0
  have fr1 := fr 1
  have fr2 := fr 2
  clear fr
  go_wp2
  go_region
  all_goals (try go_wp2)
  all_goals (
    refine bodyPost_ret_by (results_cell_row rfl _ _ w.heap.size 45 #[.int .i64 x.it.lba, .bool x.it.gone, .slice x.a x.it.data.length x.cap] (0, 0) _ rfl ?_ Try.underlying45 rfl (by kernel_rfl)) rfl ⟨rfl, HF.out _ ((((Keep.refl _ _).set1 _ _).set1 _ _).set1 _ _)⟩
    have e0 : w2.heap[w.heap.size]? = some (.cells #[.int .i64 0, .bool false, .slice none 0 0] 45 (0, 0)) := HZ.out
    rw [set_blk (set_blk (set_blk e0 _) _) _]
    rfl)
end Go.Proofs.Ytphacdnepjpmoaf

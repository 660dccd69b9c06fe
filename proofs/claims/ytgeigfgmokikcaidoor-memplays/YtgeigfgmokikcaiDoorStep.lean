/-
  What lies there between two calls on both memories; what the calls of memStep give.
-/
import Derived.Test.YtgeigfgmokikcaiDoorRef
namespace Go.Proofs.YtgeigfgmokikcaiDoor
open Go.RowKit
set_option linter.unusedVariables false

/-- One call of a script. -/
structure OpD where
  kind : Int
  at_ : Int
  n : Int
  a : Option Addr
  data : List Nat
  cap : Nat
/-- .. as it lies at the i-th place. -/
structure OpAt (w : World) (b off i : Nat) (o : OpD) : Prop where
  k0 : w.cell? ⟨b, off + i * 4, none⟩ = some (.int .i64 o.kind)
  k1 : w.cell? ⟨b, off + i * 4 + 1, none⟩ = some (.int .i64 o.at_)
  k2 : w.cell? ⟨b, off + i * 4 + 2, none⟩ = some (.int .i64 o.n)
  k3 : w.cell? ⟨b, off + i * 4 + 3, none⟩ = some (.slice o.a o.data.length o.cap)
  li : BIn w o.a o.cap o.data
  r1 : -9223372036854775808 ≤ o.at_ ∧ o.at_ ≤ 9223372036854775807
theorem BIn.bel {w w' : World} {B : Nat} {a : Option Addr} {c : Nat} {bs : List Nat} (h : BIn w a c bs) (hb : Below B w w') (hB : w.heap.size ≤ B) : BIn w' a c bs := h.below (hb.mono hB)
theorem OpAt.below {w w' : World} {b off i B : Nat} {o : OpD} (h : OpAt w b off i o) (hb : Below B w w') (hB : w.heap.size ≤ B) : OpAt w' b off i o := by
  have hc : ∀ q, w'.cell? ⟨b, q, none⟩ = w.cell? ⟨b, q, none⟩ := fun q => hb.cell (p := ⟨b, q, none⟩) (Nat.lt_of_lt_of_le (World.block_lt_of_cell? w ⟨b, off + i * 4, none⟩ h.k0) hB)
  exact ⟨by rw [hc]; exact h.k0, by rw [hc]; exact h.k1, by rw [hc]; exact h.k2, by rw [hc]; exact h.k3, h.li.bel hb hB, h.r1⟩
/-- A script of n calls. -/
def Script (w : World) (a : Option Addr) (n : Nat) : Prop := n = 0 ∨ ∃ b off, a = some ⟨b, off, none⟩ ∧ ∀ i, i < n → ∃ o, OpAt w b off i o
theorem Script.slice {w : World} {a : Option Addr} {n i : Nat} (h : Script w a n) (hi : i < n) : ∃ b off, a = some ⟨b, off, none⟩ ∧ ∃ o, OpAt w b off i o := by
  rcases h with h | ⟨b, off, e, h⟩
  · omega
  · exact ⟨b, off, e, h i hi⟩
/-- ONE MEMORY HOLDS THE BYTES l, the document's the bytes r. -/
structure QM (B mb hb rb : Nat) (w0 w : World) (l r : List Nat) : Prop where
  mw : MW w mb hb l
  row : Row w rb r
  bm : B ≤ mb
  bh : B ≤ hb
  br : B ≤ rb
  nm : rb ≠ mb
  nh : rb ≠ hb
  bel : Below B w0 w
  sz : w0.heap.size = B
theorem QM.ge {B mb hb rb : Nat} {w0 w : World} {l r : List Nat} (h : QM B mb hb rb w0 w l r) : B ≤ w.heap.size := by rw [← h.sz]; exact h.bel.size
theorem QM.below {B mb hb rb : Nat} {w0 w w' : World} {l r : List Nat} (h : QM B mb hb rb w0 w l r) (hw : Below w.heap.size w w') : QM B mb hb rb w0 w' l r :=
  ⟨h.mw.below hw, h.row.below hw, h.bm, h.bh, h.br, h.nm, h.nh, h.bel.trans (hw.mono h.ge), h.sz⟩
theorem QM.keep {B mb hb rb : Nat} {S : Nat → Prop} {w0 w w' : World} {l r : List Nat} (h : QM B mb hb rb w0 w l r) (hk : Keep S w w') (h1 : ¬ S mb) (h2 : ¬ S hb) (h3 : ¬ S rb) (hS : ∀ k, S k → B ≤ k) : QM B mb hb rb w0 w' l r :=
  ⟨h.mw.keep hk h1 h2, h.row.keep hk h3, h.bm, h.bh, h.br, h.nm, h.nh, h.bel.trans (hk.below h.ge hS), h.sz⟩
/-- The program's has turned. -/
theorem QM.left {B mb hb rb : Nat} {w0 w w' : World} {l l' r : List Nat} (h : QM B mb hb rb w0 w l r) (hm : MW w' mb hb l') (hk : Keep (fun b => b = hb) w w') : QM B mb hb rb w0 w' l' r :=
  ⟨hm, h.row.keep hk h.nh, h.bm, h.bh, h.br, h.nm, h.nh, h.bel.trans (hk.below h.ge (fun k e => by rw [e]; exact h.bh)), h.sz⟩
/-- The document's has turned. -/
theorem QM.right {B mb hb rb : Nat} {w0 w w' : World} {l r r' : List Nat} (h : QM B mb hb rb w0 w l r) (hr : Row w' rb r') (hk : Keep (fun b => b = rb) w w') : QM B mb hb rb w0 w' l r' :=
  ⟨h.mw.keep hk (fun e => h.nm e.symm) (fun e => h.nh e.symm), hr, h.bm, h.bh, h.br, h.nm, h.nh, h.bel.trans (hk.below h.ge (fun k e => by rw [e]; exact h.br)), h.sz⟩
theorem QM.et {B mb hb rb : Nat} {w0 w : World} {l r : List Nat} (h : QM B mb hb rb w0 w l r) (hE : EType w0) : EType w := hE.below h.bel (by rw [← h.sz]; exact hE.pos)
/-- The box of an operation. -/
def Box (w : World) (H : Nat) (k a n : Int) (s : Value) : Prop := w.heap[H]? = some (.cells #[.int .i64 k, .int .i64 a, .int .i64 n, s] 33)
theorem Box.cells {w : World} {H : Nat} {k a n : Int} {s : Value} (h : Box w H k a n s) : w.cell? ⟨H, 1, none⟩ = some (.int .i64 a) ∧ w.cell? ⟨H, 2, none⟩ = some (.int .i64 n) ∧ w.cell? ⟨H, 3, none⟩ = some s := by
  unfold Box at h
  refine ⟨?_, ?_, ?_⟩ <;> (unfold World.cell?; simp only [h]; rfl)
theorem Box.below {w w' : World} {H : Nat} {k a n : Int} {s : Value} (h : Box w H k a n s) (hb : Below w.heap.size w w') : Box w' H k a n s := (hb.block H (heap_lt h)).trans h
theorem Box.keep {S : Nat → Prop} {w w' : World} {H : Nat} {k a n : Int} {s : Value} (h : Box w H k a n s) (hk : Keep S w w') (hs : ¬ S H) : Box w' H k a n s := (hk.block H (heap_lt h) hs).trans h
/-- Both memories and the box. -/
structure QB (B mb hb rb H : Nat) (w0 w : World) (l r : List Nat) (k a n : Int) (s : Value) : Prop where
  qm : QM B mb hb rb w0 w l r
  box : Box w H k a n s
  hm : H ≠ mb
  hh : H ≠ hb
  hr : H ≠ rb
  hB : B ≤ H
theorem QB.below {B mb hb rb H : Nat} {w0 w w' : World} {l r : List Nat} {k a n : Int} {s : Value} (h : QB B mb hb rb H w0 w l r k a n s) (hw : Below w.heap.size w w') : QB B mb hb rb H w0 w' l r k a n s := ⟨h.qm.below hw, h.box.below hw, h.hm, h.hh, h.hr, h.hB⟩
theorem QB.left {B mb hb rb H : Nat} {w0 w w' : World} {l l' r : List Nat} {k a n : Int} {s : Value} (h : QB B mb hb rb H w0 w l r k a n s) (hm : MW w' mb hb l') (hk : Keep (fun b => b = hb) w w') : QB B mb hb rb H w0 w' l' r k a n s := ⟨h.qm.left hm hk, h.box.keep hk h.hh, h.hm, h.hh, h.hr, h.hB⟩
theorem QB.right {B mb hb rb H : Nat} {w0 w w' : World} {l r r' : List Nat} {k a n : Int} {s : Value} (h : QB B mb hb rb H w0 w l r k a n s) (hr : Row w' rb r') (hk : Keep (fun b => b = rb) w w') : QB B mb hb rb H w0 w' l r' k a n s := ⟨h.qm.right hr hk, h.box.keep hk h.hr, h.hm, h.hh, h.hr, h.hB⟩
/-- A cell of a block that is none of these has turned. -/
theorem QB.far {B mb hb rb H : Nat} {w0 w : World} {l r : List Nat} {k a n : Int} {s : Value} (h : QB B mb hb rb H w0 w l r k a n s) (g o : Nat) (u : Value) (h1 : g ≠ mb) (h2 : g ≠ hb) (h3 : g ≠ rb) (h4 : g ≠ H) (h5 : B ≤ g) : QB B mb hb rb H w0 (w.setCell ⟨g, o, none⟩ u) l r k a n s := by
  have hk : Keep (fun b => b = g) w (w.setCell ⟨g, o, none⟩ u) := (Keep.refl _ w).set1 o u
  exact ⟨h.qm.keep hk (fun e => h1 e.symm) (fun e => h2 e.symm) (fun e => h3 e.symm) (fun b e => by rw [e]; exact h5), h.box.keep hk (fun e => h4 e.symm), h.hm, h.hh, h.hr, h.hB⟩
theorem QM.boxed {B mb hb rb : Nat} {w0 w : World} {l r : List Nat} (h : QM B mb hb rb w0 w l r) (k a n : Int) (s : Value) : QB B mb hb rb w.heap.size w0 (w.alloc (.cells #[.int .i64 k, .int .i64 a, .int .i64 n, s] 33)) l r k a n s := by
  have h1 := h.mw.lt
  have h2 := heap_lt h.row
  exact ⟨h.below (alloc_below' w _), heap_alloc_new w _, by omega, by omega, by omega, h.ge⟩
/-- Those from place k on are as they were. -/
def Flip (w : World) (base : Nat) (a : Option Addr) (ys : List Nat) (k : Nat) : Prop := ∀ j, k ≤ j → j < ys.length → ∃ g, a = some ⟨g, 0, none⟩ ∧ base ≤ g ∧ g < w.heap.size ∧ w.cell? ⟨g, j, none⟩ = some (.int .u8 ((ys[j]?.getD 0 : Nat) : Int)) ∧ w.frozen? ⟨g, j, none⟩ = false
theorem OwnA.flip {w : World} {base cap : Nat} {a : Option Addr} {ys : List Nat} (h : OwnA w base a cap ys) : Flip w base a ys 0 := by
  intro j _ hj
  have hl := h.lies
  rcases h.parts with ⟨_, _, e⟩ | ⟨g, cur, rfl, h1, h2, _⟩
  · rw [e] at hj; simp at hj
  · rcases hl with e | ⟨b, off, e, hc⟩
    · rw [e] at hj; simp at hj
    · cases e
      have := hc j hj
      rw [Nat.zero_add] at this
      exact ⟨g, rfl, h1, heap_lt h2, this, row_free h2 j⟩
theorem Flip.set {w : World} {base g k : Nat} {ys : List Nat} (h : Flip w base (some ⟨g, 0, none⟩) ys k) (u : Value) : Flip (w.setCell ⟨g, k, none⟩ u) base (some ⟨g, 0, none⟩) ys (k + 1) := by
  intro j hj hj2
  obtain ⟨g', e, h1, h0, h2, h3⟩ := h j (by omega) hj2
  cases e
  exact ⟨g, rfl, h1, Nat.lt_of_lt_of_le h0 (((Below.refl 0 w).setCell (p := ⟨g, k, none⟩) (Nat.zero_le _) u).size), by rw [far _ (by omega)]; exact h2, by rw [World.frozen?_setCell]; exact h3⟩
theorem Flip.keep {S : Nat → Prop} {w w' : World} {base k : Nat} {a : Option Addr} {ys : List Nat} (h : Flip w base a ys k) (hk : Keep S w w') (hs : ∀ b, S b → b < base) : Flip w' base a ys k := by
  intro j hj hj2
  obtain ⟨g, e, h1, hlt, h2, h3⟩ := h j hj hj2
  have hn : ¬ S g := fun e => by have := hs g e; omega
  exact ⟨g, e, h1, Nat.lt_of_lt_of_le hlt hk.size, by rw [hk.cell (p := ⟨g, j, none⟩) hlt hn]; exact h2, by rw [hk.frozen (p := ⟨g, j, none⟩) hlt hn]; exact h3⟩
theorem Flip.below {w w' : World} {base k : Nat} {a : Option Addr} {ys : List Nat} (h : Flip w base a ys k) (hb : Below w.heap.size w w') : Flip w' base a ys k := h.keep (S := fun _ => False) (Keep.of_below hb) (fun _ e => e.elim)
/-- What a step gives. -/
def LenIs (l : List Nat) (N : Nat) : Prop := l.length = N
def StepPost (B mb hb rb N : Nat) (w0 w' : World) (e : Ending) : Prop := e = .returned (.bool true) ∧ ∃ l', QM B mb hb rb w0 w' l' l' ∧ LenIs l' N
set_option maxRecDepth 20000 in
set_option maxHeartbeats 1600000 in
/-- Read is refused. -/
theorem step_read_no {B mb hb rb : Nat} {w0 wr : World} {l : List Nat} (h : QM B mb hb rb w0 wr l l) {N : Nat} (hN : LenIs l N) (hE : EType w0) (i n : Int) (s : Value) (hi : -9223372036854775808 ≤ i ∧ i ≤ 9223372036854775807) (hf : ¬ fits l.length i n) :
    Calls Tryd.prog 6 #[.pointer (some ⟨mb, 0, none⟩), .slice (some ⟨rb, 0, none⟩) l.length l.length, .agg #[.int .i64 1, .int .i64 i, .int .i64 n, s]] wr fun e w' => StepPost B mb hb rb N w0 w' e := by
  have HQ := h.boxed 1 i n s
  obtain ⟨W1, hW1⟩ : ∃ W, W = wr.alloc (.cells #[.int .i64 1, .int .i64 i, .int .i64 n, s] 33) := ⟨_, rfl⟩
  rw [← hW1] at HQ
  have HR : Hid (Calls Tryd.prog 7 #[.pointer (some ⟨mb, 0, none⟩), .int .i64 i, .int .i64 n] W1 fun e w' => e = .returned (.tuple #[.slice none 0 0, .iface 29 (.int .i64 1)]) ∧ W1 = w') := read_no mb hb l i n W1 HQ.qm.mw hf hi
  have HF : Hid (Calls Tryd.prog 11 #[.int .i64 (l.length : Nat), .int .i64 i, .int .i64 n] W1 fun e w' => e = .returned (.bool false) ∧ W1 = w') := by
    have := rfits_any l.length i n W1 HQ.qm.mw.long hi
    rw [decide_eq_false hf] at this
    exact this
  have HEr : Hid (Calls Tryd.prog 5 #[.iface 29 (.int .i64 1), .int .i64 1] W1 fun e w' => e = .returned (.bool true) ∧ QM B mb hb rb w0 w' l l) := (error_same 1 W1 (HQ.qm.et hE)).mono fun e w' ⟨h1, h2⟩ => ⟨h1, HQ.qm.below h2⟩
  obtain ⟨b1, b2, b3⟩ := HQ.box.cells
  clear HQ h hE hf
  generalize l.length = L at *
  go_enter Tryd.func6, Tryd.ntmps6
  go_wp2_with fail
  rw [← hW1]
  refine HR.out.mono ?_
  rintro e w2 ⟨rfl, rfl⟩
  clear HR hW1
  go_wp2_with fail
  refine HF.out.mono ?_
  rintro e w3 ⟨rfl, rfl⟩
  clear HF
  go_wp2_with fail
  refine HEr.out.mono ?_
  rintro e w4 ⟨rfl, h4⟩
  clear HEr
  go_wp2
  go_ret
  exact ⟨rfl, l, h4, hN⟩
set_option maxRecDepth 20000 in
set_option maxHeartbeats 1600000 in
/-- Read. -/
theorem step_read_yes {B mb hb rb : Nat} {w0 wr : World} {l : List Nat} (h : QM B mb hb rb w0 wr l l) {N : Nat} (hN : LenIs l N) (i n : Nat) (s : Value) (hf : i + n ≤ l.length) :
    Calls Tryd.prog 6 #[.pointer (some ⟨mb, 0, none⟩), .slice (some ⟨rb, 0, none⟩) l.length l.length, .agg #[.int .i64 1, .int .i64 (i : Nat), .int .i64 (n : Nat), s]] wr fun e w' => StepPost B mb hb rb N w0 w' e := by
  have HQ := h.boxed 1 i n s
  obtain ⟨H, hH⟩ : ∃ H, H = wr.heap.size := ⟨_, rfl⟩
  obtain ⟨W1, hW1⟩ : ∃ W, W = wr.alloc (.cells #[.int .i64 1, .int .i64 (i : Nat), .int .i64 (n : Nat), s] 33) := ⟨_, rfl⟩
  rw [← hW1] at HQ
  rw [← hH] at HQ
  have hl := HQ.qm.mw.long
  obtain ⟨X, HX⟩ : ∃ X, Hid (X = cut l i n) := ⟨_, rfl⟩
  have hXl : X.length = n := by rw [HX.out]; exact cut_len hf
  have HR : Hid (Calls Tryd.prog 7 #[.pointer (some ⟨mb, 0, none⟩), .int .i64 (i : Nat), .int .i64 (n : Nat)] W1 fun e w' => ∃ a c, e = .returned (.tuple #[.slice a X.length c, .nilIface]) ∧ Hid (OwnA w' W1.heap.size a c X ∧ Below W1.heap.size W1 w')) := by
    refine (read_yes mb hb l i n W1 HQ.qm.mw hf).mono ?_
    rintro e w' ⟨a, c, h1, h2, h3⟩
    rw [← HX.out] at h1 h2
    exact ⟨a, c, h1, h2, h3⟩
  have HF : Hid (∀ W, Calls Tryd.prog 11 #[.int .i64 (l.length : Nat), .int .i64 (i : Nat), .int .i64 (n : Nat)] W fun e w' => e = .returned (.bool true) ∧ W = w') := fun W => by
    have := rfits_any l.length i n W hl (by omega)
    rw [decide_eq_true ⟨by omega, by omega, by omega⟩] at this
    exact this
  have hsl := fun wz => slice_ln (some ⟨rb, 0, none⟩) l.length l.length i n hf wz
  obtain ⟨DA, HDA⟩ : ∃ DA, Hid (dropA (some ⟨rb, 0, none⟩) l.length i = DA) := ⟨_, rfl⟩
  rw [HDA.out] at hsl
  have HB : Hid (∀ W a c, OwnA W W1.heap.size a c X → Below W1.heap.size W1 W → Calls Tryd.prog 9 #[.slice a X.length c, .slice DA n (l.length - i)] W fun e w' => e = .returned (.bool true) ∧ Hid (Flip w' W1.heap.size a X 0 ∧ Below W1.heap.size W1 w')) := fun W a c hO hW => by
    have hr := (HQ.below hW).qm.row
    have hli : Lies W DA X := by
      rw [← HDA.out, HX.out]
      exact (row_lies hr).mid i n (Nat.le_refl _)
    have := bytes_same a DA X c (l.length - i) W (by omega) hO.lies hli
    rw [hXl] at this ⊢
    exact this.mono fun e w' ⟨e1, e2⟩ => ⟨e1, (hO.below e2).flip, hW.trans (e2.mono hW.size)⟩
  have HC : Hid (∀ W, Below W1.heap.size W1 W → W.cell? ⟨H, 1, none⟩ = some (.int .i64 (i : Nat)) ∧ W.cell? ⟨H, 2, none⟩ = some (.int .i64 (n : Nat))) := fun W hW => ⟨((HQ.below hW).box.cells).1, ((HQ.below hW).box.cells).2.1⟩
  have HPs : Hid (∀ W, Below W1.heap.size W1 W → QM B mb hb rb w0 W l l) := fun W hW => HQ.qm.below hW
  have hn63 : n ≤ 16384 := by omega
  have hi63 : i ≤ 16384 := by omega
  have HXl : Hid (X.length = n) := hXl
  have hx63 : X.length ≤ 16384 := by omega
  obtain ⟨b1, b2⟩ := HC.out W1 (Below.refl _ _)
  clear HQ h hf HX HDA hXl
  generalize l.length - i = LI at *
  generalize l.length = L at *
  go_enter Tryd.func6, Tryd.ntmps6
  rw [hH] at b1 b2
  rw [hW1] at b1 b2
  go_wp2_with fail
  rw [← hW1]
  refine HR.out.mono ?_
  rintro e w2 ⟨a2, c2, rfl, h2⟩
  clear HR b1 b2
  obtain ⟨b1, b2⟩ := HC.out w2 h2.out.2
  rw [hH] at b1 b2
  clear hW1
  go_wp2_with fail
  refine (HF.out w2).mono ?_
  rintro e w3 ⟨rfl, rfl⟩
  clear HF
  go_wp2_with fail
  refine (HB.out w2 a2 c2 h2.out.1 h2.out.2).mono ?_
  rintro e w4 ⟨rfl, h4⟩
  clear HB h2 b1 b2 hsl HC
  go_wp2
  go_loopw [11] (fun j wq => ∃ k : Nat, k ≤ X.length ∧ j = .int .i64 k ∧ Hid (Flip wq W1.heap.size a2 X k ∧ Below W1.heap.size W1 wq)) (fun j _ => X.length - (intOf j).toNat)
  case atStart => exact ⟨0, Nat.zero_le _, rfl, h4⟩
  case round =>
    obtain ⟨k, hk, rfl, hq⟩ := hrel
    clear h4
    by_cases hlt : k < X.length
    · obtain ⟨gd, hgd, hge, _, hcd, hfd⟩ := hq.out.1 k (Nat.le_refl _) hlt
      subst hgd
      have HN : Hid (∀ u, Flip (wr.setCell ⟨gd, k, none⟩ u) W1.heap.size (some ⟨gd, 0, none⟩) X (k + 1) ∧ Below W1.heap.size W1 (wr.setCell ⟨gd, k, none⟩ u)) := fun u => ⟨hq.out.1.set u, hq.out.2.setCell hge u⟩
      clear hq
      generalize X[k]?.getD 0 = v at *
      go_wp2
      exact ⟨⟨k + 1, by omega, by go_num, HN.out _⟩, by simp [intOf]; omega⟩
    · obtain rfl : k = X.length := by omega
      have HF : Hid (QM B mb hb rb w0 wr l l) := HPs.out _ hq.out.2
      clear hq HPs
      go_wp2
      go_ret
      exact ⟨rfl, l, HF.out, hN⟩
end Go.Proofs.YtgeigfgmokikcaiDoor

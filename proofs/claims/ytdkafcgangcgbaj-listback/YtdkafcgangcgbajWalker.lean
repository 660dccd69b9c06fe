/-
  A walker in memory; what its take gives.
-/
import Derived.Test.YtdkafcgangcgbajTake
namespace Go.Proofs.Ytdkafcgangcgbaj
open Go.RowKit
set_option linter.unusedVariables false

/-- A WALKER OF A MEMORY LIES AT wb, behind all that was there; it has met acc, and left are left. -/
structure WS (B : Nat) (w : World) (mb hb wb : Nat) (l : List Nat) (a : Option Addr) (cap : Nat) (acc : List Sg) (left : Nat) : Prop where
  mw : MW w mb hb l
  mlt : mb < B
  hlt : hb < B
  wge : B ≤ wb
  c0 : w.cell? ⟨wb, 0, none⟩ = some (.pointer (some ⟨mb, 0, none⟩))
  c1 : w.cell? ⟨wb, 1, none⟩ = some (.slice a acc.length cap)
  c2 : w.cell? ⟨wb, 2, none⟩ = some (.int .i64 (left : Nat))
  fz : ∀ o, w.frozen? ⟨wb, o, none⟩ = false
  own : OwnS w B a cap acc
  ne : ∀ b, blk a b → b ≠ wb
  few : acc.length + left ≤ 4096
theorem WS.lt {B : Nat} {w : World} {mb hb wb : Nat} {l : List Nat} {a : Option Addr} {cap : Nat} {acc : List Sg} {left : Nat} (h : WS B w mb hb wb l a cap acc left) : wb < w.heap.size := World.block_lt_of_cell? w _ h.c0
theorem WS.below {B : Nat} {w w' : World} {mb hb wb : Nat} {l : List Nat} {a : Option Addr} {cap : Nat} {acc : List Sg} {left : Nat} (h : WS B w mb hb wb l a cap acc left) (hb' : Below w.heap.size w w') : WS B w' mb hb wb l a cap acc left :=
  ⟨h.mw.below hb', h.mlt, h.hlt, h.wge, (hb'.cell (p := ⟨wb, 0, none⟩) h.lt).trans h.c0, (hb'.cell (p := ⟨wb, 1, none⟩) h.lt).trans h.c1, (hb'.cell (p := ⟨wb, 2, none⟩) h.lt).trans h.c2, fun o => (World.frozen?_of_block (w := w) (a := ⟨wb, o, none⟩) (hb'.block wb h.lt)).trans (h.fz o), h.own.below hb', h.ne, h.few⟩
theorem WS.held {B : Nat} {w w' : World} {mb hb wb : Nat} {l : List Nat} {a : Option Addr} {cap : Nat} {acc : List Sg} {left : Nat} (h : WS B w mb hb wb l a cap acc left) (p n : Int) (x : Nat) (hk : Below ((w.alloc (.cells #[.int .i64 p, .int .i64 n] 35)).drewN x).heap.size ((w.alloc (.cells #[.int .i64 p, .int .i64 n] 35)).drewN x) w') :
    WS B w' mb hb wb l a cap acc left ∧ Below w.heap.size w w' ∧ w.heap.size < w'.heap.size ∧ w'.cell? ⟨wb, 0, none⟩ = some (.pointer (some ⟨mb, 0, none⟩)) ∧ w'.cell? ⟨w.heap.size, 0, none⟩ = some (.int .i64 p) ∧ w'.cell? ⟨w.heap.size, 1, none⟩ = some (.int .i64 n) := by
  have HB : Below w.heap.size w ((w.alloc (.cells #[.int .i64 p, .int .i64 n] 35)).drewN x) := below_drewN (alloc_below' w _) x
  have hb2 : Below w.heap.size w w' := HB.trans (hk.mono HB.size)
  have hsz : w.heap.size < ((w.alloc (.cells #[.int .i64 p, .int .i64 n] 35)).drewN x).heap.size := by simp
  refine ⟨h.below hb2, hb2, Nat.lt_of_lt_of_le hsz hk.size, (h.below hb2).c0, ?_, ?_⟩
  · rw [hk.cell (p := ⟨w.heap.size, 0, none⟩) hsz]; simp
  · rw [hk.cell (p := ⟨w.heap.size, 1, none⟩) hsz]; simp
theorem WS.size {B : Nat} {w : World} {mb hb wb : Nat} {l : List Nat} {a : Option Addr} {cap : Nat} {acc : List Sg} {left : Nat} (h : WS B w mb hb wb l a cap acc left) : B ≤ w.heap.size := by have := h.lt; have := h.wge; omega
/-- One segment more, and fewer are left. -/
theorem WS.turn {B : Nat} {w w1 : World} {mb hb wb : Nat} {l : List Nat} {a : Option Addr} {cap : Nat} {acc : List Sg} {left : Nat} (h : WS B w mb hb wb l a cap acc left) {g cap1 : Nat} {s : Sg} {n : Nat} (hk : Keep (blk a) w w1) (ho : OwnS w1 B (some ⟨g, 0, none⟩) cap1 (acc ++ [s])) (hg : blk a g ∨ w.heap.size ≤ g) (hn : 0 < n ∧ n ≤ left) :
    WS B ((w1.setCell ⟨wb, 1, none⟩ (.slice (some ⟨g, 0, none⟩) (acc.length + 1) cap1)).setCell ⟨wb, 2, none⟩ (.int .i64 ((left - n : Nat) : Int))) mb hb wb l (some ⟨g, 0, none⟩) cap1 (acc ++ [s]) (left - n) ∧
    Below B w ((w1.setCell ⟨wb, 1, none⟩ (.slice (some ⟨g, 0, none⟩) (acc.length + 1) cap1)).setCell ⟨wb, 2, none⟩ (.int .i64 ((left - n : Nat) : Int))) := by
  have hlt := h.lt
  have hwn : ¬ blk a wb := fun e => h.ne wb e rfl
  have hgw : g ≠ wb := by
    rcases hg with e | e
    · exact h.ne g e
    · omega
  have hkw : Keep (fun b => b = wb) w1 ((w1.setCell ⟨wb, 1, none⟩ (.slice (some ⟨g, 0, none⟩) (acc.length + 1) cap1)).setCell ⟨wb, 2, none⟩ (.int .i64 ((left - n : Nat) : Int))) := ((Keep.refl _ _).set1 _ _).set1 _ _
  have hk2 : Keep (fun b => blk a b ∨ b = wb) w ((w1.setCell ⟨wb, 1, none⟩ (.slice (some ⟨g, 0, none⟩) (acc.length + 1) cap1)).setCell ⟨wb, 2, none⟩ (.int .i64 ((left - n : Nat) : Int))) := (hk.mono (fun _ => Or.inl)).trans (hkw.mono (fun _ => Or.inr))
  have hbl : ∀ b, blk a b → B ≤ b := fun b e => (h.own.blk e).1
  have hmS : ∀ b, b < B → ¬ (blk a b ∨ b = wb) := fun b hb e => by
    rcases e with e | e
    · have := hbl b e; omega
    · have := h.wge; omega
  have c0' : w1.cell? ⟨wb, 0, none⟩ = _ := (hk.cell (p := ⟨wb, 0, none⟩) hlt hwn).trans h.c0
  have c1' : w1.cell? ⟨wb, 1, none⟩ = _ := (hk.cell (p := ⟨wb, 1, none⟩) hlt hwn).trans h.c1
  have c2' : w1.cell? ⟨wb, 2, none⟩ = _ := (hk.cell (p := ⟨wb, 2, none⟩) hlt hwn).trans h.c2
  refine ⟨⟨h.mw.keep hk2 (hmS _ h.mlt) (hmS _ h.hlt), h.mlt, h.hlt, h.wge, ?_, ?_, ?_, fun o => ?_, ho.keep hkw (fun b e c => ?_), fun b e => ?_, ?_⟩, hk2.below h.size (fun b e => ?_)⟩
  · rw [far _ (by omega), far _ (by omega)]; exact c0'
  · rw [far _ (by omega), World.cell?_setCell_same _ _ _ c1', List.length_append]; rfl
  · exact World.cell?_setCell_same _ _ _ (by rw [far _ (by omega)]; exact c2')
  · rw [World.frozen?_setCell, World.frozen?_setCell]
    exact (hk.frozen (p := ⟨wb, o, none⟩) hlt hwn).trans (h.fz o)
  · obtain ⟨x, e, rfl⟩ := e
    cases e
    exact hgw c
  · obtain ⟨x, e, rfl⟩ := e
    cases e
    exact hgw
  · have := h.few; rw [List.length_append]; simp only [List.length_cons, List.length_nil]; omega
  · rcases e with e | e
    · exact hbl b e
    · have := h.wge; omega

set_option maxRecDepth 20000 in
set_option maxHeartbeats 1600000 in
/-- A segment that does not lie in the memory. -/
theorem take_noA (B mb hb wb : Nat) (l : List Nat) (a : Option Addr) (cap : Nat) (acc : List Sg) (left : Nat) (p : Int) (room : Nat) (w : World) (h : WS B w mb hb wb l a cap acc left) (hp : p ≤ 9223372036854775807) (hn : left < room) (hf : ¬ fits l.length p (left : Nat)) :
    Calls Try.prog 21 #[.pointer (some ⟨wb, 0, none⟩), .int .i64 p, .int .i64 (room : Nat)] w fun e w' => e = .returned (.iface 48 (.int .i64 1)) ∧ Below B w w' := by
  have c0 := h.c0
  have c2 := h.c2
  have hs0 : Hid (B ≤ w.heap.size) := h.size
  have few := h.few
  have HA : Hid ((∀ b, blk a b → b < w.heap.size) ∧ wb < w.heap.size) := ⟨fun b e => (h.own.blk e).2, h.lt⟩
  have H0 : Hid (∀ x, (fun w' => w'.cell? ⟨wb, 0, none⟩ = some (.pointer (some ⟨mb, 0, none⟩)) ∧ w'.cell? ⟨w.heap.size, 0, none⟩ = some (.int .i64 p) ∧ w'.cell? ⟨w.heap.size, 1, none⟩ = some (.int .i64 (left : Nat))) ((w.alloc (.cells #[.int .i64 p, .int .i64 (left : Nat)] 35)).drewN x)) := fun x => (h.held p (left : Nat) x (Below.refl _ _)).2.2.2
  have HL : Hid (∀ x, Calls Try.prog 27 #[.pointer (some ⟨mb, 0, none⟩), .agg #[.int .i64 p, .int .i64 (left : Nat)]] ((w.alloc (.cells #[.int .i64 p, .int .i64 (left : Nat)] 35)).drewN x) fun e w' => e = .returned (.bool false) ∧ WS B w' mb hb wb l a cap acc left ∧ Below w.heap.size w w' ∧ w.heap.size < w'.heap.size ∧ (fun w' => w'.cell? ⟨wb, 0, none⟩ = some (.pointer (some ⟨mb, 0, none⟩)) ∧ w'.cell? ⟨w.heap.size, 0, none⟩ = some (.int .i64 p) ∧ w'.cell? ⟨w.heap.size, 1, none⟩ = some (.int .i64 (left : Nat))) w') := fun x => by
    have := lies_any mb hb l p (left : Nat) ((w.alloc (.cells #[.int .i64 p, .int .i64 (left : Nat)] 35)).drewN x) (h.mw.below (below_drewN (alloc_below' w _) x)) hp
    rw [decide_eq_false hf] at this
    exact this.mono fun e w' ⟨h1, h2⟩ => ⟨h1, h.held p (left : Nat) x h2⟩
  clear h hf
  go_enter Try.func21, Try.ntmps21
  go_wp2
  go_region_held3 (fun w' => w'.cell? ⟨wb, 0, none⟩ = some (.pointer (some ⟨mb, 0, none⟩)) ∧ w'.cell? ⟨w.heap.size, 0, none⟩ = some (.int .i64 p) ∧ w'.cell? ⟨w.heap.size, 1, none⟩ = some (.int .i64 (left : Nat))) (first | exact H0.out _ | exact H0.out 0 | exact ⟨z0, s0, s1⟩ | assumption | go_keep) (first | (go_at_call 27; refine (HL.out _).mono ?_; rintro e w2 ⟨rfl, hWS, hW, hlt2, z0, s0, s1⟩))
  have HW : Hid (Below B w w2) := hW.mono hs0.out
  clear hWS hW H0 HL
  go_wp2
  go_ret
  exact ⟨rfl, HW.out⟩
set_option maxRecDepth 20000 in
set_option maxHeartbeats 1600000 in
/-- A segment that does not lie in the memory. -/
theorem take_noB (B mb hb wb : Nat) (l : List Nat) (a : Option Addr) (cap : Nat) (acc : List Sg) (left : Nat) (p : Int) (room : Nat) (w : World) (h : WS B w mb hb wb l a cap acc left) (hp : p ≤ 9223372036854775807) (hn : room ≤ left) (hf : ¬ fits l.length p (room : Nat)) :
    Calls Try.prog 21 #[.pointer (some ⟨wb, 0, none⟩), .int .i64 p, .int .i64 (room : Nat)] w fun e w' => e = .returned (.iface 48 (.int .i64 1)) ∧ Below B w w' := by
  have c0 := h.c0
  have c2 := h.c2
  have hs0 : Hid (B ≤ w.heap.size) := h.size
  have few := h.few
  have HA : Hid ((∀ b, blk a b → b < w.heap.size) ∧ wb < w.heap.size) := ⟨fun b e => (h.own.blk e).2, h.lt⟩
  have H0 : Hid (∀ x, (fun w' => w'.cell? ⟨wb, 0, none⟩ = some (.pointer (some ⟨mb, 0, none⟩)) ∧ w'.cell? ⟨w.heap.size, 0, none⟩ = some (.int .i64 p) ∧ w'.cell? ⟨w.heap.size, 1, none⟩ = some (.int .i64 (room : Nat))) ((w.alloc (.cells #[.int .i64 p, .int .i64 (room : Nat)] 35)).drewN x)) := fun x => (h.held p (room : Nat) x (Below.refl _ _)).2.2.2
  have HL : Hid (∀ x, Calls Try.prog 27 #[.pointer (some ⟨mb, 0, none⟩), .agg #[.int .i64 p, .int .i64 (room : Nat)]] ((w.alloc (.cells #[.int .i64 p, .int .i64 (room : Nat)] 35)).drewN x) fun e w' => e = .returned (.bool false) ∧ WS B w' mb hb wb l a cap acc left ∧ Below w.heap.size w w' ∧ w.heap.size < w'.heap.size ∧ (fun w' => w'.cell? ⟨wb, 0, none⟩ = some (.pointer (some ⟨mb, 0, none⟩)) ∧ w'.cell? ⟨w.heap.size, 0, none⟩ = some (.int .i64 p) ∧ w'.cell? ⟨w.heap.size, 1, none⟩ = some (.int .i64 (room : Nat))) w') := fun x => by
    have := lies_any mb hb l p (room : Nat) ((w.alloc (.cells #[.int .i64 p, .int .i64 (room : Nat)] 35)).drewN x) (h.mw.below (below_drewN (alloc_below' w _) x)) hp
    rw [decide_eq_false hf] at this
    exact this.mono fun e w' ⟨h1, h2⟩ => ⟨h1, h.held p (room : Nat) x h2⟩
  clear h hf
  go_enter Try.func21, Try.ntmps21
  go_wp2
  go_region_held3 (fun w' => w'.cell? ⟨wb, 0, none⟩ = some (.pointer (some ⟨mb, 0, none⟩)) ∧ w'.cell? ⟨w.heap.size, 0, none⟩ = some (.int .i64 p) ∧ w'.cell? ⟨w.heap.size, 1, none⟩ = some (.int .i64 (room : Nat))) (first | exact H0.out _ | exact H0.out 0 | exact ⟨z0, s0, s1⟩ | assumption | go_keep) (first | (go_at_call 27; refine (HL.out _).mono ?_; rintro e w2 ⟨rfl, hWS, hW, hlt2, z0, s0, s1⟩))
  have HW : Hid (Below B w w2) := hW.mono hs0.out
  clear hWS hW H0 HL
  go_wp2
  go_ret
  exact ⟨rfl, HW.out⟩
/-- What take gives of a segment that lies in the memory. -/
def TakePost (B : Nat) (w w' : World) (e : Ending) (mb hb wb : Nat) (l : List Nat) (acc : List Sg) (left : Nat) (p : Int) (n : Nat) : Prop :=
  e = .returned .nilIface ∧ Below B w w' ∧ ∃ a cap, WS B w' mb hb wb l a cap (acc ++ [⟨p, (n : Int)⟩]) (left - n)
theorem take_fin {B : Nat} {w w2 w3 : World} {mb hb wb : Nat} {l : List Nat} {a : Option Addr} {cap : Nat} {acc : List Sg} {left : Nat} {p : Int} {n g cap1 : Nat} {v : Int} (hW : WS B w2 mb hb wb l a cap acc left ∧ Below B w w2) (hH : OwnS w3 B (some ⟨g, 0, none⟩) cap1 (acc ++ [⟨p, (n : Int)⟩]) ∧ Keep (blk a) w2 w3 ∧ (blk a g ∨ w2.heap.size ≤ g)) (hn : 0 < n ∧ n ≤ left) (hv : v = ((left - n : Nat) : Int)) :
    Below B w ((w3.setCell ⟨wb, 1, none⟩ (.slice (some ⟨g, 0, none⟩) (acc.length + 1) cap1)).setCell ⟨wb, 2, none⟩ (.int .i64 v)).drew ∧ ∃ a cap, WS B ((w3.setCell ⟨wb, 1, none⟩ (.slice (some ⟨g, 0, none⟩) (acc.length + 1) cap1)).setCell ⟨wb, 2, none⟩ (.int .i64 v)).drew mb hb wb l a cap (acc ++ [⟨p, (n : Int)⟩]) (left - n) := by
  subst hv
  obtain ⟨h1, h2⟩ := hW.1.turn hH.2.1 hH.1 hH.2.2 hn
  exact ⟨(hW.2.trans h2).drew, _, _, h1.below (Below.refl _ _).drew⟩
set_option maxRecDepth 20000 in
set_option maxHeartbeats 4000000 in
/-- One that does. -/
theorem take_yesA (B mb hb wb : Nat) (l : List Nat) (a : Option Addr) (cap : Nat) (acc : List Sg) (left : Nat) (p : Int) (room : Nat) (w : World) (h : WS B w mb hb wb l a cap acc left) (hp : p ≤ 9223372036854775807) (hn : left < room) (h0 : 0 < left) (hf : fits l.length p (left : Nat)) :
    Calls Try.prog 21 #[.pointer (some ⟨wb, 0, none⟩), .int .i64 p, .int .i64 (room : Nat)] w fun e w' => TakePost B w w' e mb hb wb l acc left p left := by
  have c0 := h.c0
  have c2 := h.c2
  have hs0 : Hid (B ≤ w.heap.size) := h.size
  have few := h.few
  have HA : Hid ((∀ b, blk a b → b < w.heap.size) ∧ wb < w.heap.size) := ⟨fun b e => (h.own.blk e).2, h.lt⟩
  have H0 : Hid (∀ x, (fun w' => w'.cell? ⟨wb, 0, none⟩ = some (.pointer (some ⟨mb, 0, none⟩)) ∧ w'.cell? ⟨w.heap.size, 0, none⟩ = some (.int .i64 p) ∧ w'.cell? ⟨w.heap.size, 1, none⟩ = some (.int .i64 (left : Nat))) ((w.alloc (.cells #[.int .i64 p, .int .i64 (left : Nat)] 35)).drewN x)) := fun x => (h.held p (left : Nat) x (Below.refl _ _)).2.2.2
  have HL : Hid (∀ x, Calls Try.prog 27 #[.pointer (some ⟨mb, 0, none⟩), .agg #[.int .i64 p, .int .i64 (left : Nat)]] ((w.alloc (.cells #[.int .i64 p, .int .i64 (left : Nat)] 35)).drewN x) fun e w' => e = .returned (.bool true) ∧ WS B w' mb hb wb l a cap acc left ∧ Below w.heap.size w w' ∧ w.heap.size < w'.heap.size ∧ (fun w' => w'.cell? ⟨wb, 0, none⟩ = some (.pointer (some ⟨mb, 0, none⟩)) ∧ w'.cell? ⟨w.heap.size, 0, none⟩ = some (.int .i64 p) ∧ w'.cell? ⟨w.heap.size, 1, none⟩ = some (.int .i64 (left : Nat))) w') := fun x => by
    have := lies_any mb hb l p (left : Nat) ((w.alloc (.cells #[.int .i64 p, .int .i64 (left : Nat)] 35)).drewN x) (h.mw.below (below_drewN (alloc_below' w _) x)) hp
    rw [decide_eq_true hf] at this
    exact this.mono fun e w' ⟨h1, h2⟩ => ⟨h1, h.held p (left : Nat) x h2⟩
  clear h hf
  go_enter Try.func21, Try.ntmps21
  go_wp2
  go_region_held3 (fun w' => w'.cell? ⟨wb, 0, none⟩ = some (.pointer (some ⟨mb, 0, none⟩)) ∧ w'.cell? ⟨w.heap.size, 0, none⟩ = some (.int .i64 p) ∧ w'.cell? ⟨w.heap.size, 1, none⟩ = some (.int .i64 (left : Nat))) (first | exact H0.out _ | exact H0.out 0 | exact ⟨z0, s0, s1⟩ | assumption | go_keep) (first | (go_at_call 27; refine (HL.out _).mono ?_; rintro e w2 ⟨rfl, hWS, hW, hlt2, z0, s0, s1⟩))
  clear HL H0 c0 c2
  have c1 := hWS.c1
  have c2 := hWS.c2
  have f1 := hWS.fz 1
  have f2 := hWS.fz 2
  have HN : Hid (∀ b, blk a b → b ≠ wb) := hWS.ne
  have hlw : wb < w2.heap.size := hWS.lt
  have HO : Hid (OwnS (w2.drew.alloc (.cells #[.int .i64 p, .int .i64 (left : Nat)] 35)) B a cap acc ∧ B ≤ w2.heap.size) := ⟨hWS.own.keep (((Keep.refl (fun _ => False) w2).drew).alloc _) (fun _ _ e => e), hWS.size⟩
  have HW : Hid (WS B w2 mb hb wb l a cap acc left ∧ Below B w w2) := ⟨hWS, hW.mono hs0.out⟩
  clear hWS hW
  go_wp2
  go_region_law ((refine stepS rfl (.tmp 28) (.tmp 30) (by rfl) B cap w2.heap.size a acc ⟨p, (left : Nat)⟩ (by simp [Act.eval]) (by simp [Act.eval]) HO.out.1 (heap_alloc_new w2.drew _) (by omega) (Nat.le_trans HO.out.2 (by simp)) ?_; intro g cap1 w3 ho1 hk1 hat; have hk2 : Keep (blk a) w2 w3 := (((Keep.refl _ w2).drew).alloc _).trans hk1; have c1' := (hk2.cell (p := ⟨wb, 1, none⟩) hlw (fun e => HN.out _ e rfl)).trans c1; have f1' := (hk2.frozen (p := ⟨wb, 1, none⟩) hlw (fun e => HN.out _ e rfl)).trans f1; have c2' := (hk2.cell (p := ⟨wb, 2, none⟩) hlw (fun e => HN.out _ e rfl)).trans c2; have f2' := (hk2.frozen (p := ⟨wb, 2, none⟩) hlw (fun e => HN.out _ e rfl)).trans f2; have s1' := (hk2.cell (p := ⟨w.heap.size, 1, none⟩) hlt2 (fun e => Nat.lt_irrefl _ (HA.out.1 _ e))).trans s1; have hne : ¬ w.heap.size = wb := fun e => Nat.lt_irrefl wb (by have := HA.out.2; omega); have HH : Hid (OwnS w3 B (some ⟨g, 0, none⟩) cap1 (acc ++ [⟨p, (left : Nat)⟩]) ∧ Keep (blk a) w2 w3 ∧ (blk a g ∨ w2.heap.size ≤ g)) := ⟨ho1, hk2, hat.imp id (fun e => by rw [e]; simp)⟩; clear ho1 hk1 hat hk2 c1 f1 c2 f2 s1 s0 z0))
  all_goals (try go_wp2)
  all_goals go_region
  all_goals (try go_wp2)
  all_goals go_ret
  all_goals exact ⟨rfl, take_fin HW.out HH.out (by omega) (by omega)⟩
set_option maxRecDepth 20000 in
set_option maxHeartbeats 4000000 in
/-- One that does. -/
theorem take_yesB (B mb hb wb : Nat) (l : List Nat) (a : Option Addr) (cap : Nat) (acc : List Sg) (left : Nat) (p : Int) (room : Nat) (w : World) (h : WS B w mb hb wb l a cap acc left) (hp : p ≤ 9223372036854775807) (hn : room ≤ left) (h0 : 0 < room) (hf : fits l.length p (room : Nat)) :
    Calls Try.prog 21 #[.pointer (some ⟨wb, 0, none⟩), .int .i64 p, .int .i64 (room : Nat)] w fun e w' => TakePost B w w' e mb hb wb l acc left p room := by
  have c0 := h.c0
  have c2 := h.c2
  have hs0 : Hid (B ≤ w.heap.size) := h.size
  have few := h.few
  have HA : Hid ((∀ b, blk a b → b < w.heap.size) ∧ wb < w.heap.size) := ⟨fun b e => (h.own.blk e).2, h.lt⟩
  have H0 : Hid (∀ x, (fun w' => w'.cell? ⟨wb, 0, none⟩ = some (.pointer (some ⟨mb, 0, none⟩)) ∧ w'.cell? ⟨w.heap.size, 0, none⟩ = some (.int .i64 p) ∧ w'.cell? ⟨w.heap.size, 1, none⟩ = some (.int .i64 (room : Nat))) ((w.alloc (.cells #[.int .i64 p, .int .i64 (room : Nat)] 35)).drewN x)) := fun x => (h.held p (room : Nat) x (Below.refl _ _)).2.2.2
  have HL : Hid (∀ x, Calls Try.prog 27 #[.pointer (some ⟨mb, 0, none⟩), .agg #[.int .i64 p, .int .i64 (room : Nat)]] ((w.alloc (.cells #[.int .i64 p, .int .i64 (room : Nat)] 35)).drewN x) fun e w' => e = .returned (.bool true) ∧ WS B w' mb hb wb l a cap acc left ∧ Below w.heap.size w w' ∧ w.heap.size < w'.heap.size ∧ (fun w' => w'.cell? ⟨wb, 0, none⟩ = some (.pointer (some ⟨mb, 0, none⟩)) ∧ w'.cell? ⟨w.heap.size, 0, none⟩ = some (.int .i64 p) ∧ w'.cell? ⟨w.heap.size, 1, none⟩ = some (.int .i64 (room : Nat))) w') := fun x => by
    have := lies_any mb hb l p (room : Nat) ((w.alloc (.cells #[.int .i64 p, .int .i64 (room : Nat)] 35)).drewN x) (h.mw.below (below_drewN (alloc_below' w _) x)) hp
    rw [decide_eq_true hf] at this
    exact this.mono fun e w' ⟨h1, h2⟩ => ⟨h1, h.held p (room : Nat) x h2⟩
  clear h hf
  go_enter Try.func21, Try.ntmps21
  go_wp2
  go_region_held3 (fun w' => w'.cell? ⟨wb, 0, none⟩ = some (.pointer (some ⟨mb, 0, none⟩)) ∧ w'.cell? ⟨w.heap.size, 0, none⟩ = some (.int .i64 p) ∧ w'.cell? ⟨w.heap.size, 1, none⟩ = some (.int .i64 (room : Nat))) (first | exact H0.out _ | exact H0.out 0 | exact ⟨z0, s0, s1⟩ | assumption | go_keep) (first | (go_at_call 27; refine (HL.out _).mono ?_; rintro e w2 ⟨rfl, hWS, hW, hlt2, z0, s0, s1⟩))
  clear HL H0 c0 c2
  have c1 := hWS.c1
  have c2 := hWS.c2
  have f1 := hWS.fz 1
  have f2 := hWS.fz 2
  have HN : Hid (∀ b, blk a b → b ≠ wb) := hWS.ne
  have hlw : wb < w2.heap.size := hWS.lt
  have HO : Hid (OwnS (w2.drew.alloc (.cells #[.int .i64 p, .int .i64 (room : Nat)] 35)) B a cap acc ∧ B ≤ w2.heap.size) := ⟨hWS.own.keep (((Keep.refl (fun _ => False) w2).drew).alloc _) (fun _ _ e => e), hWS.size⟩
  have HW : Hid (WS B w2 mb hb wb l a cap acc left ∧ Below B w w2) := ⟨hWS, hW.mono hs0.out⟩
  clear hWS hW
  go_wp2
  go_region_law ((refine stepS rfl (.tmp 28) (.tmp 30) (by rfl) B cap w2.heap.size a acc ⟨p, (room : Nat)⟩ (by simp [Act.eval]) (by simp [Act.eval]) HO.out.1 (heap_alloc_new w2.drew _) (by omega) (Nat.le_trans HO.out.2 (by simp)) ?_; intro g cap1 w3 ho1 hk1 hat; have hk2 : Keep (blk a) w2 w3 := (((Keep.refl _ w2).drew).alloc _).trans hk1; have c1' := (hk2.cell (p := ⟨wb, 1, none⟩) hlw (fun e => HN.out _ e rfl)).trans c1; have f1' := (hk2.frozen (p := ⟨wb, 1, none⟩) hlw (fun e => HN.out _ e rfl)).trans f1; have c2' := (hk2.cell (p := ⟨wb, 2, none⟩) hlw (fun e => HN.out _ e rfl)).trans c2; have f2' := (hk2.frozen (p := ⟨wb, 2, none⟩) hlw (fun e => HN.out _ e rfl)).trans f2; have s1' := (hk2.cell (p := ⟨w.heap.size, 1, none⟩) hlt2 (fun e => Nat.lt_irrefl _ (HA.out.1 _ e))).trans s1; have hne : ¬ w.heap.size = wb := fun e => Nat.lt_irrefl wb (by have := HA.out.2; omega); have HH : Hid (OwnS w3 B (some ⟨g, 0, none⟩) cap1 (acc ++ [⟨p, (room : Nat)⟩]) ∧ Keep (blk a) w2 w3 ∧ (blk a g ∨ w2.heap.size ≤ g)) := ⟨ho1, hk2, hat.imp id (fun e => by rw [e]; simp)⟩; clear ho1 hk1 hat hk2 c1 f1 c2 f2 s1 s0 z0))
  all_goals (try go_wp2)
  all_goals go_region
  all_goals (try go_wp2)
  all_goals go_ret
  all_goals exact ⟨rfl, take_fin HW.out HH.out (by omega) (by omega)⟩
end Go.Proofs.Ytdkafcgangcgbaj

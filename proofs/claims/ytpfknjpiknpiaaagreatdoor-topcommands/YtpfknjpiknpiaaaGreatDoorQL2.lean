/- Part of the proof. -/
import Derived.Test.YtpfknjpiknpiaaaGreatDoorQL1
namespace Go.Proofs.YtpfknjpiknpiaaaGreatDoorQL
open Go.Proofs.YtpfknjpiknpiaaaGreatDoorQ
open Go.RowKit
set_option linter.unusedVariables false
structure WS (B : Nat) (w : World) (mb hb wb : Nat) (l : List Nat) (a : Option Addr) (cap : Nat) (acc : List Sg) (left : Nat) : Prop where
  mw : MW w mb hb l
  mlt : mb < B
  hlt : hb < B
  wge : B ≤ wb
  c0 : w.cell? ⟨wb, 0, none⟩ = some (.pointer (some ⟨mb, 0, none⟩))
  c1 : w.cell? ⟨wb, 1, none⟩ = some (.slice a acc.length cap)
  c2 : w.cell? ⟨wb, 2, none⟩ = some (.int .i64 (left : Nat))
  fz : ∀ o, w.frozen? ⟨wb, o, none⟩ = false
  own : OwnS w B a cap acc
  ne : ∀ b, blk a b → b ≠ wb
  few : acc.length + left ≤ 4096
theorem WS.lt {B : Nat} {w : World} {mb hb wb : Nat} {l : List Nat} {a : Option Addr} {cap : Nat} {acc : List Sg} {left : Nat} (h : WS B w mb hb wb l a cap acc left) : wb < w.heap.size := World.block_lt_of_cell? w _ h.c0
theorem WS.below {B : Nat} {w w' : World} {mb hb wb : Nat} {l : List Nat} {a : Option Addr} {cap : Nat} {acc : List Sg} {left : Nat} (h : WS B w mb hb wb l a cap acc left) (hb' : Below w.heap.size w w') : WS B w' mb hb wb l a cap acc left :=
  ⟨h.mw.below hb', h.mlt, h.hlt, h.wge, (hb'.cell (p := ⟨wb, 0, none⟩) h.lt).trans h.c0, (hb'.cell (p := ⟨wb, 1, none⟩) h.lt).trans h.c1, (hb'.cell (p := ⟨wb, 2, none⟩) h.lt).trans h.c2, fun o => (World.frozen?_of_block (w := w) (a := ⟨wb, o, none⟩) (hb'.block wb h.lt)).trans (h.fz o), h.own.below hb', h.ne, h.few⟩
theorem WS.held {B : Nat} {w w' : World} {mb hb wb : Nat} {l : List Nat} {a : Option Addr} {cap : Nat} {acc : List Sg} {left : Nat} (h : WS B w mb hb wb l a cap acc left) (p n : Int) (x : Nat) (hk : Below ((w.alloc (.cells #[.int .i64 p, .int .i64 n] 42)).drewN x).heap.size ((w.alloc (.cells #[.int .i64 p, .int .i64 n] 42)).drewN x) w') :
    WS B w' mb hb wb l a cap acc left ∧ Below w.heap.size w w' ∧ w.heap.size < w'.heap.size ∧ w'.cell? ⟨wb, 0, none⟩ = some (.pointer (some ⟨mb, 0, none⟩)) ∧ w'.cell? ⟨w.heap.size, 0, none⟩ = some (.int .i64 p) ∧ w'.cell? ⟨w.heap.size, 1, none⟩ = some (.int .i64 n) := by
  have HB : Below w.heap.size w ((w.alloc (.cells #[.int .i64 p, .int .i64 n] 42)).drewN x) := below_drewN (alloc_below' w _) x
  have hb2 : Below w.heap.size w w' := HB.trans (hk.mono HB.size)
  have hsz : w.heap.size < ((w.alloc (.cells #[.int .i64 p, .int .i64 n] 42)).drewN x).heap.size := by simp
  refine ⟨h.below hb2, hb2, Nat.lt_of_lt_of_le hsz hk.size, (h.below hb2).c0, ?_, ?_⟩
  · rw [hk.cell (p := ⟨w.heap.size, 0, none⟩) hsz]; simp
  · rw [hk.cell (p := ⟨w.heap.size, 1, none⟩) hsz]; simp
theorem WS.size {B : Nat} {w : World} {mb hb wb : Nat} {l : List Nat} {a : Option Addr} {cap : Nat} {acc : List Sg} {left : Nat} (h : WS B w mb hb wb l a cap acc left) : B ≤ w.heap.size := by have := h.lt; have := h.wge; omega
theorem WS.turn {B : Nat} {w w1 : World} {mb hb wb : Nat} {l : List Nat} {a : Option Addr} {cap : Nat} {acc : List Sg} {left : Nat} (h : WS B w mb hb wb l a cap acc left) {g cap1 : Nat} {s : Sg} {n : Nat} (hk : Keep (blk a) w w1) (ho : OwnS w1 B (some ⟨g, 0, none⟩) cap1 (acc ++ [s])) (hg : blk a g ∨ w.heap.size ≤ g) (hn : 0 < n ∧ n ≤ left) :
    WS B ((w1.setCell ⟨wb, 1, none⟩ (.slice (some ⟨g, 0, none⟩) (acc.length + 1) cap1)).setCell ⟨wb, 2, none⟩ (.int .i64 ((left - n : Nat) : Int))) mb hb wb l (some ⟨g, 0, none⟩) cap1 (acc ++ [s]) (left - n) ∧
    Below B w ((w1.setCell ⟨wb, 1, none⟩ (.slice (some ⟨g, 0, none⟩) (acc.length + 1) cap1)).setCell ⟨wb, 2, none⟩ (.int .i64 ((left - n : Nat) : Int))) := by
  have hlt := h.lt
  have hwn : ¬ blk a wb := fun e => h.ne wb e rfl
  have hgw : g ≠ wb := by
    rcases hg with e | e
    · exact h.ne g e
    · omega
  have hkw : Keep (fun b => b = wb) w1 ((w1.setCell ⟨wb, 1, none⟩ (.slice (some ⟨g, 0, none⟩) (acc.length + 1) cap1)).setCell ⟨wb, 2, none⟩ (.int .i64 ((left - n : Nat) : Int))) := ((Keep.refl _ _).set1 _ _).set1 _ _
  have hk2 : Keep (fun b => blk a b ∨ b = wb) w ((w1.setCell ⟨wb, 1, none⟩ (.slice (some ⟨g, 0, none⟩) (acc.length + 1) cap1)).setCell ⟨wb, 2, none⟩ (.int .i64 ((left - n : Nat) : Int))) := (hk.mono (fun _ => Or.inl)).trans (hkw.mono (fun _ => Or.inr))
  have hbl : ∀ b, blk a b → B ≤ b := fun b e => (h.own.blk e).1
  have hmS : ∀ b, b < B → ¬ (blk a b ∨ b = wb) := fun b hb e => by
    rcases e with e | e
    · have := hbl b e; omega
    · have := h.wge; omega
  have c0' : w1.cell? ⟨wb, 0, none⟩ = _ := (hk.cell (p := ⟨wb, 0, none⟩) hlt hwn).trans h.c0
  have c1' : w1.cell? ⟨wb, 1, none⟩ = _ := (hk.cell (p := ⟨wb, 1, none⟩) hlt hwn).trans h.c1
  have c2' : w1.cell? ⟨wb, 2, none⟩ = _ := (hk.cell (p := ⟨wb, 2, none⟩) hlt hwn).trans h.c2
  refine ⟨⟨h.mw.keep hk2 (hmS _ h.mlt) (hmS _ h.hlt), h.mlt, h.hlt, h.wge, ?_, ?_, ?_, fun o => ?_, ho.keep hkw (fun b e c => ?_), fun b e => ?_, ?_⟩, hk2.below h.size (fun b e => ?_)⟩
  · rw [far _ (by omega), far _ (by omega)]; exact c0'
  · rw [far _ (by omega), World.cell?_setCell_same _ _ _ c1', List.length_append]; rfl
  · exact World.cell?_setCell_same _ _ _ (by rw [far _ (by omega)]; exact c2')
  · rw [World.frozen?_setCell, World.frozen?_setCell]
    exact (hk.frozen (p := ⟨wb, o, none⟩) hlt hwn).trans (h.fz o)
  · obtain ⟨x, e, rfl⟩ := e
    cases e
    exact hgw c
  · obtain ⟨x, e, rfl⟩ := e
    cases e
    exact hgw
  · have := h.few; rw [List.length_append]; simp only [List.length_cons, List.length_nil]; omega
  · rcases e with e | e
    · exact hbl b e
    · have := h.wge; omega
set_option maxRecDepth 20000 in
set_option maxHeartbeats 1600000 in
theorem take_noA (B mb hb wb : Nat) (l : List Nat) (a : Option Addr) (cap : Nat) (acc : List Sg) (left : Nat) (p : Int) (room : Nat) (w : World) (h : WS B w mb hb wb l a cap acc left) (hp : p ≤ 9223372036854775807) (hn : left < room) (hf : ¬ fits l.length p (left : Nat)) :
    Calls (Al.progOf Tryz.prog) 23 #[.pointer (some ⟨wb, 0, none⟩), .int .i64 p, .int .i64 (room : Nat)] w fun e w' => e = .returned (.iface 54 (.int .i64 1)) ∧ Below B w w' := by
  have c0 := h.c0
  have c2 := h.c2
  have hs0 : Hid (B ≤ w.heap.size) := h.size
  have few := h.few
  have HA : Hid ((∀ b, blk a b → b < w.heap.size) ∧ wb < w.heap.size) := ⟨fun b e => (h.own.blk e).2, h.lt⟩
  have H0 : Hid (∀ x, (fun w' => w'.cell? ⟨wb, 0, none⟩ = some (.pointer (some ⟨mb, 0, none⟩)) ∧ w'.cell? ⟨w.heap.size, 0, none⟩ = some (.int .i64 p) ∧ w'.cell? ⟨w.heap.size, 1, none⟩ = some (.int .i64 (left : Nat))) ((w.alloc (.cells #[.int .i64 p, .int .i64 (left : Nat)] 42)).drewN x)) := fun x => (h.held p (left : Nat) x (Below.refl _ _)).2.2.2
  have HL : Hid (∀ x, Calls (Al.progOf Tryz.prog) 39 #[.pointer (some ⟨mb, 0, none⟩), .agg #[.int .i64 p, .int .i64 (left : Nat)]] ((w.alloc (.cells #[.int .i64 p, .int .i64 (left : Nat)] 42)).drewN x) fun e w' => e = .returned (.bool false) ∧ WS B w' mb hb wb l a cap acc left ∧ Below w.heap.size w w' ∧ w.heap.size < w'.heap.size ∧ (fun w' => w'.cell? ⟨wb, 0, none⟩ = some (.pointer (some ⟨mb, 0, none⟩)) ∧ w'.cell? ⟨w.heap.size, 0, none⟩ = some (.int .i64 p) ∧ w'.cell? ⟨w.heap.size, 1, none⟩ = some (.int .i64 (left : Nat))) w') := fun x => by
    have := lies_any mb hb l p (left : Nat) ((w.alloc (.cells #[.int .i64 p, .int .i64 (left : Nat)] 42)).drewN x) (h.mw.below (below_drewN (alloc_below' w _) x)) hp
    rw [decide_eq_false hf] at this
    exact this.mono fun e w' ⟨h1, h2⟩ => ⟨h1, h.held p (left : Nat) x h2⟩
  clear h hf
  go_enter Al.func23, Tryz.ntmps23
  go_wp2
  go_region_held3 (fun w' => w'.cell? ⟨wb, 0, none⟩ = some (.pointer (some ⟨mb, 0, none⟩)) ∧ w'.cell? ⟨w.heap.size, 0, none⟩ = some (.int .i64 p) ∧ w'.cell? ⟨w.heap.size, 1, none⟩ = some (.int .i64 (left : Nat))) (first | exact H0.out _ | exact H0.out 0 | exact ⟨z0, s0, s1⟩ | assumption | go_keep) (first | (go_at_call 39; refine (HL.out _).mono ?_; rintro e w2 ⟨rfl, hWS, hW, hlt2, z0, s0, s1⟩))
  have HW : Hid (Below B w w2) := hW.mono hs0.out
  clear hWS hW H0 HL
  go_wp2
  go_ret
  exact ⟨rfl, HW.out⟩
set_option maxRecDepth 20000 in
set_option maxHeartbeats 1600000 in
theorem take_noB (B mb hb wb : Nat) (l : List Nat) (a : Option Addr) (cap : Nat) (acc : List Sg) (left : Nat) (p : Int) (room : Nat) (w : World) (h : WS B w mb hb wb l a cap acc left) (hp : p ≤ 9223372036854775807) (hn : room ≤ left) (hf : ¬ fits l.length p (room : Nat)) :
    Calls (Al.progOf Tryz.prog) 23 #[.pointer (some ⟨wb, 0, none⟩), .int .i64 p, .int .i64 (room : Nat)] w fun e w' => e = .returned (.iface 54 (.int .i64 1)) ∧ Below B w w' := by
  have c0 := h.c0
  have c2 := h.c2
  have hs0 : Hid (B ≤ w.heap.size) := h.size
  have few := h.few
  have HA : Hid ((∀ b, blk a b → b < w.heap.size) ∧ wb < w.heap.size) := ⟨fun b e => (h.own.blk e).2, h.lt⟩
  have H0 : Hid (∀ x, (fun w' => w'.cell? ⟨wb, 0, none⟩ = some (.pointer (some ⟨mb, 0, none⟩)) ∧ w'.cell? ⟨w.heap.size, 0, none⟩ = some (.int .i64 p) ∧ w'.cell? ⟨w.heap.size, 1, none⟩ = some (.int .i64 (room : Nat))) ((w.alloc (.cells #[.int .i64 p, .int .i64 (room : Nat)] 42)).drewN x)) := fun x => (h.held p (room : Nat) x (Below.refl _ _)).2.2.2
  have HL : Hid (∀ x, Calls (Al.progOf Tryz.prog) 39 #[.pointer (some ⟨mb, 0, none⟩), .agg #[.int .i64 p, .int .i64 (room : Nat)]] ((w.alloc (.cells #[.int .i64 p, .int .i64 (room : Nat)] 42)).drewN x) fun e w' => e = .returned (.bool false) ∧ WS B w' mb hb wb l a cap acc left ∧ Below w.heap.size w w' ∧ w.heap.size < w'.heap.size ∧ (fun w' => w'.cell? ⟨wb, 0, none⟩ = some (.pointer (some ⟨mb, 0, none⟩)) ∧ w'.cell? ⟨w.heap.size, 0, none⟩ = some (.int .i64 p) ∧ w'.cell? ⟨w.heap.size, 1, none⟩ = some (.int .i64 (room : Nat))) w') := fun x => by
    have := lies_any mb hb l p (room : Nat) ((w.alloc (.cells #[.int .i64 p, .int .i64 (room : Nat)] 42)).drewN x) (h.mw.below (below_drewN (alloc_below' w _) x)) hp
    rw [decide_eq_false hf] at this
    exact this.mono fun e w' ⟨h1, h2⟩ => ⟨h1, h.held p (room : Nat) x h2⟩
  clear h hf
  go_enter Al.func23, Tryz.ntmps23
  go_wp2
  go_region_held3 (fun w' => w'.cell? ⟨wb, 0, none⟩ = some (.pointer (some ⟨mb, 0, none⟩)) ∧ w'.cell? ⟨w.heap.size, 0, none⟩ = some (.int .i64 p) ∧ w'.cell? ⟨w.heap.size, 1, none⟩ = some (.int .i64 (room : Nat))) (first | exact H0.out _ | exact H0.out 0 | exact ⟨z0, s0, s1⟩ | assumption | go_keep) (first | (go_at_call 39; refine (HL.out _).mono ?_; rintro e w2 ⟨rfl, hWS, hW, hlt2, z0, s0, s1⟩))
  have HW : Hid (Below B w w2) := hW.mono hs0.out
  clear hWS hW H0 HL
  go_wp2
  go_ret
  exact ⟨rfl, HW.out⟩
def TakePost (B : Nat) (w w' : World) (e : Ending) (mb hb wb : Nat) (l : List Nat) (acc : List Sg) (left : Nat) (p : Int) (n : Nat) : Prop :=
  e = .returned .nilIface ∧ Below B w w' ∧ ∃ a cap, WS B w' mb hb wb l a cap (acc ++ [⟨p, (n : Int)⟩]) (left - n)
theorem take_fin {B : Nat} {w w2 w3 : World} {mb hb wb : Nat} {l : List Nat} {a : Option Addr} {cap : Nat} {acc : List Sg} {left : Nat} {p : Int} {n g cap1 : Nat} {v : Int} (hW : WS B w2 mb hb wb l a cap acc left ∧ Below B w w2) (hH : OwnS w3 B (some ⟨g, 0, none⟩) cap1 (acc ++ [⟨p, (n : Int)⟩]) ∧ Keep (blk a) w2 w3 ∧ (blk a g ∨ w2.heap.size ≤ g)) (hn : 0 < n ∧ n ≤ left) (hv : v = ((left - n : Nat) : Int)) :
    Below B w ((w3.setCell ⟨wb, 1, none⟩ (.slice (some ⟨g, 0, none⟩) (acc.length + 1) cap1)).setCell ⟨wb, 2, none⟩ (.int .i64 v)).drew ∧ ∃ a cap, WS B ((w3.setCell ⟨wb, 1, none⟩ (.slice (some ⟨g, 0, none⟩) (acc.length + 1) cap1)).setCell ⟨wb, 2, none⟩ (.int .i64 v)).drew mb hb wb l a cap (acc ++ [⟨p, (n : Int)⟩]) (left - n) := by
  subst hv
  obtain ⟨h1, h2⟩ := hW.1.turn hH.2.1 hH.1 hH.2.2 hn
  exact ⟨(hW.2.trans h2).drew, _, _, h1.below (Below.refl _ _).drew⟩
set_option maxRecDepth 20000 in
set_option maxHeartbeats 4000000 in
theorem take_yesA (B mb hb wb : Nat) (l : List Nat) (a : Option Addr) (cap : Nat) (acc : List Sg) (left : Nat) (p : Int) (room : Nat) (w : World) (h : WS B w mb hb wb l a cap acc left) (hp : p ≤ 9223372036854775807) (hn : left < room) (h0 : 0 < left) (hf : fits l.length p (left : Nat)) :
    Calls (Al.progOf Tryz.prog) 23 #[.pointer (some ⟨wb, 0, none⟩), .int .i64 p, .int .i64 (room : Nat)] w fun e w' => TakePost B w w' e mb hb wb l acc left p left := by
  have c0 := h.c0
  have c2 := h.c2
  have hs0 : Hid (B ≤ w.heap.size) := h.size
  have few := h.few
  have HA : Hid ((∀ b, blk a b → b < w.heap.size) ∧ wb < w.heap.size) := ⟨fun b e => (h.own.blk e).2, h.lt⟩
  have H0 : Hid (∀ x, (fun w' => w'.cell? ⟨wb, 0, none⟩ = some (.pointer (some ⟨mb, 0, none⟩)) ∧ w'.cell? ⟨w.heap.size, 0, none⟩ = some (.int .i64 p) ∧ w'.cell? ⟨w.heap.size, 1, none⟩ = some (.int .i64 (left : Nat))) ((w.alloc (.cells #[.int .i64 p, .int .i64 (left : Nat)] 42)).drewN x)) := fun x => (h.held p (left : Nat) x (Below.refl _ _)).2.2.2
  have HL : Hid (∀ x, Calls (Al.progOf Tryz.prog) 39 #[.pointer (some ⟨mb, 0, none⟩), .agg #[.int .i64 p, .int .i64 (left : Nat)]] ((w.alloc (.cells #[.int .i64 p, .int .i64 (left : Nat)] 42)).drewN x) fun e w' => e = .returned (.bool true) ∧ WS B w' mb hb wb l a cap acc left ∧ Below w.heap.size w w' ∧ w.heap.size < w'.heap.size ∧ (fun w' => w'.cell? ⟨wb, 0, none⟩ = some (.pointer (some ⟨mb, 0, none⟩)) ∧ w'.cell? ⟨w.heap.size, 0, none⟩ = some (.int .i64 p) ∧ w'.cell? ⟨w.heap.size, 1, none⟩ = some (.int .i64 (left : Nat))) w') := fun x => by
    have := lies_any mb hb l p (left : Nat) ((w.alloc (.cells #[.int .i64 p, .int .i64 (left : Nat)] 42)).drewN x) (h.mw.below (below_drewN (alloc_below' w _) x)) hp
    rw [decide_eq_true hf] at this
    exact this.mono fun e w' ⟨h1, h2⟩ => ⟨h1, h.held p (left : Nat) x h2⟩
  clear h hf
  go_enter Al.func23, Tryz.ntmps23
  go_wp2
  go_region_held3 (fun w' => w'.cell? ⟨wb, 0, none⟩ = some (.pointer (some ⟨mb, 0, none⟩)) ∧ w'.cell? ⟨w.heap.size, 0, none⟩ = some (.int .i64 p) ∧ w'.cell? ⟨w.heap.size, 1, none⟩ = some (.int .i64 (left : Nat))) (first | exact H0.out _ | exact H0.out 0 | exact ⟨z0, s0, s1⟩ | assumption | go_keep) (first | (go_at_call 39; refine (HL.out _).mono ?_; rintro e w2 ⟨rfl, hWS, hW, hlt2, z0, s0, s1⟩))
  clear HL H0 c0 c2
  have c1 := hWS.c1
  have c2 := hWS.c2
  have f1 := hWS.fz 1
  have f2 := hWS.fz 2
  have HN : Hid (∀ b, blk a b → b ≠ wb) := hWS.ne
  have hlw : wb < w2.heap.size := hWS.lt
  have HO : Hid (OwnS (w2.drew.alloc (.cells #[.int .i64 p, .int .i64 (left : Nat)] 42)) B a cap acc ∧ B ≤ w2.heap.size) := ⟨hWS.own.keep (((Keep.refl (fun _ => False) w2).drew).alloc _) (fun _ _ e => e), hWS.size⟩
  have HW : Hid (WS B w2 mb hb wb l a cap acc left ∧ Below B w w2) := ⟨hWS, hW.mono hs0.out⟩
  clear hWS hW
  go_wp2
  go_region_law ((refine stepS rfl (.tmp 28) (.tmp 30) (by rfl) B cap w2.heap.size a acc ⟨p, (left : Nat)⟩ (by simp [Act.eval]) (by simp [Act.eval]) HO.out.1 (heap_alloc_new w2.drew _) (by omega) (Nat.le_trans HO.out.2 (by simp)) ?_; intro g cap1 w3 ho1 hk1 hat; have hk2 : Keep (blk a) w2 w3 := (((Keep.refl _ w2).drew).alloc _).trans hk1; have c1' := (hk2.cell (p := ⟨wb, 1, none⟩) hlw (fun e => HN.out _ e rfl)).trans c1; have f1' := (hk2.frozen (p := ⟨wb, 1, none⟩) hlw (fun e => HN.out _ e rfl)).trans f1; have c2' := (hk2.cell (p := ⟨wb, 2, none⟩) hlw (fun e => HN.out _ e rfl)).trans c2; have f2' := (hk2.frozen (p := ⟨wb, 2, none⟩) hlw (fun e => HN.out _ e rfl)).trans f2; have s1' := (hk2.cell (p := ⟨w.heap.size, 1, none⟩) hlt2 (fun e => Nat.lt_irrefl _ (HA.out.1 _ e))).trans s1; have hne : ¬ w.heap.size = wb := fun e => Nat.lt_irrefl wb (by have := HA.out.2; omega); have HH : Hid (OwnS w3 B (some ⟨g, 0, none⟩) cap1 (acc ++ [⟨p, (left : Nat)⟩]) ∧ Keep (blk a) w2 w3 ∧ (blk a g ∨ w2.heap.size ≤ g)) := ⟨ho1, hk2, hat.imp id (fun e => by rw [e]; simp)⟩; clear ho1 hk1 hat hk2 c1 f1 c2 f2 s1 s0 z0))
  all_goals (try go_wp2)
  all_goals go_region
  all_goals (try go_wp2)
  all_goals go_ret
  all_goals exact ⟨rfl, take_fin HW.out HH.out (by omega) (by omega)⟩
set_option maxRecDepth 20000 in
set_option maxHeartbeats 4000000 in
theorem take_yesB (B mb hb wb : Nat) (l : List Nat) (a : Option Addr) (cap : Nat) (acc : List Sg) (left : Nat) (p : Int) (room : Nat) (w : World) (h : WS B w mb hb wb l a cap acc left) (hp : p ≤ 9223372036854775807) (hn : room ≤ left) (h0 : 0 < room) (hf : fits l.length p (room : Nat)) :
    Calls (Al.progOf Tryz.prog) 23 #[.pointer (some ⟨wb, 0, none⟩), .int .i64 p, .int .i64 (room : Nat)] w fun e w' => TakePost B w w' e mb hb wb l acc left p room := by
  have c0 := h.c0
  have c2 := h.c2
  have hs0 : Hid (B ≤ w.heap.size) := h.size
  have few := h.few
  have HA : Hid ((∀ b, blk a b → b < w.heap.size) ∧ wb < w.heap.size) := ⟨fun b e => (h.own.blk e).2, h.lt⟩
  have H0 : Hid (∀ x, (fun w' => w'.cell? ⟨wb, 0, none⟩ = some (.pointer (some ⟨mb, 0, none⟩)) ∧ w'.cell? ⟨w.heap.size, 0, none⟩ = some (.int .i64 p) ∧ w'.cell? ⟨w.heap.size, 1, none⟩ = some (.int .i64 (room : Nat))) ((w.alloc (.cells #[.int .i64 p, .int .i64 (room : Nat)] 42)).drewN x)) := fun x => (h.held p (room : Nat) x (Below.refl _ _)).2.2.2
  have HL : Hid (∀ x, Calls (Al.progOf Tryz.prog) 39 #[.pointer (some ⟨mb, 0, none⟩), .agg #[.int .i64 p, .int .i64 (room : Nat)]] ((w.alloc (.cells #[.int .i64 p, .int .i64 (room : Nat)] 42)).drewN x) fun e w' => e = .returned (.bool true) ∧ WS B w' mb hb wb l a cap acc left ∧ Below w.heap.size w w' ∧ w.heap.size < w'.heap.size ∧ (fun w' => w'.cell? ⟨wb, 0, none⟩ = some (.pointer (some ⟨mb, 0, none⟩)) ∧ w'.cell? ⟨w.heap.size, 0, none⟩ = some (.int .i64 p) ∧ w'.cell? ⟨w.heap.size, 1, none⟩ = some (.int .i64 (room : Nat))) w') := fun x => by
    have := lies_any mb hb l p (room : Nat) ((w.alloc (.cells #[.int .i64 p, .int .i64 (room : Nat)] 42)).drewN x) (h.mw.below (below_drewN (alloc_below' w _) x)) hp
    rw [decide_eq_true hf] at this
    exact this.mono fun e w' ⟨h1, h2⟩ => ⟨h1, h.held p (room : Nat) x h2⟩
  clear h hf
  go_enter Al.func23, Tryz.ntmps23
  go_wp2
  go_region_held3 (fun w' => w'.cell? ⟨wb, 0, none⟩ = some (.pointer (some ⟨mb, 0, none⟩)) ∧ w'.cell? ⟨w.heap.size, 0, none⟩ = some (.int .i64 p) ∧ w'.cell? ⟨w.heap.size, 1, none⟩ = some (.int .i64 (room : Nat))) (first | exact H0.out _ | exact H0.out 0 | exact ⟨z0, s0, s1⟩ | assumption | go_keep) (first | (go_at_call 39; refine (HL.out _).mono ?_; rintro e w2 ⟨rfl, hWS, hW, hlt2, z0, s0, s1⟩))
  clear HL H0 c0 c2
  have c1 := hWS.c1
  have c2 := hWS.c2
  have f1 := hWS.fz 1
  have f2 := hWS.fz 2
  have HN : Hid (∀ b, blk a b → b ≠ wb) := hWS.ne
  have hlw : wb < w2.heap.size := hWS.lt
  have HO : Hid (OwnS (w2.drew.alloc (.cells #[.int .i64 p, .int .i64 (room : Nat)] 42)) B a cap acc ∧ B ≤ w2.heap.size) := ⟨hWS.own.keep (((Keep.refl (fun _ => False) w2).drew).alloc _) (fun _ _ e => e), hWS.size⟩
  have HW : Hid (WS B w2 mb hb wb l a cap acc left ∧ Below B w w2) := ⟨hWS, hW.mono hs0.out⟩
  clear hWS hW
  go_wp2
  go_region_law ((refine stepS rfl (.tmp 28) (.tmp 30) (by rfl) B cap w2.heap.size a acc ⟨p, (room : Nat)⟩ (by simp [Act.eval]) (by simp [Act.eval]) HO.out.1 (heap_alloc_new w2.drew _) (by omega) (Nat.le_trans HO.out.2 (by simp)) ?_; intro g cap1 w3 ho1 hk1 hat; have hk2 : Keep (blk a) w2 w3 := (((Keep.refl _ w2).drew).alloc _).trans hk1; have c1' := (hk2.cell (p := ⟨wb, 1, none⟩) hlw (fun e => HN.out _ e rfl)).trans c1; have f1' := (hk2.frozen (p := ⟨wb, 1, none⟩) hlw (fun e => HN.out _ e rfl)).trans f1; have c2' := (hk2.cell (p := ⟨wb, 2, none⟩) hlw (fun e => HN.out _ e rfl)).trans c2; have f2' := (hk2.frozen (p := ⟨wb, 2, none⟩) hlw (fun e => HN.out _ e rfl)).trans f2; have s1' := (hk2.cell (p := ⟨w.heap.size, 1, none⟩) hlt2 (fun e => Nat.lt_irrefl _ (HA.out.1 _ e))).trans s1; have hne : ¬ w.heap.size = wb := fun e => Nat.lt_irrefl wb (by have := HA.out.2; omega); have HH : Hid (OwnS w3 B (some ⟨g, 0, none⟩) cap1 (acc ++ [⟨p, (room : Nat)⟩]) ∧ Keep (blk a) w2 w3 ∧ (blk a g ∨ w2.heap.size ≤ g)) := ⟨ho1, hk2, hat.imp id (fun e => by rw [e]; simp)⟩; clear ho1 hk1 hat hk2 c1 f1 c2 f2 s1 s0 z0))
  all_goals (try go_wp2)
  all_goals go_region
  all_goals (try go_wp2)
  all_goals go_ret
  all_goals exact ⟨rfl, take_fin HW.out HH.out (by omega) (by omega)⟩
def errI (n : Nat) : Value := if n = 0 then .nilIface else .iface 54 (.int .i64 (n : Int))
theorem take_no (B mb hb wb : Nat) (l : List Nat) (a : Option Addr) (cap : Nat) (acc : List Sg) (left : Nat) (p : Int) (room : Nat) (w : World) (h : WS B w mb hb wb l a cap acc left) (hp : p ≤ 9223372036854775807) (hf : ¬ fits l.length p (min room left : Nat)) :
    Calls (Al.progOf Tryz.prog) 23 #[.pointer (some ⟨wb, 0, none⟩), .int .i64 p, .int .i64 (room : Nat)] w fun e w' => e = .returned (.iface 54 (.int .i64 1)) ∧ Below B w w' := by
  by_cases hc : left < room
  · exact take_noA B mb hb wb l a cap acc left p room w h hp hc (by rw [Nat.min_eq_right (by omega)] at hf; exact hf)
  · exact take_noB B mb hb wb l a cap acc left p room w h hp (by omega) (by rw [Nat.min_eq_left (by omega)] at hf; exact hf)
theorem take_yes (B mb hb wb : Nat) (l : List Nat) (a : Option Addr) (cap : Nat) (acc : List Sg) (left : Nat) (p : Int) (room : Nat) (w : World) (h : WS B w mb hb wb l a cap acc left) (hp : p ≤ 9223372036854775807) (h0 : 0 < min room left) (hf : fits l.length p (min room left : Nat)) :
    Calls (Al.progOf Tryz.prog) 23 #[.pointer (some ⟨wb, 0, none⟩), .int .i64 p, .int .i64 (room : Nat)] w fun e w' => TakePost B w w' e mb hb wb l acc left p (min room left) := by
  by_cases hc : left < room
  · have e : min room left = left := Nat.min_eq_right (by omega)
    rw [e] at hf h0 ⊢
    exact take_yesA B mb hb wb l a cap acc left p room w h hp hc h0 hf
  · have e : min room left = room := Nat.min_eq_left (by omega)
    rw [e] at hf h0 ⊢
    exact take_yesB B mb hb wb l a cap acc left p room w h hp (by omega) h0 hf
set_option maxHeartbeats 800000 in
theorem page_shape (v : Value) (p : Int) (w : World) (hp : ¬ pageA p) :
    Calls (Al.progOf Tryz.prog) 45 #[v, .int .i64 p] w fun e w' => e = .returned (.iface 54 (.int .i64 2)) ∧ w = w' := by
  have HP : Hid (Calls (Al.progOf Tryz.prog) 17 #[.int .i64 p] w fun e w' => e = .returned (.bool false) ∧ w = w') := by
    have := isPage_any p w
    rw [decide_eq_false hp] at this
    exact this
  clear hp
  go_enter Al.func45, Tryz.ntmps45
  go_wp2_with fail
  refine HP.out.mono ?_
  rintro e w' ⟨rfl, rfl⟩
  clear HP
  go_wp2
  go_ret
  exact ⟨rfl, rfl⟩
set_option maxHeartbeats 800000 in
theorem page_no (B mb hb wb : Nat) (l : List Nat) (a : Option Addr) (cap : Nat) (acc : List Sg) (left : Nat) (p : Int) (w : World) (h : WS B w mb hb wb l a cap acc left) (hp : p ≤ 9223372036854775807) (hg : pageA p) (hf : ¬ fits l.length p (min 64 left : Nat)) :
    Calls (Al.progOf Tryz.prog) 45 #[.pointer (some ⟨wb, 0, none⟩), .int .i64 p] w fun e w' => e = .returned (.iface 54 (.int .i64 1)) ∧ Below B w w' := by
  have HP : Hid (Calls (Al.progOf Tryz.prog) 17 #[.int .i64 p] w fun e w' => e = .returned (.bool true) ∧ w = w') := by
    have := isPage_any p w
    rw [decide_eq_true hg] at this
    exact this
  have HT : Hid (Calls (Al.progOf Tryz.prog) 23 #[.pointer (some ⟨wb, 0, none⟩), .int .i64 p, .int .i64 64] w fun e w' => e = .returned (.iface 54 (.int .i64 1)) ∧ Below B w w') := take_no B mb hb wb l a cap acc left p 64 w h hp hf
  clear h hf hg
  go_enter Al.func45, Tryz.ntmps45
  go_wp2_with fail
  refine HP.out.mono ?_
  rintro e w' ⟨rfl, rfl⟩
  go_wp2_with fail
  refine HT.out.mono ?_
  rintro e w' ⟨rfl, hW⟩
  clear HP HT
  go_wp2
  go_ret
  exact ⟨rfl, hW⟩
set_option maxHeartbeats 800000 in
theorem page_yes (B mb hb wb : Nat) (l : List Nat) (a : Option Addr) (cap : Nat) (acc : List Sg) (left : Nat) (p : Int) (w : World) (h : WS B w mb hb wb l a cap acc left) (hp : p ≤ 9223372036854775807) (hg : pageA p) (h0 : 0 < left) (hf : fits l.length p (min 64 left : Nat)) :
    Calls (Al.progOf Tryz.prog) 45 #[.pointer (some ⟨wb, 0, none⟩), .int .i64 p] w fun e w' => TakePost B w w' e mb hb wb l acc left p (min 64 left) := by
  have HP : Hid (Calls (Al.progOf Tryz.prog) 17 #[.int .i64 p] w fun e w' => e = .returned (.bool true) ∧ w = w') := by
    have := isPage_any p w
    rw [decide_eq_true hg] at this
    exact this
  have HT : Hid (Calls (Al.progOf Tryz.prog) 23 #[.pointer (some ⟨wb, 0, none⟩), .int .i64 p, .int .i64 64] w fun e w' => TakePost B w w' e mb hb wb l acc left p (min 64 left)) := take_yes B mb hb wb l a cap acc left p 64 w h hp (by omega) hf
  clear h hf hg h0
  generalize min 64 left = n at *
  go_enter Al.func45, Tryz.ntmps45
  go_wp2_with fail
  refine HP.out.mono ?_
  rintro e w' ⟨rfl, rfl⟩
  go_wp2_with fail
  refine HT.out.mono ?_
  rintro e w' ⟨rfl, hW⟩
  clear HP HT
  go_wp2
  go_ret
  exact ⟨rfl, hW⟩
theorem number_none (mb hb : Nat) (l : List Nat) (x : Nat) (w : World) (h : MW w mb hb l) (hx : x ≤ 9223372036854775807) (hn : numE l (x : Int) = none) :
    Calls (Al.progOf Tryz.prog) 60 #[.pointer (some ⟨mb, 0, none⟩), .int .i64 (x : Nat)] w fun e w' => e = .returned (.tuple #[.int .i64 0, .iface 54 (.int .i64 1)]) ∧ w = w' := by
  by_cases hf : fits l.length (x : Int) 8
  · refine (number_yes mb hb l x w h (by unfold fits at hf; omega)).mono fun e w' ⟨h1, h2⟩ => ⟨?_, h2⟩
    rw [h1]
    unfold numV
    rw [if_neg]
    intro hc
    unfold numE at hn
    rw [Int.toNat_natCast, if_pos ⟨hf, hc⟩] at hn
    cases hn
  · exact number_no mb hb l (x : Int) w h hf (by omega)
theorem number_some (mb hb : Nat) (l : List Nat) (x y : Nat) (w : World) (h : MW w mb hb l) (hn : numE l (x : Int) = some y) :
    Calls (Al.progOf Tryz.prog) 60 #[.pointer (some ⟨mb, 0, none⟩), .int .i64 (x : Nat)] w fun e w' => e = .returned (.tuple #[.int .i64 (y : Nat), .nilIface]) ∧ w = w' := by
  obtain ⟨h1, h2, h3⟩ := numE_of hn
  refine (number_yes mb hb l x w h h1).mono fun e w' ⟨q1, q2⟩ => ⟨?_, q2⟩
  rw [q1, h2]
  unfold numV
  rw [if_pos h3]
def ListPost (B : Nat) (w w' : World) (e : Ending) (mb hb wb : Nat) (l : List Nat) (acc : List Sg) (r : Nat × List Sg) : Prop :=
  e = .returned (errI r.1) ∧ Below B w w' ∧ (r.1 = 0 → ∃ a cap, WS B w' mb hb wb l a cap (acc ++ r.2) 0)
structure LI (B : Nat) (w wr : World) (mb hb wb : Nat) (l : List Nat) (a : Option Addr) (cap : Nat) (acc0 acc : List Sg) (r : Nat × List Sg) (x left f : Nat) : Prop where
  ws : WS B wr mb hb wb l a cap acc left
  bel : Below B w wr
  few : mu x left < f
  small : x ≤ 9223372036854775807
  eq : ∃ R, acc = acc0 ++ R ∧ r = ((goF l f x left).1, R ++ (goF l f x left).2)
def mW (wb : Nat) (v : Value) (wr : World) : Nat := mu (intOf v).toNat (intOf ((wr.cell? ⟨wb, 2, none⟩).getD (.int .i64 0))).toNat
theorem LI.mW {B : Nat} {w wr : World} {mb hb wb : Nat} {l : List Nat} {a : Option Addr} {cap : Nat} {acc0 acc : List Sg} {r : Nat × List Sg} {x left f : Nat} (h : LI B w wr mb hb wb l a cap acc0 acc r x left f) : YtpfknjpiknpiaaaGreatDoorQL.mW wb (.int .i64 (x : Nat)) wr = mu x left := by
  unfold YtpfknjpiknpiaaaGreatDoorQL.mW
  rw [h.ws.c2]
  simp [intOf]
theorem LI.bad {B : Nat} {w wr w' : World} {mb hb wb : Nat} {l : List Nat} {a : Option Addr} {cap : Nat} {acc0 acc : List Sg} {r : Nat × List Sg} {x left f : Nat} (h : LI B w wr mb hb wb l a cap acc0 acc r x left f) (hb' : Below B wr w') (n : Nat) (hn : n ≠ 0) (hg : goF l f x left = (n, [])) : ListPost B w w' (.returned (.iface 54 (.int .i64 (n : Nat)))) mb hb wb l acc0 r := by
  obtain ⟨R, _, e⟩ := h.eq
  rw [hg] at e
  subst e
  exact ⟨by show _ = Ending.returned (errI n); unfold errI; rw [if_neg hn], h.bel.trans hb', fun c => absurd c hn⟩
theorem LI.done {B : Nat} {w wr : World} {mb hb wb : Nat} {l : List Nat} {a : Option Addr} {cap : Nat} {acc0 acc : List Sg} {r : Nat × List Sg} {x f : Nat} (h : LI B w wr mb hb wb l a cap acc0 acc r x 0 f) : ListPost B w wr (.returned .nilIface) mb hb wb l acc0 r := by
  obtain ⟨R, e1, e⟩ := h.eq
  cases f with
  | zero => have := h.few; omega
  | succ f =>
    rw [goF_done] at e
    subst e
    refine ⟨rfl, h.bel, fun _ => ⟨a, cap, ?_⟩⟩
    have := h.ws
    rw [e1] at this
    simpa using this
theorem LI.on {B : Nat} {w wr : World} {mb hb wb : Nat} {l : List Nat} {a : Option Addr} {cap : Nat} {acc0 acc : List Sg} {r : Nat × List Sg} {x left f y : Nat} (h : LI B w wr mb hb wb l a cap acc0 acc r x left f) (h0 : left ≠ 0) (hn : numE l (x : Int) = some y) (hy : y % 64 = 0) (ha : x % 64 = 56 ∧ 64 < left) : ∃ f', LI B w wr mb hb wb l a cap acc0 acc r y left f' ∧ mu y left < mu x left := by
  have hm : mu y left < mu x left := by unfold mu; rw [if_pos ha.1, if_neg (by omega)]; omega
  obtain ⟨R, e1, e⟩ := h.eq
  cases f with
  | zero => have := h.few; omega
  | succ f =>
    rw [goF_on h0 hn hy ha] at e
    exact ⟨f, ⟨h.ws, h.bel, by have := h.few; omega, by have := (numE_of hn).2.2; omega, R, e1, e⟩, hm⟩
theorem LI.seg {B : Nat} {w wr w' : World} {mb hb wb : Nat} {l : List Nat} {a a' : Option Addr} {cap cap' : Nat} {acc0 acc : List Sg} {r : Nat × List Sg} {x left f y : Nat} (h : LI B w wr mb hb wb l a cap acc0 acc r x left f) (h0 : left ≠ 0) (hn : numE l (x : Int) = some y) (hy : y % 64 = 0) (ha : ¬ (x % 64 = 56 ∧ 64 < left)) (ho : ¬ l.length < y + min 64 left) (hb' : Below B wr w') (hs : WS B w' mb hb wb l a' cap' (acc ++ [⟨(y : Int), ((min 64 left : Nat) : Int)⟩]) (left - min 64 left)) : ∃ f', LI B w w' mb hb wb l a' cap' acc0 (acc ++ [⟨(y : Int), ((min 64 left : Nat) : Int)⟩]) r (x + 8) (left - min 64 left) f' ∧ mu (x + 8) (left - min 64 left) < mu x left := by
  have hm : mu (x + 8) (left - min 64 left) < mu x left := by unfold mu; split <;> split <;> omega
  obtain ⟨R, e1, e⟩ := h.eq
  cases f with
  | zero => have := h.few; omega
  | succ f =>
    rw [goF_seg h0 hn hy ha ho] at e
    refine ⟨f, ⟨hs, h.bel.trans hb', by have := h.few; omega, ?_, R ++ [⟨(y : Int), ((min 64 left : Nat) : Int)⟩], by rw [e1, List.append_assoc], by rw [e]; simp⟩, hm⟩
    have := (numE_of hn).1
    have := h.ws.mw.long
    omega
set_option maxRecDepth 20000 in
set_option maxHeartbeats 8000000 in
theorem takeList_any (B mb hb wb : Nat) (l : List Nat) (a0 : Option Addr) (cap0 : Nat) (acc0 : List Sg) (left0 at0 : Nat) (w : World) (h : WS B w mb hb wb l a0 cap0 acc0 left0) (hat : at0 ≤ 9223372036854775807) (hl : left0 ≤ 2048) :
    Calls (Al.progOf Tryz.prog) 46 #[.pointer (some ⟨wb, 0, none⟩), .int .i64 (at0 : Nat)] w fun e w' => ListPost B w w' e mb hb wb l acc0 (goF l 5000 at0 left0) := by
  have H0 : Hid (LI B w w mb hb wb l a0 cap0 acc0 acc0 (goF l 5000 at0 left0) at0 left0 5000) := ⟨h, Below.refl _ _, by unfold mu; split <;> omega, hat, [], by simp, by simp⟩
  clear h hat hl
  generalize goF l 5000 at0 left0 = r at *
  go_enter Al.func46, Tryz.ntmps46
  go_wp2
  go_loopw [1] (fun v wr => ∃ (a : Option Addr) (cap : Nat) (acc : List Sg) (x left f : Nat), v = .int .i64 (x : Nat) ∧ Hid (LI B w wr mb hb wb l a cap acc0 acc r x left f)) (fun v wr => mW wb v wr)
  case atStart => exact ⟨a0, cap0, acc0, at0, left0, 5000, rfl, H0.out⟩
  case round =>
    obtain ⟨a, cap, acc, x, left, f, rfl, hR⟩ := hrel
    clear H0
    have c0 := hR.out.ws.c0
    have c2 := hR.out.ws.c2
    by_cases hl0 : left = 0
    · subst hl0
      have HD := hR.out.done
      clear hR
      go_wp2
      go_ret
      exact HD
    · have hlp : (0 : Int) < (left : Int) := by omega
      have hsm := hR.out.small
      have HM : Hid (mW wb (.int .i64 (x : Nat)) wr = mu x left) := hR.out.mW
      have HL0 : Hid (¬ left = 0) := hl0
      clear hl0
      cases hn : numE l (x : Int) with
      | none =>
        have HN := number_none mb hb l x wr hR.out.ws.mw hsm hn
        have HD := hR.out.bad (Below.refl B wr) 1 (by decide) (by cases f with
          | zero => have := hR.out.few; omega
          | succ f => exact goF_none HL0.out hn)
        clear hR hn hsm HM
        go_wp2_with fail
        refine HN.mono ?_
        rintro e w' ⟨rfl, rfl⟩
        clear HN
        go_wp2
        go_ret
        exact HD
      | some y =>
        have HN := number_some mb hb l x y wr hR.out.ws.mw hn
        have HLs := isLast_any x wr
        obtain ⟨hx1, hx2, hx3⟩ := numE_of hn
        have HY : Hid (numE l (x : Int) = some y) := hn
        have hx8 : x + 8 ≤ 16384 := by have := hR.out.ws.mw.long; omega
        clear hx2 hx1 hn
        by_cases hy : y % 64 = 0
        · have HPg : Hid (pageA (y : Int)) := ⟨by omega, by omega⟩
          by_cases ha : x % 64 = 56 ∧ 64 < left
          · have HI : Hid (Calls (Al.progOf Tryz.prog) 17 #[.int .i64 (y : Nat)] wr fun e w' => e = .returned (.bool true) ∧ wr = w') := by
              have := isPage_any (y : Nat) wr
              rw [decide_eq_true HPg.out] at this
              exact this
            obtain ⟨f', hL, hm⟩ := hR.out.on HL0.out HY.out hy ha
            have HD : Hid (LI B w wr mb hb wb l a cap acc0 acc r y left f' ∧ mW wb (.int .i64 (y : Nat)) wr < mW wb (.int .i64 (x : Nat)) wr) := ⟨hL, by rw [hL.mW, HM.out]; exact hm⟩
            rw [decide_eq_true ha.1] at HLs
            have hl64 : (64 : Int) < (left : Int) := by have := ha.2; omega
            clear hL hm hR hy ha HPg HY HM HL0
            go_wp2_with fail
            refine HN.mono ?_
            rintro e w' ⟨rfl, rfl⟩
            go_wp2_with fail
            refine HLs.mono ?_
            rintro e w' ⟨rfl, rfl⟩
            go_wp2_with fail
            refine HI.out.mono ?_
            rintro e w' ⟨rfl, rfl⟩
            clear HN HLs HI
            go_wp2
            go_roundw
            case rel => exact ⟨a, cap, acc, y, left, f', rfl, HD.out.1⟩
            case measure => exact HD.out.2
          · by_cases ho : l.length < y + min 64 left
            · have HT : Hid (Calls (Al.progOf Tryz.prog) 45 #[.pointer (some ⟨wb, 0, none⟩), .int .i64 (y : Nat)] wr fun e w' => e = .returned (.iface 54 (.int .i64 1)) ∧ Below B wr w') := page_no B mb hb wb l a cap acc left (y : Nat) wr hR.out.ws (by omega) HPg.out (by unfold fits; omega)
              have HD : Hid (∀ w', Below B wr w' → ListPost B w w' (.returned (.iface 54 (.int .i64 1))) mb hb wb l acc0 r) := fun w' hb' => hR.out.bad hb' 1 (by decide) (by cases f with
                | zero => have := hR.out.few; omega
                | succ f => exact goF_out HL0.out HY.out hy ha ho)
              clear hR HPg ho hy HY HM HL0
              by_cases hx : x % 64 = 56
              · rw [decide_eq_true hx] at HLs
                have hl64 : ¬ (64 : Int) < (left : Int) := fun c => ha ⟨hx, by omega⟩
                clear hx ha
                go_wp2_with fail
                refine HN.mono ?_
                rintro e w' ⟨rfl, rfl⟩
                go_wp2_with fail
                refine HLs.mono ?_
                rintro e w' ⟨rfl, rfl⟩
                clear HN HLs
                go_wp2_with fail
                refine HT.out.mono ?_
                rintro e w' ⟨rfl, hW⟩
                clear HT
                go_wp2
                go_ret
                exact HD.out w' hW
              · rw [decide_eq_false hx] at HLs
                clear hx ha
                go_wp2_with fail
                refine HN.mono ?_
                rintro e w' ⟨rfl, rfl⟩
                go_wp2_with fail
                refine HLs.mono ?_
                rintro e w' ⟨rfl, rfl⟩
                clear HN HLs
                go_wp2_with fail
                refine HT.out.mono ?_
                rintro e w' ⟨rfl, hW⟩
                clear HT
                go_wp2
                go_ret
                exact HD.out w' hW
            · have HT : Hid (Calls (Al.progOf Tryz.prog) 45 #[.pointer (some ⟨wb, 0, none⟩), .int .i64 (y : Nat)] wr fun e w' => TakePost B wr w' e mb hb wb l acc left (y : Nat) (min 64 left)) := page_yes B mb hb wb l a cap acc left (y : Nat) wr hR.out.ws (by omega) HPg.out (by have := HL0.out; omega) (by unfold fits; omega)
              have HD : Hid (∀ w' a' cap', Below B wr w' → WS B w' mb hb wb l a' cap' (acc ++ [⟨(y : Int), ((min 64 left : Nat) : Int)⟩]) (left - min 64 left) → ∃ f', LI B w w' mb hb wb l a' cap' acc0 (acc ++ [⟨(y : Int), ((min 64 left : Nat) : Int)⟩]) r (x + 8) (left - min 64 left) f' ∧ mW wb (.int .i64 ((x + 8 : Nat) : Int)) w' < mW wb (.int .i64 (x : Nat)) wr) := fun w' a' cap' hb' hs => by
                obtain ⟨f', hL, hm⟩ := hR.out.seg HL0.out HY.out hy ha ho hb' hs
                exact ⟨f', hL, by rw [hL.mW, HM.out]; exact hm⟩
              clear hR HPg ho hy HY HM HL0
              by_cases hx : x % 64 = 56
              · rw [decide_eq_true hx] at HLs
                have hl64 : ¬ (64 : Int) < (left : Int) := fun c => ha ⟨hx, by omega⟩
                clear hx ha
                go_wp2_with fail
                refine HN.mono ?_
                rintro e w' ⟨rfl, rfl⟩
                go_wp2_with fail
                refine HLs.mono ?_
                rintro e w' ⟨rfl, rfl⟩
                clear HN HLs
                go_wp2_with fail
                refine HT.out.mono ?_
                rintro e w' ⟨rfl, hW, a', cap', hs⟩
                obtain ⟨f', hL, hm⟩ := HD.out w' a' cap' hW hs
                have HE : Hid (LI B w w' mb hb wb l a' cap' acc0 (acc ++ [⟨(y : Int), ((min 64 left : Nat) : Int)⟩]) r (x + 8) (left - min 64 left) f' ∧ mW wb (.int .i64 ((x + 8 : Nat) : Int)) w' < mW wb (.int .i64 (x : Nat)) wr) := ⟨hL, hm⟩
                clear HT HD hs hW hL hm
                go_wp2
                go_roundw
                case rel => exact ⟨a', cap', _, x + 8, _, f', by go_num, HE.out.1⟩
                case measure => exact HE.out.2
              · rw [decide_eq_false hx] at HLs
                clear hx ha
                go_wp2_with fail
                refine HN.mono ?_
                rintro e w' ⟨rfl, rfl⟩
                go_wp2_with fail
                refine HLs.mono ?_
                rintro e w' ⟨rfl, rfl⟩
                clear HN HLs
                go_wp2_with fail
                refine HT.out.mono ?_
                rintro e w' ⟨rfl, hW, a', cap', hs⟩
                obtain ⟨f', hL, hm⟩ := HD.out w' a' cap' hW hs
                have HE : Hid (LI B w w' mb hb wb l a' cap' acc0 (acc ++ [⟨(y : Int), ((min 64 left : Nat) : Int)⟩]) r (x + 8) (left - min 64 left) f' ∧ mW wb (.int .i64 ((x + 8 : Nat) : Int)) w' < mW wb (.int .i64 (x : Nat)) wr) := ⟨hL, hm⟩
                clear HT HD hs hW hL hm
                go_wp2
                go_roundw
                case rel => exact ⟨a', cap', _, x + 8, _, f', by go_num, HE.out.1⟩
                case measure => exact HE.out.2
        · by_cases ha : x % 64 = 56 ∧ 64 < left
          · have HI : Hid (Calls (Al.progOf Tryz.prog) 17 #[.int .i64 (y : Nat)] wr fun e w' => e = .returned (.bool false) ∧ wr = w') := by
              have := isPage_any (y : Nat) wr
              rw [decide_eq_false (by omega)] at this
              exact this
            have HD := hR.out.bad (Below.refl B wr) 2 (by decide) (by cases f with
              | zero => have := hR.out.few; omega
              | succ f => exact goF_shape HL0.out HY.out hy)
            rw [decide_eq_true ha.1] at HLs
            have hl64 : (64 : Int) < (left : Int) := by have := ha.2; omega
            clear hR hy ha HY HM HL0
            go_wp2_with fail
            refine HN.mono ?_
            rintro e w' ⟨rfl, rfl⟩
            go_wp2_with fail
            refine HLs.mono ?_
            rintro e w' ⟨rfl, rfl⟩
            go_wp2_with fail
            refine HI.out.mono ?_
            rintro e w' ⟨rfl, rfl⟩
            clear HN HLs HI
            go_wp2
            go_ret
            exact HD
          · have HT : Hid (Calls (Al.progOf Tryz.prog) 45 #[.pointer (some ⟨wb, 0, none⟩), .int .i64 (y : Nat)] wr fun e w' => e = .returned (.iface 54 (.int .i64 2)) ∧ wr = w') := page_shape _ (y : Nat) wr (by unfold pageA; omega)
            have HD : Hid (ListPost B w wr (.returned (.iface 54 (.int .i64 2))) mb hb wb l acc0 r) := hR.out.bad (Below.refl B wr) 2 (by decide) (by cases f with
              | zero => have := hR.out.few; omega
              | succ f => exact goF_shape HL0.out HY.out hy)
            clear hR hy HY HM HL0
            by_cases hx : x % 64 = 56
            · rw [decide_eq_true hx] at HLs
              have hl64 : ¬ (64 : Int) < (left : Int) := fun c => ha ⟨hx, by omega⟩
              clear hx ha
              go_wp2_with fail
              refine HN.mono ?_
              rintro e w' ⟨rfl, rfl⟩
              go_wp2_with fail
              refine HLs.mono ?_
              rintro e w' ⟨rfl, rfl⟩
              clear HN HLs
              go_wp2_with fail
              refine HT.out.mono ?_
              rintro e w' ⟨rfl, rfl⟩
              clear HT
              go_wp2
              go_ret
              exact HD.out
            · rw [decide_eq_false hx] at HLs
              clear hx ha
              go_wp2_with fail
              refine HN.mono ?_
              rintro e w' ⟨rfl, rfl⟩
              go_wp2_with fail
              refine HLs.mono ?_
              rintro e w' ⟨rfl, rfl⟩
              clear HN HLs
              go_wp2_with fail
              refine HT.out.mono ?_
              rintro e w' ⟨rfl, rfl⟩
              clear HT
              go_wp2
              go_ret
              exact HD.out
theorem errI_ne {n : Nat} (h : n ≠ 0) : errI n = .iface 54 (.int .i64 (n : Int)) := if_neg h
theorem ListPost.none {B : Nat} {w w' : World} {mb hb wb : Nat} {l : List Nat} {acc : List Sg} {n : Nat} (hn : n ≠ 0) (hb' : Below B w w') {r : Nat × List Sg} (hr : r = (n, [])) : ListPost B w w' (.returned (.iface 54 (.int .i64 (n : Nat)))) mb hb wb l acc r := by
  subst hr
  exact ⟨by show _ = Ending.returned (errI n); rw [errI_ne hn], hb', fun c => absurd c hn⟩
set_option maxRecDepth 20000 in
set_option maxHeartbeats 1600000 in
theorem takeRest_any (B mb hb wb : Nat) (l : List Nat) (a : Option Addr) (cap : Nat) (acc : List Sg) (left : Nat) (second : Int) (w : World) (h : WS B w mb hb wb l a cap acc left) (h0 : 0 < left) (hl : left ≤ 2048) (hs : second ≤ 9223372036854775807) :
    Calls (Al.progOf Tryz.prog) 24 #[.pointer (some ⟨wb, 0, none⟩), .int .i64 second] w fun e w' => ListPost B w w' e mb hb wb l acc (restF l second left) := by
  have c2 := h.c2
  by_cases h1 : left ≤ 64
  · have hi : (left : Int) ≤ 64 := by omega
    have hmin : min 64 left = left := Nat.min_eq_right h1
    have HT : Hid (Calls (Al.progOf Tryz.prog) 45 #[.pointer (some ⟨wb, 0, none⟩), .int .i64 second] w fun e w' => ListPost B w w' e mb hb wb l acc (restF l second left)) := by
      by_cases h2 : pageA second
      · by_cases h3 : fits l.length second (left : Int)
        · refine (page_yes B mb hb wb l a cap acc left second w h hs h2 h0 (by rw [hmin]; exact h3)).mono ?_
          rintro e w' ⟨q1, q2, a', cap', q3⟩
          have er : restF l second left = (0, [⟨second, (left : Int)⟩]) := by unfold restF; rw [if_neg (by omega), if_pos h1, if_neg (Decidable.not_not.2 h2), if_neg (Decidable.not_not.2 h3)]
          rw [er]
          rw [hmin, Nat.sub_self] at q3
          exact ⟨q1, q2, fun _ => ⟨a', cap', q3⟩⟩
        · refine (page_no B mb hb wb l a cap acc left second w h hs h2 (by rw [hmin]; exact h3)).mono ?_
          rintro e w' ⟨rfl, q2⟩
          exact ListPost.none (n := 1) (by decide) q2 (by unfold restF; rw [if_neg (by omega), if_pos h1, if_neg (Decidable.not_not.2 h2), if_pos h3])
      · refine (page_shape _ second w h2).mono ?_
        rintro e w' ⟨rfl, rfl⟩
        exact ListPost.none (n := 2) (by decide) (Below.refl _ _) (by unfold restF; rw [if_neg (by omega), if_pos h1, if_pos h2])
    clear h h0 hl hmin h1
    generalize restF l second left = r at *
    go_enter Al.func24, Tryz.ntmps24
    go_wp2_with fail
    refine HT.out.mono ?_
    rintro e w' ⟨rfl, hW⟩
    clear HT
    go_wp2
    go_ret
    exact ⟨rfl, hW⟩
  · have hi : ¬ (left : Int) ≤ 64 := by omega
    by_cases h2 : second < 0
    · have HD : Hid (ListPost B w w (.returned (.iface 54 (.int .i64 2))) mb hb wb l acc (restF l second left)) := ListPost.none (n := 2) (by decide) (Below.refl _ _) (by unfold restF; rw [if_neg (by omega), if_neg h1, if_pos (Or.inl h2)])
      clear h h0 hl h1
      generalize restF l second left = r at *
      go_enter Al.func24, Tryz.ntmps24
      go_wp2
      go_ret
      exact HD.out
    · obtain ⟨k, rfl⟩ := Int.eq_ofNat_of_zero_le (show 0 ≤ second by omega)
      by_cases h3 : ((k : Nat) : Int) % 8 = 0
      · have h4 : (((k : Nat) : Int) % 8 != 0) = false := by simpa using h3
        have HT : Hid (Calls (Al.progOf Tryz.prog) 46 #[.pointer (some ⟨wb, 0, none⟩), .int .i64 (k : Nat)] w fun e w' => ListPost B w w' e mb hb wb l acc (restF l (k : Nat) left)) := by
          have er : restF l (k : Nat) left = goF l 5000 k left := by unfold restF; rw [if_neg (by omega), if_neg h1, if_neg (by omega), Int.toNat_natCast]
          rw [er]
          exact takeList_any B mb hb wb l a cap acc left k w h (by omega) hl
        clear h h0 hl h1 h2 h3
        generalize restF l (k : Nat) left = r at *
        go_enter Al.func24, Tryz.ntmps24
        go_wp2_with fail
        refine HT.out.mono ?_
        rintro e w' ⟨rfl, hW⟩
        clear HT
        go_wp2
        go_ret
        exact ⟨rfl, hW⟩
      · have h4 : (((k : Nat) : Int) % 8 != 0) = true := by simpa using h3
        have HD : Hid (ListPost B w w (.returned (.iface 54 (.int .i64 2))) mb hb wb l acc (restF l (k : Nat) left)) := ListPost.none (n := 2) (by decide) (Below.refl _ _) (by unfold restF; rw [if_neg (by omega), if_neg h1, if_pos (Or.inr h3)])
        clear h h0 hl h1 h2 h3
        generalize restF l (k : Nat) left = r at *
        go_enter Al.func24, Tryz.ntmps24
        go_wp2
        go_ret
        exact HD.out
def WalkPost (w w' : World) (e : Ending) (r : Nat × List Sg) : Prop :=
  Below w.heap.size w w' ∧ ((r.1 ≠ 0 ∧ e = .returned (.tuple #[.slice none 0 0, .iface 54 (.int .i64 (r.1 : Int))])) ∨ (r.1 = 0 ∧ ∃ a cap, e = .returned (.tuple #[.slice a r.2.length cap, .nilIface]) ∧ OwnS w' w.heap.size a cap r.2))
theorem WalkPost.no {w w' : World} {r : Nat × List Sg} {n : Nat} (hn : n ≠ 0) (hb : Below w.heap.size w w') (hr : r.1 = n) : WalkPost w w' (.returned (.tuple #[.slice none 0 0, .iface 54 (.int .i64 (n : Nat))])) r := by
  subst hr
  exact ⟨hb, .inl ⟨hn, rfl⟩⟩
theorem WS.new {w w' : World} {mb hb : Nat} {l : List Nat} (h : MW w mb hb l) (n : Nat) (hn : n ≤ 2048) (hw' : w' = w.alloc (.cells #[.pointer (some ⟨mb, 0, none⟩), .slice none 0 0, .int .i64 (n : Nat)] 69)) :
    WS w.heap.size w' mb hb w.heap.size l none 0 [] n := by
  subst hw'
  have hb' := alloc_below' w (.cells #[.pointer (some ⟨mb, 0, none⟩), .slice none 0 0, .int .i64 (n : Nat)] 69)
  refine ⟨h.below hb', h.lt.1, h.lt.2, Nat.le_refl _, by simp, by simp, by simp, fun o => by simp, OwnS.nil _ _, fun b e => (by obtain ⟨x, e, _⟩ := e; cases e), (by simp; omega)⟩
set_option maxRecDepth 20000 in
set_option maxHeartbeats 1600000 in
theorem walk_long (mb hb : Nat) (l : List Nat) (first second long : Int) (w : World) (h : long < 1 ∨ 2048 < long) :
    Calls (Al.progOf Tryz.prog) 9 #[.pointer (some ⟨mb, 0, none⟩), .int .i64 first, .int .i64 second, .int .i64 long] w fun e w' => WalkPost w w' e (walkF l first second long) := by
  have HM : Hid (Calls (Al.progOf Tryz.prog) 14 #[.int .i64 long] w fun e w' => e = .returned (.bool false) ∧ w = w') := by
    have := mayMove_any long w
    rw [decide_eq_false (by omega)] at this
    exact this
  have HD : Hid (WalkPost w w (.returned (.tuple #[.slice none 0 0, .iface 54 (.int .i64 1)])) (walkF l first second long)) := WalkPost.no (n := 1) (by decide) (Below.refl _ _) (by unfold walkF; rw [if_pos h])
  clear h
  generalize walkF l first second long = r at *
  go_enter Al.func9, Tryz.ntmps9
  go_wp2_with fail
  refine HM.out.mono ?_
  rintro e w' ⟨rfl, rfl⟩
  clear HM
  go_wp2
  go_ret2
  exact HD.out
set_option maxRecDepth 20000 in
set_option maxHeartbeats 1600000 in
theorem walk_four (mb hb : Nat) (l : List Nat) (first second long : Int) (w : World) (h : 1 ≤ long ∧ long ≤ 2048) (h4 : first % 4 ≠ 0) :
    Calls (Al.progOf Tryz.prog) 9 #[.pointer (some ⟨mb, 0, none⟩), .int .i64 first, .int .i64 second, .int .i64 long] w fun e w' => WalkPost w w' e (walkF l first second long) := by
  have HM : Hid (Calls (Al.progOf Tryz.prog) 14 #[.int .i64 long] w fun e w' => e = .returned (.bool true) ∧ w = w') := by
    have := mayMove_any long w
    rw [decide_eq_true h] at this
    exact this
  have HD : Hid (WalkPost w w (.returned (.tuple #[.slice none 0 0, .iface 54 (.int .i64 2)])) (walkF l first second long)) := WalkPost.no (n := 2) (by decide) (Below.refl _ _) (by unfold walkF; rw [if_neg (by omega), if_pos h4])
  have ht : (first.tmod 4 != 0) = true := by
    rw [bne_iff_ne]
    exact fun c => h4 ((tmod_dvd first 4 (by decide)).1 c)
  clear h h4
  generalize walkF l first second long = r at *
  go_enter Al.func9, Tryz.ntmps9
  go_wp2_with fail
  refine HM.out.mono ?_
  rintro e w' ⟨rfl, rfl⟩
  clear HM
  go_wp2
  go_ret2
  exact HD.out
set_option maxRecDepth 20000 in
set_option maxHeartbeats 1600000 in
theorem walk_out (mb hb : Nat) (l : List Nat) (first second : Int) (long room : Nat) (w : World) (hm : MW w mb hb l) (h : 1 ≤ long ∧ long ≤ 2048) (h4 : first % 4 = 0) (hr : (64 : Int) - first.tmod 64 = (room : Int)) (hrm : room ≤ 200) (hp : first ≤ 9223372036854775807) (hf : ¬ fits l.length first (min room long : Nat)) (h1 : (walkF l first second (long : Int)).1 = 1) :
    Calls (Al.progOf Tryz.prog) 9 #[.pointer (some ⟨mb, 0, none⟩), .int .i64 first, .int .i64 second, .int .i64 (long : Nat)] w fun e w' => WalkPost w w' e (walkF l first second (long : Int)) := by
  have HM : Hid (Calls (Al.progOf Tryz.prog) 14 #[.int .i64 (long : Nat)] w fun e w' => e = .returned (.bool true) ∧ w = w') := by
    have := mayMove_any (long : Nat) w
    rw [decide_eq_true (by omega)] at this
    exact this
  have HD : Hid (∀ w', Below w.heap.size w w' → WalkPost w w' (.returned (.tuple #[.slice none 0 0, .iface 54 (.int .i64 1)])) (walkF l first second (long : Int))) := fun w' hb' => WalkPost.no (n := 1) (by decide) hb' h1
  have HP := present_any mb w
  have HB : Hid (Below w.heap.size w (w.alloc (.cells #[.pointer (some ⟨mb, 0, none⟩), .slice none 0 0, .int .i64 (long : Nat)] 69))) := alloc_below' w _
  have HT : Hid (Calls (Al.progOf Tryz.prog) 23 #[.pointer (some ⟨w.heap.size, 0, none⟩), .int .i64 first, .int .i64 (room : Nat)] (w.alloc (.cells #[.pointer (some ⟨mb, 0, none⟩), .slice none 0 0, .int .i64 (long : Nat)] 69)) fun e w' => e = .returned (.iface 54 (.int .i64 1)) ∧ Below w.heap.size (w.alloc (.cells #[.pointer (some ⟨mb, 0, none⟩), .slice none 0 0, .int .i64 (long : Nat)] 69)) w') := take_no w.heap.size mb hb w.heap.size l none 0 [] long first room _ (WS.new hm long h.2 rfl) hp hf
  have ht : (first.tmod 4 != 0) = false := by
    rw [bne_eq_false_iff_eq]
    exact (tmod_dvd first 4 (by decide)).2 h4
  clear h h4 h1 hf hm
  generalize walkF l first second (long : Int) = r at *
  go_enter Al.func9, Tryz.ntmps9
  go_wp2_with fail
  refine HM.out.mono ?_
  rintro e w' ⟨rfl, rfl⟩
  go_wp2_with fail
  refine HP.mono ?_
  rintro e w' ⟨rfl, rfl⟩
  clear HM HP
  go_wp2_with fail
  refine HT.out.mono ?_
  rintro e w' ⟨rfl, hW⟩
  have HE := HD.out w' (HB.out.trans hW)
  clear HT HD HB hW
  go_wp2
  go_ret2
  exact HE
set_option maxRecDepth 20000 in
set_option maxHeartbeats 1600000 in
theorem walk_in (mb hb : Nat) (l : List Nat) (first : Nat) (second : Int) (long room : Nat) (w : World) (hm : MW w mb hb l) (h : 1 ≤ long ∧ long ≤ 2048) (h4 : first % 4 = 0) (hr : (64 : Int) - (first : Int) % 64 = (room : Int)) (hrm : room ≤ 200) (hp : first ≤ 9223372036854775807) (hs : second ≤ 9223372036854775807) (hf : first + min room long ≤ l.length) (hrp : 0 < room)
    (hw : walkF l first second (long : Int) = ((restF l second (long - min room long)).1, ⟨(first : Int), ((min room long : Nat) : Int)⟩ :: (restF l second (long - min room long)).2)) :
    Calls (Al.progOf Tryz.prog) 9 #[.pointer (some ⟨mb, 0, none⟩), .int .i64 (first : Nat), .int .i64 second, .int .i64 (long : Nat)] w fun e w' => WalkPost w w' e (walkF l first second (long : Int)) := by
  have HM : Hid (Calls (Al.progOf Tryz.prog) 14 #[.int .i64 (long : Nat)] w fun e w' => e = .returned (.bool true) ∧ w = w') := by
    have := mayMove_any (long : Nat) w
    rw [decide_eq_true (by omega)] at this
    exact this
  have HP := present_any mb w
  have HB : Hid (Below w.heap.size w (w.alloc (.cells #[.pointer (some ⟨mb, 0, none⟩), .slice none 0 0, .int .i64 (long : Nat)] 69))) := alloc_below' w _
  have HT : Hid (Calls (Al.progOf Tryz.prog) 23 #[.pointer (some ⟨w.heap.size, 0, none⟩), .int .i64 (first : Nat), .int .i64 (room : Nat)] (w.alloc (.cells #[.pointer (some ⟨mb, 0, none⟩), .slice none 0 0, .int .i64 (long : Nat)] 69)) fun e w' => TakePost w.heap.size (w.alloc (.cells #[.pointer (some ⟨mb, 0, none⟩), .slice none 0 0, .int .i64 (long : Nat)] 69)) w' e mb hb w.heap.size l [] long (first : Nat) (min room long)) := take_yes w.heap.size mb hb w.heap.size l none 0 [] long (first : Nat) room _ (WS.new hm long h.2 rfl) (by omega) (by omega) (by unfold fits; omega)
  have ht : (((first : Nat) : Int) % 4 != 0) = false := by
    rw [bne_eq_false_iff_eq]
    omega
  have HW : Hid (walkF l first second (long : Int) = ((restF l second (long - min room long)).1, ⟨(first : Int), ((min room long : Nat) : Int)⟩ :: (restF l second (long - min room long)).2)) := hw
  obtain ⟨left, HLF⟩ : ∃ left, Hid (left = long - min room long ∧ left ≤ 2048) := ⟨_, rfl, by omega⟩
  have HR : Hid (∀ w2 a cap, WS w.heap.size w2 mb hb w.heap.size l a cap [⟨(first : Int), ((min room long : Nat) : Int)⟩] left → 0 < left → Calls (Al.progOf Tryz.prog) 24 #[.pointer (some ⟨w.heap.size, 0, none⟩), .int .i64 second] w2 fun e w' => ListPost w.heap.size w2 w' e mb hb w.heap.size l [⟨(first : Int), ((min room long : Nat) : Int)⟩] (restF l second left)) := fun w2 a cap q q0 => takeRest_any w.heap.size mb hb w.heap.size l a cap _ left second w2 q q0 HLF.out.2 hs
  have HE : Hid (walkF l first second (long : Int) = ((restF l second left).1, ⟨(first : Int), ((min room long : Nat) : Int)⟩ :: (restF l second left).2)) := by show _ = _; rw [HW.out, HLF.out.1]
  have HZ : Hid (left = 0 → restF l second left = (0, [])) := fun e => by unfold restF; rw [if_pos e]
  have HT2 : Hid (Calls (Al.progOf Tryz.prog) 23 #[.pointer (some ⟨w.heap.size, 0, none⟩), .int .i64 (first : Nat), .int .i64 (room : Nat)] (w.alloc (.cells #[.pointer (some ⟨mb, 0, none⟩), .slice none 0 0, .int .i64 (long : Nat)] 69)) fun e w' => e = .returned .nilIface ∧ Below w.heap.size w w' ∧ ∃ a cap, WS w.heap.size w' mb hb w.heap.size l a cap [⟨(first : Int), ((min room long : Nat) : Int)⟩] left) := by
    refine HT.out.mono ?_
    rintro e w' ⟨q1, q2, a, cap, q3⟩
    rw [← HLF.out.1] at q3
    exact ⟨q1, HB.out.trans q2, a, cap, q3⟩
  clear h h4 hf hm hp hs HW hw hrp HT HB HLF
  rw [HE.out]
  generalize restF l second left = r at *
  generalize (⟨(first : Int), ((min room long : Nat) : Int)⟩ : Sg) = s at *
  go_enter Al.func9, Tryz.ntmps9
  go_wp2_with fail
  refine HM.out.mono ?_
  rintro e w' ⟨rfl, rfl⟩
  go_wp2_with fail
  refine HP.mono ?_
  rintro e w' ⟨rfl, rfl⟩
  clear HM HP
  go_wp2_with fail
  refine HT2.out.mono ?_
  rintro e w2 ⟨rfl, hW, a, cap, hS⟩
  have c1 := hS.c1
  have c2 := hS.c2
  have HO : Hid (OwnS w2 w.heap.size a cap [s] ∧ Below w.heap.size w w2) := ⟨hS.own, hW⟩
  clear HT2 HE
  by_cases h0 : left = 0
  · subst h0
    have er := HZ.out rfl
    subst er
    clear HR HZ hS hW
    go_wp2
    go_ret2
    exact ⟨HO.out.2, .inr ⟨rfl, a, cap, rfl, HO.out.1⟩⟩
  · have h1 : (0 : Int) < (left : Int) := by omega
    have HQ := HR.out w2 a cap hS (by omega)
    clear HR HZ hS hW
    go_wp2_with fail
    refine HQ.mono ?_
    rintro e w3 ⟨rfl, hb3, hs3⟩
    have hb4 := HO.out.2.trans hb3
    clear HQ HO
    by_cases hr0 : r.1 = 0
    · obtain ⟨a3, cap3, hS3⟩ := hs3 hr0
      have c13 := hS3.c1
      rw [show errI r.1 = .nilIface by rw [hr0]; rfl]
      have HO : Hid (OwnS w3 w.heap.size a3 cap3 (s :: r.2)) := hS3.own
      have HF : Hid (WalkPost w w3 (.returned (.tuple #[.slice a3 ([s] ++ r.2).length cap3, .nilIface])) (r.1, s :: r.2)) := ⟨hb4, .inr ⟨hr0, a3, cap3, rfl, HO.out⟩⟩
      clear hs3 hS3 hr0
      go_wp2
      go_ret2
      exact HF.out
    · have HF : Hid (WalkPost w w3 (.returned (.tuple #[.slice none 0 0, .iface 54 (.int .i64 (r.1 : Nat))])) (r.1, s :: r.2)) := WalkPost.no hr0 hb4 rfl
      rw [errI_ne hr0]
      clear hs3 hr0
      go_wp2
      go_ret2
      exact HF.out
theorem walk_any (mb hb : Nat) (l : List Nat) (first second long : Int) (w : World) (hm : MW w mb hb l) (hp : first ≤ 9223372036854775807) (hp0 : -9223372036854775808 ≤ first) (hs : second ≤ 9223372036854775807) :
    Calls (Al.progOf Tryz.prog) 9 #[.pointer (some ⟨mb, 0, none⟩), .int .i64 first, .int .i64 second, .int .i64 long] w fun e w' => WalkPost w w' e (walkF l first second long) := by
  by_cases h1 : long < 1 ∨ 2048 < long
  · exact walk_long mb hb l first second long w h1
  by_cases h2 : first % 4 = 0
  · obtain ⟨n, rfl⟩ := Int.eq_ofNat_of_zero_le (show 0 ≤ long by omega)
    by_cases h3 : first < 0
    · have ht : -64 < first.tmod 64 ∧ first.tmod 64 ≤ 0 := by
        have e1 := Int.neg_tmod (a := -first) (b := 64)
        rw [Int.neg_neg] at e1
        rw [e1, Int.tmod_eq_emod_of_nonneg (by omega)]
        omega
      obtain ⟨room, hr⟩ := Int.eq_ofNat_of_zero_le (show 0 ≤ (64 : Int) - first.tmod 64 by omega)
      exact walk_out mb hb l first second n room w hm (by omega) h2 hr (by omega) hp (fun c => by unfold fits at c; omega) (by unfold walkF; rw [if_neg h1, if_neg (by omega), if_pos h3])
    · obtain ⟨k, rfl⟩ := Int.eq_ofNat_of_zero_le (show 0 ≤ first by omega)
      have hfn : min (64 - k % 64) n = firstN k n := rfl
      by_cases h4 : k + min (64 - k % 64) n ≤ l.length
      · refine walk_in mb hb l k second n (64 - k % 64) w hm (by omega) (by omega) (by omega) (by omega) (by omega) hs h4 (by omega) ?_
        rw [hfn] at h4 ⊢
        unfold walkF
        rw [if_neg h1, if_neg (by omega), if_neg h3, Int.toNat_natCast, Int.toNat_natCast, if_neg (Decidable.not_not.2 (show fits l.length (k : Int) (firstN k n : Nat) from ⟨by omega, by omega, by omega⟩))]
      · refine walk_out mb hb l (k : Nat) second n (64 - k % 64) w hm (by omega) h2 ?_ (by omega) hp (fun c => h4 (by unfold fits at c; omega)) ?_
        · rw [Int.tmod_eq_emod_of_nonneg (by omega)]; omega
        · rw [hfn] at h4
          unfold walkF
          rw [if_neg h1, if_neg (by omega), if_neg h3, Int.toNat_natCast, Int.toNat_natCast, if_pos (fun c => h4 (by unfold fits at c; omega))]
  · exact walk_four mb hb l first second long w (by omega) h2
end Go.Proofs.YtpfknjpiknpiaaaGreatDoorQL

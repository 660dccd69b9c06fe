/- Part of the proof. -/
import Derived.Test.YtobpjijdebnaoaaDoorQFacts
import Derived.Test.YtobpjijdebnaoaaDoorMMath
import Derived.WalkKit
import Derived.WalkSpells
import Derived.WalkLawsBesides
import Derived.Deep.QuietTactic
import Derived.BigQuiet
import Derived.Laws.CopyOwn
import Derived.Deep.RegionWith
import Derived.Deep.CutRange
import Derived.Deep.DeepCutAuto
import Derived.Deep.RegionHeld3
import Derived.Deep.RegionLaw
namespace Go.Proofs.YtobpjijdebnaoaaDoorQ
open Go.Proofs.YtobpjijdebnaoaaDoorM
open Go.RowKit
theorem val_int {k : IntKind} {a b : Int} (h : a = b) : Value.int k a = Value.int k b := by rw [h]
theorem ret_int {k : IntKind} {a b : Int} (h : a = b) : Ending.returned (.int k a) = .returned (.int k b) := by rw [h]
theorem ext_getD {a b : List Nat} (hl : a.length = b.length) (h : ∀ j, j < a.length → a[j]?.getD 0 = b[j]?.getD 0) : a = b := by
  apply List.ext_getElem hl
  intro i h1 h2
  have := h i h1
  rw [List.getElem?_eq_getElem h1, List.getElem?_eq_getElem h2] at this
  exact this
/-- THE BYTES bs LIE AT a: there are none; or each is a cell. -/
def Lies (w : World) (a : Option Addr) (bs : List Nat) : Prop :=
  bs = [] ∨ ∃ b off, a = some ⟨b, off, none⟩ ∧ ∀ i, i < bs.length → w.cell? ⟨b, off + i, none⟩ = some (.int .u8 ((bs[i]?.getD 0 : Nat) : Int))
theorem Lies.below {w w' : World} {a : Option Addr} {bs : List Nat} (h : Lies w a bs) (hb : Below w.heap.size w w') : Lies w' a bs := by
  rcases h with h | ⟨b, off, rfl, h⟩
  · exact Or.inl h
  · refine Or.inr ⟨b, off, rfl, fun i hi => ?_⟩
    have hc := h i hi
    rw [hb.cell (p := ⟨b, off + i, none⟩) (World.block_lt_of_cell? w _ hc)]
    exact hc
/-- ALL BUT THE BLOCKS OF S IS AS IT WAS. -/
structure Keep (S : Nat → Prop) (w w' : World) : Prop where
  os : w'.os = w.os
  tape : w'.tape = w.tape
  output : w'.output = w.output
  size : w.heap.size ≤ w'.heap.size
  block : ∀ k, k < w.heap.size → ¬ S k → w'.heap[k]? = w.heap[k]?
theorem Keep.refl (S : Nat → Prop) (w : World) : Keep S w w := ⟨rfl, rfl, rfl, Nat.le_refl _, fun _ _ _ => rfl⟩
theorem Keep.trans {S : Nat → Prop} {a b c : World} (h : Keep S a b) (k : Keep S b c) : Keep S a c :=
  ⟨k.os.trans h.os, k.tape.trans h.tape, k.output.trans h.output, Nat.le_trans h.size k.size, fun i hi hs => (k.block i (Nat.lt_of_lt_of_le hi h.size) hs).trans (h.block i hi hs)⟩
theorem Keep.of_below {S : Nat → Prop} {w w' : World} (h : Below w.heap.size w w') : Keep S w w' := ⟨h.os, h.tape, h.output, h.size, fun k hk _ => h.block k hk⟩
theorem Keep.mono {S T : Nat → Prop} {w w' : World} (h : Keep S w w') (hs : ∀ k, S k → T k) : Keep T w w' := ⟨h.os, h.tape, h.output, h.size, fun k hk ht => h.block k hk (fun e => ht (hs k e))⟩
theorem Keep.below {S : Nat → Prop} {w w' : World} {B : Nat} (h : Keep S w w') (hB : B ≤ w.heap.size) (hs : ∀ k, S k → B ≤ k) : Below B w w' :=
  ⟨h.os, h.tape, h.output, h.size, fun k hk => h.block k (by omega) (fun e => by have := hs k e; omega)⟩
theorem Keep.cell {S : Nat → Prop} {w w' : World} (h : Keep S w w') {p : Addr} (hp : p.block < w.heap.size) (hs : ¬ S p.block) : w'.cell? p = w.cell? p := World.cell?_of_block (w := w) (h.block p.block hp hs)
theorem Keep.frozen {S : Nat → Prop} {w w' : World} (h : Keep S w w') {p : Addr} (hp : p.block < w.heap.size) (hs : ¬ S p.block) : w'.frozen? p = w.frozen? p := World.frozen?_of_block (w := w) (h.block p.block hp hs)
theorem Keep.set {S : Nat → Prop} {a w : World} (h : Keep S a w) {p : Addr} (hp : S p.block) (u : Value) : Keep S a (w.setCell p u) := by
  have hb : Below 0 w (w.setCell p u) := (Below.refl _ _).setCell (Nat.zero_le _) u
  exact ⟨hb.os.trans h.os, hb.tape.trans h.tape, hb.output.trans h.output, Nat.le_trans h.size hb.size, fun k hk hs => by
    rw [Below.heap_setCell _ _ _ _ (fun e => hs (by rw [e]; exact hp))]; exact h.block k hk hs⟩
theorem Lies.keep {S : Nat → Prop} {w w' : World} {a : Option Addr} {bs : List Nat} (h : Lies w a bs) (hk : Keep S w w') (hs : ∀ b off, a = some ⟨b, off, none⟩ → ¬ S b) : Lies w' a bs := by
  rcases h with h | ⟨b, off, rfl, h⟩
  · exact Or.inl h
  · refine Or.inr ⟨b, off, rfl, fun i hi => ?_⟩
    have hc := h i hi
    rw [hk.cell (p := ⟨b, off + i, none⟩) (World.block_lt_of_cell? w _ hc) (hs b off rfl)]
    exact hc
def bv (y : Nat) : Value := .int .u8 (y : Int)
theorem heap_lt {w : World} {k : Nat} {o : Obj} (h : w.heap[k]? = some o) : k < w.heap.size := (Array.getElem?_eq_some_iff.1 h).1
theorem row_cell {w : World} {g : Nat} {l : List Nat} {t : TypeId} (h : w.heap[g]? = some (.cells (l.map bv).toArray t (0, 0))) (j : Nat) (hj : j < l.length) : w.cell? ⟨g, j, none⟩ = some (.int .u8 ((l[j]?.getD 0 : Nat) : Int)) := by
  simp [World.cell?, h, List.getElem?_eq_getElem hj, bv]
theorem row_free {w : World} {g : Nat} {cs : Array Value} {t : TypeId} (h : w.heap[g]? = some (.cells cs t (0, 0))) (j : Nat) : w.frozen? ⟨g, j, none⟩ = false := by
  simp [World.frozen?, h]
theorem row_lies {w : World} {g : Nat} {l : List Nat} {t : TypeId} (h : w.heap[g]? = some (.cells (l.map bv).toArray t (0, 0))) : Lies w (some ⟨g, 0, none⟩) l :=
  Or.inr ⟨g, 0, rfl, fun i hi => by rw [Nat.zero_add]; exact row_cell h i hi⟩
theorem row_set {w : World} {g : Nat} {l : List Nat} {t : TypeId} (h : w.heap[g]? = some (.cells (l.map bv).toArray t (0, 0))) (j v : Nat) : (w.setCell ⟨g, j, none⟩ (.int .u8 (v : Int))).heap[g]? = some (.cells ((l.set j v).map bv).toArray t (0, 0)) := by
  simp [World.setCell, Array.getElem?_modify, h, List.map_set, bv]
/-- THE BYTES l ARE THE WHOLE BLOCK g. -/
def Row (w : World) (g : Nat) (l : List Nat) : Prop := w.heap[g]? = some (.cells (l.map bv).toArray 5 (0, 0))
theorem Row.keep {S : Nat → Prop} {w w' : World} {g : Nat} {l : List Nat} (h : Row w g l) (hk : Keep S w w') (hs : ¬ S g) : Row w' g l := (hk.block g (heap_lt h) hs).trans h
theorem Row.below {w w' : World} {g : Nat} {l : List Nat} (h : Row w g l) (hb : Below w.heap.size w w') : Row w' g l := (hb.block g (heap_lt h)).trans h
theorem splice_snoc {l xs : List Nat} {off b : Nat} (h : off + xs.length < l.length) : (splice l off xs).set (off + xs.length) b = splice l off (xs ++ [b]) := by
  unfold splice
  have h1 : (l.take off).length = off := by rw [List.length_take]; omega
  rw [List.set_append_right _ _ (by omega), h1, List.set_append_right _ _ (by omega), show off + xs.length - off - xs.length = 0 by omega, List.drop_eq_getElem_cons h]
  simp [Nat.add_assoc]
theorem splice_nil (l : List Nat) (off : Nat) : splice l off [] = l := by simp [splice]
theorem splice_len {l xs : List Nat} {off : Nat} (h : off + xs.length ≤ l.length) : (splice l off xs).length = l.length := by
  unfold splice
  rw [List.length_append, List.length_append, List.length_take, List.length_drop]
  omega
theorem lies_part {w : World} {g off : Nat} {l : List Nat} (h : Row w g l) (n : Nat) (hn : off + n ≤ l.length) : Lies w (some ⟨g, off, none⟩) (cutL l off n) :=
  Or.inr ⟨g, off, rfl, fun i hi => by
    have hl : (cutL l off n).length = n := by unfold cutL; rw [List.length_take, List.length_drop]; omega
    have e : (cutL l off n)[i]?.getD 0 = l[off + i]?.getD 0 := by unfold cutL; rw [List.getElem?_take, if_pos (by omega), List.getElem?_drop]
    rw [e]
    exact row_cell h (off + i) (by omega)⟩
theorem splice_mid {A B C X : List Nat} {k : Nat} (hk : A.length = k) (h : X.length = B.length) : splice (A ++ (B ++ C)) k X = A ++ (X ++ C) := by
  subst hk
  unfold splice
  rw [List.take_append_of_le_length (Nat.le_refl _), List.take_length, List.drop_append, List.drop_of_length_le (by omega), List.nil_append, show A.length + X.length - A.length = B.length by omega, List.drop_append, List.drop_length, List.nil_append, Nat.sub_self, List.drop_zero]
/-- The page as Pack builds it, without its sum. -/
def pageK (n k l s : Nat) (data : List Nat) : List Nat := splice (splice (splice (splice (((List.replicate n 0).set 0 165).set 1 k) 2 (low 4 l)) 6 (low 8 s)) 14 (low 2 data.length)) 20 data
theorem page_built {n k l s : Nat} {data : List Nat} (h : data.length + 21 ≤ n) : (pageK n k l s data).set (n - 1) 90 = bodyL n 0 k l s data := by
  obtain ⟨d, hd⟩ : ∃ d, data.length = d := ⟨_, rfl⟩
  have e0 : List.replicate n 0 = List.replicate 2 0 ++ (List.replicate 4 0 ++ (List.replicate 8 0 ++ (List.replicate 2 0 ++ (List.replicate 4 0 ++ (List.replicate d 0 ++ (List.replicate (n - 21 - d) 0 ++ List.replicate 1 0)))))) := by
    simp only [List.replicate_append_replicate]
    congr 1
    omega
  unfold pageK
  rw [hd, e0]
  have e1 : ∀ T : List Nat, ((List.replicate 2 0 ++ T).set 0 165).set 1 k = [165, k] ++ T := fun T => rfl
  rw [e1, splice_mid (by rfl) (by rw [low_len, List.length_replicate]), ← List.append_assoc, splice_mid (by simp [low_len]) (by rw [low_len, List.length_replicate]), ← List.append_assoc, splice_mid (by simp [low_len]) (by rw [low_len, List.length_replicate])]
  have e2 : ∀ A B C D T : List Nat, A ++ B ++ C ++ (D ++ (List.replicate 4 0 ++ T)) = (A ++ (B ++ (C ++ D)) ++ List.replicate 4 0) ++ T := fun A B C D T => by simp
  rw [e2, splice_mid (by simp [low_len]) (by rw [List.length_replicate, hd])]
  have e3 : ∀ A X Y : List Nat, A.length + X.length + Y.length = n - 1 → (A ++ (X ++ (Y ++ List.replicate 1 0))).set (n - 1) 90 = A ++ (X ++ (Y ++ [90])) := fun A X Y hl => by
    rw [List.set_append_right _ _ (by omega), List.set_append_right _ _ (by omega), List.set_append_right _ _ (by omega), show n - 1 - A.length - X.length - Y.length = 0 by omega]
    rfl
  rw [e3 _ _ _ (by simp [low_len]; omega)]
  unfold bodyL headL restL
  rw [low_zero, hd]
  simp
theorem page_summed {n k l s c : Nat} {data : List Nat} : splice (bodyL n 0 k l s data) 16 (low 4 c) = bodyL n c k l s data := splice_mid (headL_len ..) (by rw [low_len, low_len])
theorem pageK_len {n k l s : Nat} {data : List Nat} (h : data.length + 21 ≤ n) : (pageK n k l s data).length = n := by
  have := congrArg List.length (page_built (k := k) (l := l) (s := s) h)
  rw [List.length_set, bodyL_len n 0 k l s data h] at this
  exact this
theorem Row.drew {w : World} {g : Nat} {l : List Nat} (h : Row w g l) : Row w.drew g l := h
theorem crc_odd (X : Nat) (hX : X < 4294967296) (h : (bits BinOp.and IntKind.u32 (X : Int) 1 == 1) = true) : bits BinOp.xor IntKind.u32 ((X : Int) / 2) 3988292384 = (crcT X : Int) := by
  have e := u32_and_nat X 1 hX (by decide)
  rw [nat_mask1] at e
  have e' : bits BinOp.and IntKind.u32 (X : Int) 1 = ((X % 2 : Nat) : Int) := e
  rw [e'] at h
  have h1 : X % 2 = 1 := by simp at h; omega
  have e2 := u32_xor_nat (X / 2) 3988292384 (by omega) (by decide)
  unfold crcT
  rw [if_pos h1]
  exact e2
theorem crc_even (X : Nat) (hX : X < 4294967296) (h : (bits BinOp.and IntKind.u32 (X : Int) 1 == 1) = false) : (X : Int) / 2 = (crcT X : Int) := by
  have e := u32_and_nat X 1 hX (by decide)
  rw [nat_mask1] at e
  have e' : bits BinOp.and IntKind.u32 (X : Int) 1 = ((X % 2 : Nat) : Int) := e
  rw [e'] at h
  have h1 : ¬ X % 2 = 1 := by simp at h; omega
  unfold crcT
  rw [if_neg h1]
  omega
set_option maxHeartbeats 400000 in
theorem addByte_any (s b : Nat) (w : World) (hs : s < 4294967296) (hb : b < 256) :
    Calls (Al.progOf Tryd.prog) 32 #[.int .u32 s, .int .u8 b] w fun e w' => e = .returned (.int .u32 (crcB s b)) ∧ w' = w := by
  go_enter Al.func32, Tryd.ntmps32
  go_wp2
  go_loop [0, 10] (fun t i => ∃ k : Nat, k ≤ 8 ∧ i = .int .i64 k ∧ t = .int .u32 (crcN k (s ^^^ b))) (fun _ i => 8 - (intOf i).toNat)
  case atStart => exact ⟨0, by omega, rfl, by rw [u32_xor_nat s b hs (by omega)]; rfl⟩
  case round =>
    obtain ⟨k, hk, rfl, rfl⟩ := hrel
    have hx := crcN_lt (xor32 hs (show b < 4294967296 by omega)) k
    by_cases hlt : k < 8
    · go_wp2
      · go_round
        case rel => exact ⟨k + 1, by omega, by go_num, val_int (crc_odd _ hx ‹_›)⟩
        case measure => simp [intOf]; omega
      · go_round
        case rel => exact ⟨k + 1, by omega, by go_num, val_int (crc_even _ hx ‹_›)⟩
        case measure => simp [intOf]; omega
    · obtain rfl : k = 8 := by omega
      go_wp2
      go_ret
      exact ⟨rfl, rfl⟩
set_option maxHeartbeats 400000 in
theorem crc_any (a : Option Addr) (bs : List Nat) (cap : Nat) (w : World) (hm : bs.length ≤ maxLen) (hz : AllB bs) (hc : Lies w a bs) :
    Calls (Al.progOf Tryd.prog) 15 #[.slice a bs.length cap] w fun e w' => e = .returned (.int .u32 (crcOf bs)) ∧ w' = w := by
  unfold maxLen at hm
  rcases hc with rfl | ⟨b, off, rfl, hc⟩
  · go_enter Al.func15, Tryd.ntmps15
    go_wp2
    go_loop [3, 8] (fun t i => i = .int .i64 0 ∧ t = .int .u32 4294967295) (fun _ _ => 0)
    case atStart => exact ⟨rfl, rfl⟩
    case round =>
      obtain ⟨rfl, rfl⟩ := hrel
      go_wp2
      go_ret
      exact ⟨ret_int (by decide +kernel), rfl⟩
  · go_enter Al.func15, Tryd.ntmps15
    go_wp2
    go_loop [3, 8] (fun t i => ∃ k : Nat, k ≤ bs.length ∧ i = .int .i64 k ∧ t = .int .u32 (crcL 4294967295 (bs.take k))) (fun _ i => bs.length - (intOf i).toNat)
    case atStart => exact ⟨0, by omega, rfl, rfl⟩
    case round =>
      obtain ⟨k, hk, rfl, rfl⟩ := hrel
      have hx : crcL 4294967295 (bs.take k) < 4294967296 := crcL_lt (by decide) _ (hz.take k)
      by_cases hlt : k < bs.length
      · have hck := hc k hlt
        have hzk := hz.at k
        have HS : Hid (crcL 4294967295 (bs.take (k + 1)) = crcB (crcL 4294967295 (bs.take k)) (bs[k]?.getD 0)) := by
          show _ = _
          rw [take_snocN bs k hlt, crcL_snoc]
        clear hc
        generalize bs[k]?.getD 0 = B at hck hzk HS
        go_wp2_with (go_at_call 32; refine (addByte_any _ _ _ hx hzk).mono ?_; rintro e w' ⟨rfl, rfl⟩)
        go_round
        case rel => exact ⟨k + 1, by omega, by go_num, val_int (by rw [HS.out])⟩
        case measure => simp [intOf]; omega
      · obtain rfl : k = bs.length := by omega
        go_wp2
        go_ret
        refine ⟨ret_int ?_, rfl⟩
        rw [List.take_length] at hx
        exact u32_xor_nat 4294967295 _ (by decide) hx
end Go.Proofs.YtobpjijdebnaoaaDoorQ
namespace Go.Proofs.YtobpjijdebnaoaaDoorQ
open Go.Proofs.YtobpjijdebnaoaaDoorM
open Go.RowKit
set_option linter.unusedVariables false
def sizeB (n : Int) : Bool := decide (24 ≤ n ∧ n ≤ 4096)
theorem size_yes {n : Int} (h : 24 ≤ n ∧ n ≤ 4096) : sizeB n = true := decide_eq_true h
theorem size_no {n : Int} (h : ¬ (24 ≤ n ∧ n ≤ 4096)) : sizeB n = false := decide_eq_false h
theorem isSize_any (n : Int) (w : World) : Calls (Al.progOf Tryd.prog) 12 #[.int .i64 n] w fun e w' => e = .returned (.bool (sizeB n)) ∧ w' = w := by
  by_cases h1 : 24 ≤ n
  · by_cases h2 : n ≤ 4096
    · rw [size_yes ⟨h1, h2⟩]
      go_enter Al.func12, Tryd.ntmps12
      go_wp2
      go_ret
      exact ⟨rfl, rfl⟩
    · rw [size_no (fun h => h2 h.2)]
      go_enter Al.func12, Tryd.ntmps12
      go_wp2
      go_ret
      exact ⟨rfl, rfl⟩
  · rw [size_no (fun h => h1 h.1)]
    go_enter Al.func12, Tryd.ntmps12
    go_wp2
    go_ret
    exact ⟨rfl, rfl⟩
/-- What a frame says of its Data can be said. -/
def Named (k l s : Int) : Prop := (1 ≤ k ∧ k ≤ 3) ∧ (0 ≤ l ∧ l ≤ 4294967295) ∧ (0 ≤ s ∧ s ≤ 4611686018427387904)
/-- A frame as a value. -/
abbrev FV (k l s : Int) (a : Option Addr) (n c : Nat) : Value := .agg #[.int .i64 k, .int .i64 l, .int .i64 s, .slice a n c]
set_option maxHeartbeats 800000 in
theorem isNamed_yes (k l s : Int) (a : Option Addr) (n c : Nat) (w : World) (h : Named k l s) : Calls (Al.progOf Tryd.prog) 13 #[FV k l s a n c] w fun e w' => e = .returned (.bool true) ∧ Below w.heap.size w w' := by
  obtain ⟨⟨h1, h2⟩, ⟨h3, h4⟩, h5, h6⟩ := h
  have hb : ∀ o, Below w.heap.size w (w.alloc o) := fun o => (Below.refl _ _).alloc (Nat.le_refl _) o
  have HB : Hid (∀ o, Below w.heap.size w (w.alloc o)) := hb
  clear hb
  go_enter Al.func13, Tryd.ntmps13
  go_wp2
  go_ret
  exact ⟨rfl, HB.out _⟩
set_option maxHeartbeats 1600000 in
theorem isNamed_no (k l s : Int) (a : Option Addr) (n c : Nat) (w : World) (h : ¬ Named k l s) : Calls (Al.progOf Tryd.prog) 13 #[FV k l s a n c] w fun e w' => e = .returned (.bool false) ∧ Below w.heap.size w w' := by
  have hb : ∀ o, Below w.heap.size w (w.alloc o) := fun o => (Below.refl _ _).alloc (Nat.le_refl _) o
  have HB : Hid (∀ o, Below w.heap.size w (w.alloc o)) := hb
  clear hb
  by_cases h1 : 1 ≤ k
  case neg =>
    clear h
    go_enter Al.func13, Tryd.ntmps13
    go_wp2
    go_ret
    exact ⟨rfl, HB.out _⟩
  by_cases h2 : k ≤ 3
  case neg =>
    clear h
    go_enter Al.func13, Tryd.ntmps13
    go_wp2
    go_ret
    exact ⟨rfl, HB.out _⟩
  by_cases h3 : 0 ≤ l
  case neg =>
    clear h
    go_enter Al.func13, Tryd.ntmps13
    go_wp2
    go_ret
    exact ⟨rfl, HB.out _⟩
  by_cases h4 : l ≤ 4294967295
  case neg =>
    clear h
    go_enter Al.func13, Tryd.ntmps13
    go_wp2
    go_ret
    exact ⟨rfl, HB.out _⟩
  by_cases h5 : 0 ≤ s
  case neg =>
    clear h
    go_enter Al.func13, Tryd.ntmps13
    go_wp2
    go_ret
    exact ⟨rfl, HB.out _⟩
  have h6 : ¬ s ≤ 4611686018427387904 := fun h6 => h ⟨⟨h1, h2⟩, ⟨h3, h4⟩, h5, h6⟩
  clear h
  go_enter Al.func13, Tryd.ntmps13
  go_wp2
  go_ret
  exact ⟨rfl, HB.out _⟩
theorem low_byte (v k : Nat) : ((v : Int) / 2 ^ (8 * k)) % 256 = ((v / 2 ^ (8 * k) % 256 : Nat) : Int) := by
  rw [show ((2 : Int) ^ (8 * k)) = ((2 ^ (8 * k) : Nat) : Int) by simp]
  generalize 2 ^ (8 * k) = P
  omega
set_option maxHeartbeats 800000 in
theorem put_any (g off n cap v : Nat) (l : List Nat) (w : World) (hv : v < 9223372036854775808) (hn : n ≤ 8) (hfit : off + n ≤ l.length) (hg : Row w g l) :
    Calls (Al.progOf Tryd.prog) 14 #[.slice (some ⟨g, off, none⟩) n cap, .int .i64 v] w fun e w' => e = .returned (.tuple #[]) ∧ Row w' g (splice l off (low n v)) ∧ Keep (fun b => b = g) w w' := by
  have HG : Hid (Row w g (splice l off (low 0 v))) := by rw [show splice l off (low 0 v) = l from splice_nil l off]; exact hg
  clear hg
  go_enter Al.func14, Tryd.ntmps14
  go_wp2
  go_loopw [7] (fun j wr => ∃ k : Nat, k ≤ n ∧ j = .int .i64 k ∧ Hid (Row wr g (splice l off (low k v))) ∧ Keep (fun b => b = g) w wr) (fun j _ => n - (intOf j).toNat)
  case atStart => exact ⟨0, by omega, rfl, HG, Keep.refl _ _⟩
  case round =>
    obtain ⟨k, hk, rfl, hr, hbr⟩ := hrel
    by_cases hlt : k < n
    · have hll : (splice l off (low k v)).length = l.length := splice_len (by rw [low_len]; omega)
      have hf := row_free hr.out (off + k)
      have hck := row_cell hr.out (off + k) (by rw [hll]; omega)
      have HR : Hid (Row (wr.setCell ⟨g, off + k, none⟩ (.int .u8 ((v / 2 ^ (8 * k) % 256 : Nat) : Int))) g (splice l off (low (k + 1) v))) := by
        have e := row_set hr.out (off + k) (v / 2 ^ (8 * k) % 256)
        have e2 := splice_snoc (l := l) (xs := low k v) (off := off) (b := v / 2 ^ (8 * k) % 256) (by rw [low_len]; omega)
        rw [low_len] at e2
        rw [e2, ← low_snoc] at e
        exact e
      have HL : Hid (((v : Int) / 2 ^ (8 * k)) % 256 = ((v / 2 ^ (8 * k) % 256 : Nat) : Int)) := low_byte v k
      generalize (splice l off (low k v))[off + k]?.getD 0 = X at hck
      clear hr hll
      go_wp2
      go_roundw
      case rel => exact ⟨k + 1, by omega, by go_num, HR.out, hbr.set rfl _⟩
      case measure => simp [intOf]; omega
    · obtain rfl : k = n := by omega
      go_wp2
      go_end0
      exact ⟨rfl, hr.out, hbr⟩
end Go.Proofs.YtobpjijdebnaoaaDoorQ
namespace Go.Proofs.YtobpjijdebnaoaaDoorQ
open Go.Proofs.YtobpjijdebnaoaaDoorM
open Go.RowKit
theorem keep_setRow (w : World) (g : Nat) (cs : Array Value) : Keep (fun b => b = g) w (w.setRow g cs) :=
  ⟨rfl, rfl, rfl, by simp [World.setRow], fun k _ hk => setRow_other w g k cs hk⟩
theorem copy_step {ops : Array Oper} {o : Oper} {a : Act} {w : World} {K : Act → World → Prop} {Q : Exit → Act → World → Prop} {E : Prop} (hgd : o.guard = none) (d s : Operand)
    (ho : o.op = .call { callee := .builtin .copy, args := #[d, s], argTypes := #[22, 22] }) (g off dLen dCap : Nat) (sb so sLen sCap : Nat)
    (hd : a.eval d = .slice (some ⟨g, off, none⟩) dLen dCap) (hs : a.eval s = .slice (some ⟨sb, so, none⟩) sLen sCap)
    (l xs : List Nat) (hg : w.heap[g]? = some (.cells (l.map bv).toArray 5 (0, 0))) (hn : xs.length = Nat.min sLen dLen)
    (hsrc : ∀ j, j < xs.length → w.cell? ⟨sb, so + j, none⟩ = some (.int .u8 ((xs[j]?.getD 0 : Nat) : Int))) (hfit : off + xs.length ≤ l.length)
    (h : ∀ w', Hid (Row w' g (splice l off xs)) → Keep (fun b => b = g) w w' → K (a.put o.dst (goInt xs.length)) w') :
    if Region.wanted o (yielded ops a.tmps) = true then Oper.wp (Al.progOf Tryd.prog) o a w K Q else E := by
  have hw : Region.wanted o (yielded ops a.tmps) = true := by simp [Region.wanted, hgd]
  rw [if_pos hw]
  have hsz : ((Al.progOf Tryd.prog).info? 5).map (·.size) = some 1 := by kernel_rfl
  have hrun := run_copy_row (P := (Al.progOf Tryd.prog)) w 22 22 o.type 5 g off dLen dCap ⟨sb, so, none⟩ sLen sCap (l.map bv).toArray 5 (xs.map bv) Al.underlying22 hsz hg (by rw [List.length_map]; exact hn)
    (fun j v hj => by
      have hl : j < xs.length := by
        have := (List.getElem?_eq_some_iff.1 hj).1
        simpa using this
      have e := hsrc j hl
      rw [List.getElem?_map, List.getElem?_eq_getElem hl] at hj
      rw [List.getElem?_eq_getElem hl] at e
      simp only [Option.map_some, Option.some.injEq] at hj
      subst hj
      have hadd : (⟨sb, so, none⟩ : Addr).add j = ⟨sb, so + j, none⟩ := by unfold Addr.add; split <;> simp_all
      rw [hadd, e]
      rfl) (by simpa using hfit) (fun u hu => by obtain ⟨x, _, rfl⟩ := List.mem_map.1 hu; rfl)
  unfold Oper.wp
  simp [execOp, ho, resolve, invoke, builtin, hd, hs, hrun, Result.andThen]
  refine h _ ?_ (keep_setRow _ _ _)
  show _ = _
  rw [setRow_heap w g _ _ 5 _ hg]
  simp [splice, List.map_append, List.map_take, List.map_drop]
theorem copy_lies {ops : Array Oper} {o : Oper} {a : Act} {w : World} {K : Act → World → Prop} {Q : Exit → Act → World → Prop} {E : Prop} (hgd : o.guard = none) (d s : Operand)
    (ho : o.op = .call { callee := .builtin .copy, args := #[d, s], argTypes := #[22, 22] }) (g off dLen dCap : Nat) (sa : Option Addr) (sCap : Nat) (l xs : List Nat)
    (hd : a.eval d = .slice (some ⟨g, off, none⟩) dLen dCap) (hs : a.eval s = .slice sa xs.length sCap)
    (hg : Row w g l) (hn : xs.length ≤ dLen) (hL : Lies w sa xs) (hfit : off + xs.length ≤ l.length)
    (h : ∀ w', Hid (Row w' g (splice l off xs)) → Keep (fun b => b = g) w w' → K (a.put o.dst (goInt xs.length)) w') :
    if Region.wanted o (yielded ops a.tmps) = true then Oper.wp (Al.progOf Tryd.prog) o a w K Q else E := by
  rcases hL with rfl | ⟨sb, so, rfl, hc⟩
  · have hw : Region.wanted o (yielded ops a.tmps) = true := by simp [Region.wanted, hgd]
    rw [if_pos hw]
    have hsz : ((Al.progOf Tryd.prog).info? 5).map (·.size) = some 1 := by kernel_rfl
    have hrun := run_copy_none (P := (Al.progOf Tryd.prog)) w 22 22 o.type 5 (some ⟨g, off, none⟩) sa dLen dCap 0 sCap Al.underlying22 hsz (Nat.min_eq_left (Nat.zero_le _))
    have hs' : a.eval s = .slice sa 0 sCap := hs
    unfold Oper.wp
    simp [execOp, ho, resolve, invoke, builtin, hd, hs', hrun, Result.andThen]
    exact h _ (by rw [splice_nil]; exact hg) (Keep.refl _ _)
  · exact copy_step hgd d s ho g off dLen dCap sb so xs.length sCap hd hs l xs hg (Nat.min_eq_left hn).symm hc hfit h
theorem info5 : ((Al.progOf Tryd.prog).info? 5).map (fun i => (i.zero, i.size, i.bytes)) = some (some (.int .u8 0), 1, 1) := by kernel_rfl
def mkB (n : Nat) : Array Value := ((List.replicate n 0).map bv).toArray
theorem made_bytes (n : Nat) (hn : n ≤ 1048576) (w : World) : (Instr.makeSlice 22 (.int .i64 (n : Int)) (.int .i64 (n : Int))).run (Al.progOf Tryd.prog) w = .ok (.slice (some ⟨w.heap.size, 0, none⟩) n n) (w.alloc (.cells (mkB n) 5)) := by
  obtain ⟨i0, hi, hz0, hz1, hz2⟩ := info_parts info5
  have h := run_make (P := (Al.progOf Tryd.prog)) w 22 5 i0 (.int .u8 0) Al.underlying22 hi hz0 .i64 .i64 n n (by omega) (by omega) (by rw [hz2]; omega) (by omega)
  rw [h]
  have e : madeCells (Value.int .u8 0).cells ((n : Int).toNat * i0.size) = mkB n := by
    unfold mkB
    apply Array.toList_inj.1
    rw [hz1, Int.toNat_natCast, Nat.mul_one]
    have := toList_madeCells_one (Value.int .u8 0) n
    simp only [List.map_replicate]
    exact this
  rw [e]
  simp
end Go.Proofs.YtobpjijdebnaoaaDoorQ
namespace Go.Proofs.YtobpjijdebnaoaaDoorQ
open Go.Proofs.YtobpjijdebnaoaaDoorM
open Go.RowKit
set_option linter.unusedVariables false
set_option maxHeartbeats 800000 in
theorem pack_size (n k l s : Int) (a : Option Addr) (m c : Nat) (w : World) (h : ¬ (24 ≤ n ∧ n ≤ 4096)) :
    Calls (Al.progOf Tryd.prog) 5 #[.int .i64 n, FV k l s a m c] w fun e w' => e = .returned (.tuple #[.slice none 0 0, .iface 47 (.int .i64 1)]) ∧ Below w.heap.size w w' := by
  have HB : Hid (∀ o, Below w.heap.size w (w.alloc o)) := fun o => (Below.refl _ _).alloc (Nat.le_refl _) o
  have hs := fun wx => isSize_any n wx
  rw [size_no h] at hs
  clear h
  go_enter Al.func5, Tryd.ntmps5
  go_wp2_with fail
  refine (hs _).mono ?_
  rintro e w1 ⟨rfl, rfl⟩
  go_wp2
  go_ret2
  exact ⟨rfl, HB.out _⟩
set_option maxHeartbeats 800000 in
theorem pack_name (n k l s : Int) (a : Option Addr) (m c : Nat) (w : World) (h : 24 ≤ n ∧ n ≤ 4096) (hn : ¬ Named k l s) :
    Calls (Al.progOf Tryd.prog) 5 #[.int .i64 n, FV k l s a m c] w fun e w' => e = .returned (.tuple #[.slice none 0 0, .iface 47 (.int .i64 1)]) ∧ Below w.heap.size w w' := by
  have HB : Hid (∀ o, Below w.heap.size w (w.alloc o)) := fun o => (Below.refl _ _).alloc (Nat.le_refl _) o
  have HN : Hid (∀ o w', Below (w.alloc o).heap.size (w.alloc o) w' → Below w.heap.size w w') := fun o w' h => (HB.out o).trans (h.mono (HB.out o).size)
  have hs := fun wx => isSize_any n wx
  rw [size_yes h] at hs
  have hnm := fun wx => isNamed_no k l s a m c wx hn
  clear h hn
  go_enter Al.func5, Tryd.ntmps5
  go_wp2_with fail
  refine (hs _).mono ?_
  rintro e w1 ⟨rfl, rfl⟩
  go_wp2_with fail
  refine (hnm _).mono ?_
  rintro e w1 ⟨rfl, hb1⟩
  have HB1 := HN.out _ _ hb1
  clear hb1
  go_wp2
  go_ret2
  exact ⟨rfl, HB1⟩
set_option maxHeartbeats 800000 in
theorem pack_full (n k l s : Int) (a : Option Addr) (m c : Nat) (w : World) (h : 24 ≤ n ∧ n ≤ 4096) (hn : Named k l s) (hm : n - 21 < (m : Int)) (hmm : m < 9223372036854775808) :
    Calls (Al.progOf Tryd.prog) 5 #[.int .i64 n, FV k l s a m c] w fun e w' => e = .returned (.tuple #[.slice none 0 0, .iface 47 (.int .i64 3)]) ∧ Below w.heap.size w w' := by
  have HB : Hid (∀ o, Below w.heap.size w (w.alloc o)) := fun o => (Below.refl _ _).alloc (Nat.le_refl _) o
  have HN : Hid (∀ o w', Below (w.alloc o).heap.size (w.alloc o) w' → Below w.heap.size w w') := fun o w' h => (HB.out o).trans (h.mono (HB.out o).size)
  have HC : Hid (∀ w', Below (w.alloc (.cells #[.int .i64 k, .int .i64 l, .int .i64 s, .slice a m c] 24)).heap.size (w.alloc (.cells #[.int .i64 k, .int .i64 l, .int .i64 s, .slice a m c] 24)) w' → w'.cell? ⟨w.heap.size, 3, none⟩ = some (.slice a m c)) := fun w' hb => by
    rw [hb.cell (p := ⟨w.heap.size, 3, none⟩) (by simp)]
    exact World.cell?_alloc_at _ _ _ 3 rfl
  have hs := fun wx => isSize_any n wx
  rw [size_yes h] at hs
  have hnm := fun wx => isNamed_yes k l s a m c wx hn
  clear hn
  go_enter Al.func5, Tryd.ntmps5
  go_wp2_with fail
  refine (hs _).mono ?_
  rintro e w1 ⟨rfl, rfl⟩
  go_wp2_with fail
  refine (hnm _).mono ?_
  rintro e w1 ⟨rfl, hb1⟩
  have HB1 := HN.out _ _ hb1
  have hc := HC.out _ hb1
  clear hb1
  go_wp2
  go_ret2
  exact ⟨rfl, HB1⟩
end Go.Proofs.YtobpjijdebnaoaaDoorQ

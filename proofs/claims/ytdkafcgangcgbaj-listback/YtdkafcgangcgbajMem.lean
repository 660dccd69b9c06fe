/-
  What the calls of package mem give: New, Size, place, Read, Write, Number, SetNumber, each against plain lists.
-/
import Derived.Test.YtdkafcgangcgbajBytes
import Derived.Test.YtdkafcgangcgbajMathList
import Derived.Laws.CopyOwn
import Derived.Deep.Slices
namespace Go.Proofs.Ytdkafcgangcgbaj
open Go.RowKit
set_option linter.unusedVariables false

/-- Where a slice begins that is cut from place l on. -/
def dropA (a : Option Addr) (cap l : Nat) : Option Addr := if cap = l then a else a.map (·.add l)
/-- A slice of n bytes from i on. -/
theorem slice_ln (a : Option Addr) (len cap i n : Nat) (h : i + n ≤ cap) (w : World) : (Instr.slice 22 (.slice a len cap) (some (.int .i64 (i : Nat))) (some (.int .i64 ((i : Int) + (n : Int)))) none).run Try.prog w = .ok (.slice (dropA a cap i) n (cap - i)) w := by
  have hu : Try.prog.underlying 22 = some (.slice (Try.prog.elem 22)) := by kernel_rfl
  have hs : (sizeOf (Try.prog.elem 22)).run Try.prog w = .ok 1 w := by kernel_rfl
  rw [run_slice_lh w 22 _ len cap hu .i64 .i64 (i : Int) ((i : Int) + (n : Int)) (by omega) (by omega) (by omega), hs]
  have e : ((i : Int) + (n : Int)).toNat - i = n := by omega
  simp [Result.andThen, sliced, dropA, e]
theorem Lies.mid {w : World} {a : Option Addr} {bs : List Nat} {cap : Nat} (h : Lies w a bs) (l k : Nat) (hc : bs.length ≤ cap) : Lies w (dropA a cap l) ((bs.drop l).take k) := by
  by_cases hl : l < bs.length
  · rcases h with h | ⟨b, off, rfl, h⟩
    · rw [h] at hl; simp at hl
    · refine Or.inr ⟨b, off + l, ?_, fun i hi => ?_⟩
      · unfold dropA
        rw [if_neg (by omega)]
        simp [Go.WideShapes.add_plain]
      · rw [List.length_take, List.length_drop] at hi
        rw [List.getElem?_take, if_pos (by omega), List.getElem?_drop, Nat.add_assoc]
        exact h (l + i) (by omega)
  · exact Or.inl (by rw [List.drop_eq_nil_of_le (by omega), List.take_nil])
theorem keep_setRow (w : World) (g : Nat) (cs : Array Value) : Keep (fun b => b = g) w (w.setRow g cs) :=
  ⟨rfl, rfl, rfl, by simp [World.setRow], fun k _ hk => setRow_other w g k cs hk⟩
def mkB (n : Nat) : Array Value := ((List.replicate n 0).map bv).toArray
theorem made_bytes (n : Nat) (hn : n ≤ 1048576) (w : World) : (Instr.makeSlice 22 (.int .i64 (n : Int)) (.int .i64 (n : Int))).run Try.prog w = .ok (.slice (some ⟨w.heap.size, 0, none⟩) n n) (w.alloc (.cells (mkB n) 5)) := by
  obtain ⟨i0, hi, hz0, hz1, hz2⟩ := info_parts info5
  have h := run_make (P := Try.prog) w 22 5 i0 (.int .u8 0) Try.underlying22 hi hz0 .i64 .i64 n n (by omega) (by omega) (by rw [hz2]; omega) (by omega)
  rw [h]
  have e : madeCells (Value.int .u8 0).cells ((n : Int).toNat * i0.size) = mkB n := by
    unfold mkB
    apply Array.toList_inj.1
    rw [hz1, Int.toNat_natCast, Nat.mul_one]
    have := toList_madeCells_one (Value.int .u8 0) n
    simp only [List.map_replicate]
    exact this
  rw [e]
  simp

/-- A MEMORY OF THE BYTES l LIES AT mb, its bytes are the whole block hb. -/
structure MW (w : World) (mb hb : Nat) (l : List Nat) : Prop where
  cell : w.cell? ⟨mb, 0, none⟩ = some (.slice (some ⟨hb, 0, none⟩) l.length l.length)
  row : Row w hb l
  all : AllB l
  long : l.length ≤ 16384
  ne : mb ≠ hb
theorem MW.keep {S : Nat → Prop} {w w' : World} {mb hb : Nat} {l : List Nat} (h : MW w mb hb l) (hk : Keep S w w') (h1 : ¬ S mb) (h2 : ¬ S hb) : MW w' mb hb l :=
  ⟨by rw [hk.cell (p := ⟨mb, 0, none⟩) (World.block_lt_of_cell? w _ h.cell) h1]; exact h.cell, h.row.keep hk h2, h.all, h.long, h.ne⟩
theorem MW.below {w w' : World} {mb hb : Nat} {l : List Nat} (h : MW w mb hb l) (hk : Below w.heap.size w w') : MW w' mb hb l := h.keep (S := fun _ => False) (Keep.of_below hk) (fun e => e) (fun e => e)
theorem MW.lt {w : World} {mb hb : Nat} {l : List Nat} (h : MW w mb hb l) : mb < w.heap.size ∧ hb < w.heap.size := ⟨World.block_lt_of_cell? w _ h.cell, heap_lt h.row⟩
/-- Its bytes are others now. -/
theorem MW.turn {w w' : World} {mb hb : Nat} {l l' : List Nat} (h : MW w mb hb l) (hk : Keep (fun b => b = hb) w w') (hr : Row w' hb l') (hl : l'.length = l.length) (ha : AllB l') : MW w' mb hb l' :=
  ⟨by rw [hk.cell (p := ⟨mb, 0, none⟩) (World.block_lt_of_cell? w _ h.cell) h.ne, hl]; exact h.cell, hr, ha, by rw [hl]; exact h.long, h.ne⟩
set_option maxHeartbeats 800000 in
/-- What New gives where it refuses. -/
theorem new_bad (n : Int) (w : World) (h : n < 0 ∨ 16384 < n) : Calls Try.prog 12 #[.int .i64 n] w fun e w' => e = .returned (.tuple #[.pointer none, .iface 48 (.int .i64 1)]) ∧ w = w' := by
  rcases h with h | h
  · go_enter Try.func12, Try.ntmps12
    go_wp2
    go_ret2
    exact ⟨rfl, rfl⟩
  · have h0 : ¬ n < 0 := by omega
    go_enter Try.func12, Try.ntmps12
    go_wp2
    go_ret2
    exact ⟨rfl, rfl⟩
/-- What New gives. -/
def NewPost (w w' : World) (e : Ending) (n : Nat) : Prop := ∃ mb hb, e = .returned (.tuple #[.pointer (some ⟨mb, 0, none⟩), .nilIface]) ∧ MW w' mb hb (List.replicate n 0) ∧ Below w.heap.size w w' ∧ w.heap.size ≤ mb ∧ w.heap.size ≤ hb
set_option maxHeartbeats 800000 in
theorem new_yes (n : Nat) (w : World) (h : n ≤ 16384) : Calls Try.prog 12 #[.int .i64 n] w fun e w' => NewPost w w' e n := by
  have h1 : (n : Int) ≤ 16384 := by omega
  have hmk : ∀ wz, (Instr.makeSlice 22 (.int .i64 (n : Int)) (.int .i64 (n : Int))).run Try.prog wz = .ok (.slice (some ⟨wz.heap.size, 0, none⟩) n n) (wz.alloc (.cells (mkB n) 5)) := fun wz => made_bytes n (by omega) wz
  have HP : Hid (NewPost w ((w.alloc (.cells (mkB n) 5)).alloc (.cells #[.slice (some ⟨w.heap.size, 0, none⟩) n n] 61)) (.returned (.tuple #[.pointer (some ⟨w.heap.size + 1, 0, none⟩), .nilIface])) n) := by
    have b1 := alloc_below' w (.cells (mkB n) 5)
    have b2 := alloc_below' (w.alloc (.cells (mkB n) 5)) (.cells #[.slice (some ⟨w.heap.size, 0, none⟩) n n] 61)
    refine ⟨w.heap.size + 1, w.heap.size, rfl, ⟨?_, ?_, fun x hx => ?_, by simpa using h, by omega⟩, b1.trans (b2.mono b1.size), by omega, Nat.le_refl _⟩
    · have e := heap_alloc_new (w.alloc (.cells (mkB n) 5)) (.cells #[.slice (some ⟨w.heap.size, 0, none⟩) n n] 61)
      rw [World.size_alloc] at e
      unfold World.cell?
      rw [List.length_replicate]
      simp only [e]
      rfl
    · exact Row.below (w := w.alloc (.cells (mkB n) 5)) (by unfold Row; rw [heap_alloc_new]; rfl) b2
    · rw [(List.mem_replicate.1 hx).2]; decide
  clear h
  go_enter Try.func12, Try.ntmps12
  go_wp2
  go_ret2
  exact HP.out
set_option maxHeartbeats 800000 in
theorem size_any (mb hb : Nat) (l : List Nat) (w : World) (h : MW w mb hb l) : Calls Try.prog 33 #[.pointer (some ⟨mb, 0, none⟩)] w fun e w' => e = .returned (.int .i64 (l.length : Nat)) ∧ w = w' := by
  have hc := h.cell
  clear h
  go_enter Try.func33, Try.ntmps33
  go_wp2
  go_ret
  exact ⟨rfl, rfl⟩
set_option maxHeartbeats 800000 in
theorem place_no (mb hb : Nat) (l : List Nat) (i n : Int) (w : World) (h : MW w mb hb l) (hf : ¬ fits l.length i n) (hi : -9223372036854775808 ≤ i ∧ i ≤ 9223372036854775807) :
    Calls Try.prog 26 #[.pointer (some ⟨mb, 0, none⟩), .int .i64 i, .int .i64 n] w fun e w' => e = .returned (.tuple #[.slice none 0 0, .iface 48 (.int .i64 1)]) ∧ w = w' := by
  have hc := h.cell
  have hl := h.long
  clear h
  by_cases h1 : i < 0
  · go_enter Try.func26, Try.ntmps26
    go_wp2
    go_ret2
    exact ⟨rfl, rfl⟩
  · by_cases h2 : n < 0
    · go_enter Try.func26, Try.ntmps26
      go_wp2
      go_ret2
      exact ⟨rfl, rfl⟩
    · have h3 : ((l.length : Nat) : Int) - i < n := by unfold fits at hf; omega
      generalize l.length = L at *
      clear hf
      go_enter Try.func26, Try.ntmps26
      go_wp2
      go_ret2
      exact ⟨rfl, rfl⟩
set_option maxHeartbeats 800000 in
theorem place_yes (mb hb : Nat) (l : List Nat) (i n : Nat) (w : World) (h : MW w mb hb l) (hf : i + n ≤ l.length) :
    Calls Try.prog 26 #[.pointer (some ⟨mb, 0, none⟩), .int .i64 (i : Nat), .int .i64 (n : Nat)] w fun e w' => e = .returned (.tuple #[.slice (dropA (some ⟨hb, 0, none⟩) l.length i) n (l.length - i), .nilIface]) ∧ w = w' := by
  have hc := h.cell
  have hl := h.long
  have hsl := fun wz => slice_ln (some ⟨hb, 0, none⟩) l.length l.length i n hf wz
  have h3 : (n : Int) ≤ ((l.length : Nat) : Int) - (i : Int) := by omega
  clear h
  generalize dropA (some ⟨hb, 0, none⟩) l.length i = DA at *
  generalize l.length = L at *
  go_enter Try.func26, Try.ntmps26
  go_wp2
  go_ret2
  exact ⟨rfl, rfl⟩
theorem dropA_at {hb L i : Nat} (h : i < L) : dropA (some ⟨hb, 0, none⟩) L i = some ⟨hb, i, none⟩ := by
  unfold dropA
  rw [if_neg (by omega)]
  simp [Go.WideShapes.add_plain]
/-- What a call that reads gives: what is wrong, or the bytes, the call's own. -/
def ReadPost (w w' : World) (e : Ending) (l : List Nat) (i n : Int) : Prop :=
  Below w.heap.size w w' ∧ ((¬ fits l.length i n ∧ e = .returned (.tuple #[.slice none 0 0, .iface 48 (.int .i64 1)])) ∨ (fits l.length i n ∧ ∃ a c, e = .returned (.tuple #[.slice a (cut l i.toNat n.toNat).length c, .nilIface]) ∧ OwnA w' w.heap.size a c (cut l i.toNat n.toNat)))
set_option maxHeartbeats 800000 in
theorem read_no (mb hb : Nat) (l : List Nat) (i n : Int) (w : World) (h : MW w mb hb l) (hf : ¬ fits l.length i n) (hi : -9223372036854775808 ≤ i ∧ i ≤ 9223372036854775807) :
    Calls Try.prog 25 #[.pointer (some ⟨mb, 0, none⟩), .int .i64 i, .int .i64 n] w fun e w' => e = .returned (.tuple #[.slice none 0 0, .iface 48 (.int .i64 1)]) ∧ w = w' := by
  have HP := place_no mb hb l i n w h hf hi
  clear h hf
  go_enter Try.func25, Try.ntmps25
  go_wp2_with fail
  refine HP.mono ?_
  rintro e w' ⟨rfl, rfl⟩
  clear HP
  go_wp2
  go_ret2
  exact ⟨rfl, rfl⟩
set_option maxHeartbeats 800000 in
theorem read_yes (mb hb : Nat) (l : List Nat) (i n : Nat) (w : World) (h : MW w mb hb l) (hf : i + n ≤ l.length) :
    Calls Try.prog 25 #[.pointer (some ⟨mb, 0, none⟩), .int .i64 (i : Nat), .int .i64 (n : Nat)] w fun e w' => ∃ a c, e = .returned (.tuple #[.slice a (cut l i n).length c, .nilIface]) ∧ OwnA w' w.heap.size a c (cut l i n) ∧ Below w.heap.size w w' := by
  have HP : Hid (Calls Try.prog 26 #[.pointer (some ⟨mb, 0, none⟩), .int .i64 (i : Nat), .int .i64 (n : Nat)] w fun e w' => e = .returned (.tuple #[.slice (dropA (some ⟨hb, 0, none⟩) l.length i) (cut l i n).length (l.length - i), .nilIface]) ∧ w = w') := by
    have := place_yes mb hb l i n w h hf
    rw [cut_len hf]
    exact this
  have HC : Hid (Calls Try.prog 32 #[.slice (dropA (some ⟨hb, 0, none⟩) l.length i) (cut l i n).length (l.length - i)] w fun e w' => OwnPost w w' e (cut l i n)) :=
    clone_any _ _ (cut l i n) w (by rw [cut_len hf]; have := h.long; omega) ((row_lies h.row).mid i n (Nat.le_refl _))
  clear h hf
  generalize dropA (some ⟨hb, 0, none⟩) l.length i = DA at *
  generalize cut l i n = X at *
  go_enter Try.func25, Try.ntmps25
  go_wp2_with fail
  refine HP.out.mono ?_
  rintro e w' ⟨rfl, rfl⟩
  go_wp2_with fail
  refine HC.out.mono ?_
  rintro e w1 ⟨a1, c1, rfl, h1, h2⟩
  have HR : Hid (OwnA w1 w.heap.size a1 c1 X ∧ Below w.heap.size w w1) := ⟨h1, h2⟩
  clear HP HC h1 h2
  go_wp2
  go_ret2
  exact ⟨a1, c1, rfl, HR.out⟩
/-- copy, into a memory's bytes. -/
theorem copy_lay {w : World} {hb : Nat} {l : List Nat} (hr : Row w hb l) (i : Nat) (sa : Option Addr) (c : Nat) (xs : List Nat) (hL : Lies w sa xs) (hf : i + xs.length ≤ l.length) :
    ∃ W2, (Builtin.copy_ #[22, 22] 3 #[.slice (dropA (some ⟨hb, 0, none⟩) l.length i) xs.length (l.length - i), .slice sa xs.length c]).run Try.prog w = .ok (.int .i64 ((xs.length : Nat) : Int)) W2 ∧ Row W2 hb (lay l i xs) ∧ Keep (fun b => b = hb) w W2 := by
  have hsz : (Try.prog.info? 5).map (·.size) = some 1 := by kernel_rfl
  by_cases h0 : xs = []
  · subst h0
    refine ⟨w, ?_, by rw [lay_nil]; exact hr, Keep.refl _ _⟩
    exact run_copy_none (P := Try.prog) w 22 22 3 5 _ sa 0 (l.length - i) 0 c Try.underlying22 hsz rfl
  · have hp : 0 < xs.length := List.length_pos_iff.2 h0
    rcases hL with h | ⟨sb, so, rfl, hc⟩
    · exact absurd h h0
    rw [dropA_at (by omega)]
    have hrun := run_copy_row (P := Try.prog) w 22 22 3 5 hb i xs.length (l.length - i) ⟨sb, so, none⟩ xs.length c (l.map bv).toArray 5 (xs.map bv) Try.underlying22 hsz hr (by rw [List.length_map]; exact (Nat.min_self _).symm) (news_of hc) (by simpa using hf) (one_bv xs)
    refine ⟨_, by rw [hrun, List.length_map]; rfl, ?_, keep_setRow _ _ _⟩
    show _ = _
    rw [setRow_heap w hb _ _ 5 _ hr]
    simp [lay, splice, List.map_append, List.map_take, List.map_drop]
set_option maxHeartbeats 800000 in
theorem write_no (mb hb : Nat) (l : List Nat) (i : Int) (a : Option Addr) (n c : Nat) (w : World) (h : MW w mb hb l) (hf : ¬ fits l.length i (n : Nat)) (hi : -9223372036854775808 ≤ i ∧ i ≤ 9223372036854775807) :
    Calls Try.prog 13 #[.pointer (some ⟨mb, 0, none⟩), .int .i64 i, .slice a n c] w fun e w' => e = .returned (.iface 48 (.int .i64 1)) ∧ w = w' := by
  have HP := place_no mb hb l i (n : Nat) w h hf hi
  clear h hf
  go_enter Try.func13, Try.ntmps13
  go_wp2_with fail
  refine HP.mono ?_
  rintro e w' ⟨rfl, rfl⟩
  clear HP
  go_wp2
  go_ret
  exact ⟨rfl, rfl⟩
set_option maxHeartbeats 800000 in
theorem write_yes (mb hb : Nat) (l : List Nat) (i : Nat) (a : Option Addr) (xs : List Nat) (c : Nat) (w : World) (h : MW w mb hb l) (hL : Lies w a xs) (hA : AllB xs) (hf : i + xs.length ≤ l.length) :
    Calls Try.prog 13 #[.pointer (some ⟨mb, 0, none⟩), .int .i64 (i : Nat), .slice a xs.length c] w fun e w' => e = .returned .nilIface ∧ MW w' mb hb (lay l i xs) ∧ Keep (fun b => b = hb) w w' := by
  have HP : Hid (Calls Try.prog 26 #[.pointer (some ⟨mb, 0, none⟩), .int .i64 (i : Nat), .int .i64 (xs.length : Nat)] w fun e w' => e = .returned (.tuple #[.slice (dropA (some ⟨hb, 0, none⟩) l.length i) xs.length (l.length - i), .nilIface]) ∧ w = w') := place_yes mb hb l i xs.length w h hf
  obtain ⟨W2, hrun, hr2, hk2⟩ := copy_lay h.row i a c xs hL hf
  have HR : Hid (MW W2 mb hb (lay l i xs) ∧ Keep (fun b => b = hb) w W2) := ⟨h.turn hk2 hr2 (lay_len hf) (lay_all i h.all hA), hk2⟩
  clear hr2 hk2 h hL hA hf
  generalize dropA (some ⟨hb, 0, none⟩) l.length i = DA at *
  generalize l.length - i = LI at *
  generalize lay l i xs = Y at HR ⊢
  go_enter Try.func13, Try.ntmps13
  go_wp2_with fail
  refine HP.out.mono ?_
  rintro e w' ⟨rfl, rfl⟩
  clear HP
  go_wp2
  go_ret
  exact ⟨rfl, HR.out⟩
end Go.Proofs.Ytdkafcgangcgbaj

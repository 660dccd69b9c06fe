/-
  What the call of (*Chip).Read gives: the bytes of a page in new memory; or what is wrong.
-/
import Derived.Test.YtjeelaaimhckhabDoorCopy
namespace Go.Proofs.YtjeelaaimhckhabDoor
open Go.RowKit
set_option linter.unusedVariables false

theorem info5 : (Tryd.prog.info? 5).map (fun i => (i.zero, i.size, i.bytes)) = some (some (.int .u8 0), 1, 1) := by kernel_rfl
def mkB (n : Nat) : Array Value := ((List.replicate n 0).map bv).toArray
theorem made_bytes (n : Nat) (hn : n ≤ 1048576) (w : World) : (Instr.makeSlice 36 (.int .i64 (n : Int)) (.int .i64 (n : Int))).run Tryd.prog w = .ok (.slice (some ⟨w.heap.size, 0, none⟩) n n) (w.alloc (.cells (mkB n) 5)) := by
  obtain ⟨i0, hi, hz0, hz1, hz2⟩ := info_parts info5
  have h := run_make (P := Tryd.prog) w 36 5 i0 (.int .u8 0) Tryd.underlying36 hi hz0 .i64 .i64 n n (by omega) (by omega) (by rw [hz2]; omega) (by omega)
  rw [h]
  have e : madeCells (Value.int .u8 0).cells ((n : Int).toNat * i0.size) = mkB n := by
    unfold mkB
    apply Array.toList_inj.1
    rw [hz1, Int.toNat_natCast, Nat.mul_one]
    have := toList_madeCells_one (Value.int .u8 0) n
    simp only [List.map_replicate]
    exact this
  rw [e]
  simp
/-- The bytes of a page. -/
def pageOf (l : List Nat) (X Y : Nat) : List Nat := (l.drop X).take Y
theorem splice_all {l xs : List Nat} (h : xs.length = l.length) : splice l 0 xs = xs := by
  unfold splice
  rw [List.take_zero, List.nil_append, Nat.zero_add, h, List.drop_length, List.append_nil]
set_option maxHeartbeats 400000 in
theorem read_off {D B P Y cb bb : Nat} {pb : Nat → Nat} {s : St} (die block page : Int) (w : World) (h : CH D B P Y w cb bb pb s) (ho : s.off = true) :
    Calls Tryd.prog 18 #[.pointer (some ⟨cb, 0, none⟩), .int .i64 die, .int .i64 block, .int .i64 page] w fun e w' => e = .returned (.tuple #[.slice none 0 0, .iface 30 (.int .i64 7)]) ∧ w' = w := by
  have HF := find_off die block w h ho
  clear h
  go_enter Tryd.func18, Tryd.ntmps18
  go_wp2_with fail
  refine HF.mono ?_
  rintro e w1 ⟨rfl, rfl⟩
  go_wp2
  go_ret2
  exact ⟨rfl, rfl⟩
set_option maxHeartbeats 400000 in
theorem read_none {D B P Y cb bb : Nat} {pb : Nat → Nat} {s : St} (die block page : Int) (w : World) (hG : Geo D B P Y) (h : CH D B P Y w cb bb pb s) (ho : s.off = false) (hno : ¬ Here D B die block) :
    Calls Tryd.prog 18 #[.pointer (some ⟨cb, 0, none⟩), .int .i64 die, .int .i64 block, .int .i64 page] w fun e w' => e = .returned (.tuple #[.slice none 0 0, .iface 30 (.int .i64 1)]) ∧ w' = w := by
  have HF := find_none die block w hG h ho hno
  clear h hG hno
  go_enter Tryd.func18, Tryd.ntmps18
  go_wp2_with fail
  refine HF.mono ?_
  rintro e w1 ⟨rfl, rfl⟩
  go_wp2
  go_ret2
  exact ⟨rfl, rfl⟩
set_option maxHeartbeats 800000 in
theorem read_page {D B P Y cb bb : Nat} {pb : Nat → Nat} {s : St} (die block page : Int) (w : World) (hG : Geo D B P Y) (h : CH D B P Y w cb bb pb s) (ho : s.off = false) (hh : Here D B die block) (hp : ¬ (0 ≤ page ∧ page < P)) :
    Calls Tryd.prog 18 #[.pointer (some ⟨cb, 0, none⟩), .int .i64 die, .int .i64 block, .int .i64 page] w fun e w' => e = .returned (.tuple #[.slice none 0 0, .iface 30 (.int .i64 1)]) ∧ Below w.heap.size w w' := by
  obtain ⟨d, b, rfl, rfl, hd, hb, hk, hlt⟩ := hh.nat
  have HF := find_some d b w hG h ho hd hb
  have HC : Hid (CH D B P Y w cb bb pb s) := h
  have HG : Hid (Geo D B P Y) := hG
  have e1 : wthB page 0 ((P : Int) - 1) = false := wth_no (by omega)
  clear h hG ho hh hk hlt hd hb hp
  generalize d * B + b = k at *
  go_enter Tryd.func18, Tryd.ntmps18
  go_wp2_with fail
  refine HF.mono ?_
  rintro e w1 ⟨rfl, hb1⟩
  have H1 : Hid (CH D B P Y w1 cb bb pb s) := HC.out.below HG.out.n.1 hb1
  clear HF
  go_wp2_with (go_at_call 31; refine (isPage_any _ _ HG.out H1.out).mono ?_; rintro e w' ⟨rfl, rfl⟩)
  go_ret2
  exact ⟨rfl, hb1⟩
set_option maxHeartbeats 1600000 in
theorem read_some {D B P Y cb bb : Nat} {pb : Nat → Nat} {s : St} (die block : Int) (page : Nat) (w : World) (hG : Geo D B P Y) (h : CH D B P Y w cb bb pb s) (ho : s.off = false) (hh : Here D B die block) (hp : page < P) :
    Calls Tryd.prog 18 #[.pointer (some ⟨cb, 0, none⟩), .int .i64 die, .int .i64 block, .int .i64 page] w fun e w' => ∃ g, e = .returned (.tuple #[.slice (some ⟨g, 0, none⟩) Y Y, .nilIface]) ∧ w.heap.size ≤ g ∧
      w'.heap[g]? = some (.cells ((pageOf (s.bytes (kOf B die block)) (page * Y) Y).map bv).toArray 5 (0, 0)) ∧ (pageOf (s.bytes (kOf B die block)) (page * Y) Y).length = Y ∧ Below w.heap.size w w' := by
  obtain ⟨d, b, rfl, rfl, hd, hb, hk, hlt⟩ := hh.nat
  rw [hk]
  have HF := find_some d b w hG h ho hd hb
  have y1 := hG.y1
  have y0 := hG.y0
  have p1 := hG.p1
  have hPY := hG.l
  have hpY : page * Y + Y ≤ P * Y := by
    have : (page + 1) * Y ≤ P * Y := Nat.mul_le_mul_right Y hp
    rw [Nat.add_mul, Nat.one_mul] at this
    exact this
  obtain ⟨X, HX⟩ : ∃ X, Hid (page * Y = X) := ⟨_, rfl⟩
  obtain ⟨L, HLL⟩ : ∃ L, Hid (P * Y = L) := ⟨_, rfl⟩
  have hmul : (page : Int) * (Y : Int) = (X : Int) := by
    have : (page : Int) * (Y : Int) = ((page * Y : Nat) : Int) := by simp
    rw [this, HX.out]
  rw [HX.out, HLL.out] at hpY
  rw [HLL.out] at hPY
  rw [HX.out]
  have hne : ¬ L = X := by omega
  have hwr : IntKind.i64.wrap (X : Int) = (X : Int) := by rw [IntKind.wrap_i64]; omega
  have hx0 : (0 : Int) ≤ (X : Int) := by omega
  have hx1 : (X : Int) ≤ (L : Int) := by omega
  have e1 : wthB (page : Int) 0 ((P : Int) - 1) = true := wth_yes (by omega)
  have HC : Hid (CH D B P Y w cb bb pb s) := h
  have HG : Hid (Geo D B P Y) := hG
  have HK : Hid (d * B + b < D * B) := hlt
  have hmk := fun wz => made_bytes Y (by omega) wz
  have hlenk : (s.bytes (d * B + b)).length = L := by rw [h.hl _ hlt, HLL.out]
  obtain ⟨xs, HXS⟩ : ∃ xs, Hid (pageOf (s.bytes (d * B + b)) X Y = xs) := ⟨_, rfl⟩
  have HLX : Hid (xs.length = Y ∧ ∀ i, i < xs.length → xs[i]?.getD 0 = (s.bytes (d * B + b))[X + i]?.getD 0) := by
    have e : xs.length = Y := by rw [← HXS.out]; unfold pageOf; rw [List.length_take, List.length_drop]; omega
    refine ⟨e, fun i hi => ?_⟩
    rw [← HXS.out]
    unfold pageOf
    rw [List.getElem?_take, if_pos (by omega), List.getElem?_drop]
  rw [HXS.out]
  have HLK : Hid ((s.bytes (d * B + b)).length = L) := hlenk
  clear h hG ho hh hk hlt hd hb hp hlenk
  generalize d * B + b = k at *
  go_enter Tryd.func18, Tryd.ntmps18
  go_wp2_with fail
  refine HF.mono ?_
  rintro e w1 ⟨rfl, hb1⟩
  clear HF
  have H1 : Hid (CH D B P Y w1 cb bb pb s) := HC.out.below HG.out.n.1 hb1
  have c4 := H1.out.c4
  have r0 := H1.out.r0 k HK.out
  rw [HLL.out] at r0
  have lt1 : cb < w1.heap.size := H1.out.lt HG.out.n.1 _ (Or.inl rfl)
  have lt2 : bb < w1.heap.size := H1.out.lt HG.out.n.1 _ (Or.inr (Or.inl rfl))
  go_wp2_with (go_at_call 31; refine (isPage_any _ _ HG.out H1.out).mono ?_; rintro e w' ⟨rfl, rfl⟩)
  have HN : Hid ((w'.alloc (.cells (mkB Y) 5)).heap[w'.heap.size]? = some (.cells ((List.replicate Y 0).map bv).toArray 5 (0, 0))) := by
    exact heap_alloc_new w' _
  have HS : Hid (xs.length = Nat.min (L - X) Y ∧ (∀ i, i < xs.length → (w'.alloc (.cells (mkB Y) 5)).cell? ⟨pb k, X + i, none⟩ = some (.int .u8 ((xs[i]?.getD 0 : Nat) : Int))) ∧ 0 + xs.length ≤ (List.replicate Y 0).length) := by
    refine ⟨?_, fun i hi => ?_, ?_⟩
    · rw [HLX.out.1]; exact (Nat.min_eq_right (by omega)).symm
    · have hh := H1.out.hp k HK.out
      rw [World.cell?_alloc_lt _ _ ⟨pb k, X + i, none⟩ (heap_lt hh), HLX.out.2 i hi]
      have := HLX.out.1
      have := HLK.out
      exact row_cell hh (X + i) (by omega)
    · rw [HLX.out.1, List.length_replicate]; omega
  go_region_law (refine copy_step (by rfl) (.tmp 34) (.tmp 46) (by rfl) w'.heap.size 0 Y Y (pb k) X (L - X) (L - X) (by rfl) (by rfl) (List.replicate Y 0) xs HN.out HS.out.1 HS.out.2.1 HS.out.2.2 ?_; intro w3 hg3 hk3)
  all_goals
    have HR : Hid (w3.heap[w'.heap.size]? = some (.cells (xs.map bv).toArray 5 (0, 0)) ∧ Below w.heap.size w w3) := by
      refine ⟨?_, ?_⟩
      · have := hg3.out
        rw [splice_all (by rw [HLX.out.1, List.length_replicate])] at this
        exact this
      · have hB : Below w.heap.size w (w'.alloc (.cells (mkB Y) 5)).drew := (hb1.alloc hb1.size _).drew
        exact hB.trans (hk3.below hB.size (fun q hq => by have := hb1.size; have e : q = w'.heap.size := hq; omega))
    clear hg3 hk3
    go_wp2
    go_ret2
    exact ⟨_, rfl, hb1.size, HR.out.1, HLX.out.1, HR.out.2⟩
end Go.Proofs.YtjeelaaimhckhabDoor

/-
  What the calls of chip.within, (*Chip).find, isPage, isFault, isGeometry, meet, On and Off give.
-/
import Derived.Test.YtjeelaaimhckhabDoorState
namespace Go.Proofs.YtjeelaaimhckhabDoor
open Go.RowKit

def wthB (x l g : Int) : Bool := decide (l ≤ x ∧ x ≤ g)
theorem wth_yes {x l g : Int} (h : l ≤ x ∧ x ≤ g) : wthB x l g = true := decide_eq_true h
theorem wth_no {x l g : Int} (h : ¬ (l ≤ x ∧ x ≤ g)) : wthB x l g = false := decide_eq_false h
set_option maxHeartbeats 400000 in
theorem within_any (x l g : Int) (w : World) : Calls Tryd.prog 34 #[.int .i64 x, .int .i64 l, .int .i64 g] w fun e w' => e = .returned (.bool (wthB x l g)) ∧ w' = w := by
  by_cases h1 : l ≤ x
  · by_cases h2 : x ≤ g
    · rw [wth_yes ⟨h1, h2⟩]
      go_enter Tryd.func34, Tryd.ntmps34
      go_wp2
      go_ret
      exact ⟨rfl, rfl⟩
    · rw [wth_no (fun h => h2 h.2)]
      go_enter Tryd.func34, Tryd.ntmps34
      go_wp2
      go_ret
      exact ⟨rfl, rfl⟩
  · rw [wth_no (fun h => h1 h.1)]
    go_enter Tryd.func34, Tryd.ntmps34
    go_wp2
    go_ret
    exact ⟨rfl, rfl⟩

set_option maxHeartbeats 400000 in
theorem find_off {D B P Y cb bb : Nat} {pb : Nat → Nat} {s : St} (die block : Int) (w : World) (h : CH D B P Y w cb bb pb s) (ho : s.off = true) :
    Calls Tryd.prog 30 #[.pointer (some ⟨cb, 0, none⟩), .int .i64 die, .int .i64 block] w fun e w' => e = .returned (.tuple #[.pointer none, .iface 30 (.int .i64 7)]) ∧ w' = w := by
  have c0 := h.c0
  rw [ho] at c0
  clear h ho
  go_enter Tryd.func30, Tryd.ntmps30
  go_wp2
  go_ret2
  exact ⟨rfl, rfl⟩
set_option maxHeartbeats 400000 in
theorem find_none {D B P Y cb bb : Nat} {pb : Nat → Nat} {s : St} (die block : Int) (w : World) (hG : Geo D B P Y) (h : CH D B P Y w cb bb pb s) (ho : s.off = false) (hno : ¬ (0 ≤ die ∧ die < D ∧ 0 ≤ block ∧ block < B)) :
    Calls Tryd.prog 30 #[.pointer (some ⟨cb, 0, none⟩), .int .i64 die, .int .i64 block] w fun e w' => e = .returned (.tuple #[.pointer none, .iface 30 (.int .i64 1)]) ∧ w' = w := by
  have c0 := h.c0
  have c1 := h.c1
  have c2 := h.c2
  rw [ho] at c0
  have d1 := hG.d1
  have b1 := hG.b1
  clear h ho
  by_cases hd : 0 ≤ die ∧ die ≤ (D : Int) - 1
  · have hb : ¬ (0 ≤ block ∧ block ≤ (B : Int) - 1) := by omega
    have e1 := wth_yes hd
    have e2 := wth_no hb
    clear hd hb hno hG
    go_enter Tryd.func30, Tryd.ntmps30
    go_wp2_with (go_at_call 34; refine (within_any _ _ _ _).mono ?_; rintro e w' ⟨rfl, rfl⟩)
    go_ret2
    exact ⟨rfl, rfl⟩
  · have e1 := wth_no hd
    clear hd hno hG
    go_enter Tryd.func30, Tryd.ntmps30
    go_wp2_with (go_at_call 34; refine (within_any _ _ _ _).mono ?_; rintro e w' ⟨rfl, rfl⟩)
    go_ret2
    exact ⟨rfl, rfl⟩
set_option maxHeartbeats 800000 in
theorem find_some {D B P Y cb bb : Nat} {pb : Nat → Nat} {s : St} (d b : Nat) (w : World) (hG : Geo D B P Y) (h : CH D B P Y w cb bb pb s) (ho : s.off = false) (hd : d < D) (hb : b < B) :
    Calls Tryd.prog 30 #[.pointer (some ⟨cb, 0, none⟩), .int .i64 d, .int .i64 b] w fun e w' => e = .returned (.tuple #[.pointer (some ⟨bb, (d * B + b) * 4, none⟩), .nilIface]) ∧ Below w.heap.size w w' := by
  have c0 := h.c0
  have c1 := h.c1
  have c2 := h.c2
  have c5 := h.c5
  rw [ho] at c0
  have d1 := hG.d1
  have b1 := hG.b1
  have e1 : wthB (d : Int) 0 ((D : Int) - 1) = true := wth_yes (by omega)
  have e2 : wthB (b : Int) 0 ((B : Int) - 1) = true := wth_yes (by omega)
  have hk : d * B + b < D * B := by
    have : (d + 1) * B ≤ D * B := Nat.mul_le_mul_right B hd
    rw [Nat.add_mul, Nat.one_mul] at this
    omega
  have hn := hG.n
  have hdB : d * B ≤ 64 := by omega
  have hi1 : (0 : Int) ≤ (d : Int) * (B : Int) + (b : Int) := by
    have : ((d * B + b : Nat) : Int) = (d : Int) * (B : Int) + (b : Int) := by simp
    omega
  have hi2 : (d : Int) * (B : Int) + (b : Int) < ((D * B : Nat) : Int) := by
    have : ((d * B + b : Nat) : Int) = (d : Int) * (B : Int) + (b : Int) := by simp
    omega
  have hi3 : (d : Int) * (B : Int) ≤ 64 := by
    have : ((d * B : Nat) : Int) = (d : Int) * (B : Int) := by simp
    omega
  have hi4 : (0 : Int) ≤ (d : Int) * (B : Int) := by
    have : ((d * B : Nat) : Int) = (d : Int) * (B : Int) := by simp
    omega
  clear h ho hG
  go_enter Tryd.func30, Tryd.ntmps30
  go_wp2_with (go_at_call 34; refine (within_any _ _ _ _).mono ?_; rintro e w' ⟨rfl, rfl⟩)
  go_quiet (fail)
  go_wp2
  go_ret2
  refine ⟨?_, below_drewN (Below.refl _ _) _⟩
  rfl

set_option maxHeartbeats 400000 in
theorem isPage_any {D B P Y cb bb : Nat} {pb : Nat → Nat} {s : St} (page : Int) (w : World) (hG : Geo D B P Y) (h : CH D B P Y w cb bb pb s) :
    Calls Tryd.prog 31 #[.pointer (some ⟨cb, 0, none⟩), .int .i64 page] w fun e w' => e = .returned (.bool (wthB page 0 ((P : Int) - 1))) ∧ w' = w := by
  have c3 := h.c3
  have p1 := hG.p1
  clear h hG
  go_enter Tryd.func31, Tryd.ntmps31
  go_wp2_with (go_at_call 34; refine (within_any _ _ _ _).mono ?_; rintro e w' ⟨rfl, rfl⟩)
  go_ret
  exact ⟨rfl, rfl⟩
def fltB (f : Int) : Bool := decide (0 ≤ f ∧ f ≤ 2)
theorem flt_yes {f : Int} (h : 0 ≤ f ∧ f ≤ 2) : fltB f = true := decide_eq_true h
theorem flt_no {f : Int} (h : ¬ (0 ≤ f ∧ f ≤ 2)) : fltB f = false := decide_eq_false h
set_option maxHeartbeats 400000 in
theorem isFault_any (f : Int) (w : World) : Calls Tryd.prog 32 #[.int .i64 f] w fun e w' => e = .returned (.bool (fltB f)) ∧ w' = w := by
  by_cases h0 : f = 0
  · subst h0
    go_enter Tryd.func32, Tryd.ntmps32
    go_wp2
    go_ret
    exact ⟨rfl, rfl⟩
  by_cases h1 : f = 1
  · subst h1
    go_enter Tryd.func32, Tryd.ntmps32
    go_wp2
    go_ret
    exact ⟨rfl, rfl⟩
  by_cases h2 : f = 2
  · subst h2
    go_enter Tryd.func32, Tryd.ntmps32
    go_wp2
    go_ret
    exact ⟨rfl, rfl⟩
  have e0 : (f == 0) = false := beq_eq_false_iff_ne.2 h0
  have e1 : (f == 1) = false := beq_eq_false_iff_ne.2 h1
  have e2 : (f == 2) = false := beq_eq_false_iff_ne.2 h2
  rw [flt_no (by omega)]
  clear h0 h1 h2
  go_enter Tryd.func32, Tryd.ntmps32
  go_wp2
  go_ret
  exact ⟨rfl, rfl⟩
set_option maxHeartbeats 400000 in
theorem meet0 (a : Addr) (w : World) : Calls Tryd.prog 33 #[.pointer (some a), .int .i64 0] w fun e w' => e = .returned .nilIface ∧ w' = w := by
  go_enter Tryd.func33, Tryd.ntmps33
  go_wp2
  go_ret
  exact ⟨rfl, rfl⟩
set_option maxHeartbeats 400000 in
theorem meet1 (a : Addr) (w : World) : Calls Tryd.prog 33 #[.pointer (some a), .int .i64 1] w fun e w' => e = .returned (.iface 30 (.int .i64 6)) ∧ w' = w := by
  go_enter Tryd.func33, Tryd.ntmps33
  go_wp2
  go_ret
  exact ⟨rfl, rfl⟩
set_option maxHeartbeats 400000 in
theorem meet2 {D B P Y cb bb : Nat} {pb : Nat → Nat} {s : St} (w : World) (h : CH D B P Y w cb bb pb s) :
    Calls Tryd.prog 33 #[.pointer (some ⟨cb, 0, none⟩), .int .i64 2] w fun e w' => e = .returned (.iface 30 (.int .i64 7)) ∧ CH D B P Y w' cb bb pb { s with off := true } ∧ Keep (Mine (D * B) cb bb pb) w w' := by
  have c0 := h.c0
  have fc := h.fc 0
  have H : Hid (CH D B P Y (w.setCell ⟨cb, 0, none⟩ (.bool true)) cb bb pb { s with off := true }) := h.setOff true
  clear h
  go_enter Tryd.func33, Tryd.ntmps33
  go_wp2
  go_ret
  exact ⟨rfl, H.out, (Keep.refl _ _).set (Or.inl rfl) _⟩
set_option maxHeartbeats 400000 in
theorem on_any {D B P Y cb bb : Nat} {pb : Nat → Nat} {s : St} (w : World) (h : CH D B P Y w cb bb pb s) :
    Calls Tryd.prog 17 #[.pointer (some ⟨cb, 0, none⟩)] w fun e w' => e = .returned (.tuple #[]) ∧ CH D B P Y w' cb bb pb { s with off := false } ∧ Keep (Mine (D * B) cb bb pb) w w' := by
  have c0 := h.c0
  have fc := h.fc 0
  have H : Hid (CH D B P Y (w.setCell ⟨cb, 0, none⟩ (.bool false)) cb bb pb { s with off := false }) := h.setOff false
  clear h
  go_enter Tryd.func17, Tryd.ntmps17
  go_wp2
  go_end0
  exact ⟨rfl, H.out, (Keep.refl _ _).set (Or.inl rfl) _⟩
set_option maxHeartbeats 400000 in
theorem off_any {D B P Y cb bb : Nat} {pb : Nat → Nat} {s : St} (w : World) (h : CH D B P Y w cb bb pb s) :
    Calls Tryd.prog 13 #[.pointer (some ⟨cb, 0, none⟩)] w fun e w' => e = .returned (.bool s.off) ∧ w' = w := by
  have c0 := h.c0
  clear h
  go_enter Tryd.func13, Tryd.ntmps13
  go_wp2
  go_ret
  exact ⟨rfl, rfl⟩

def fillK (l : List Nat) (v : Nat) : Nat → List Nat
  | 0 => l
  | j + 1 => (fillK l v j).set j v
theorem fillK_len (l : List Nat) (v : Nat) : ∀ j, (fillK l v j).length = l.length
  | 0 => rfl
  | j + 1 => by rw [fillK, List.length_set, fillK_len l v j]
theorem fillK_at (l : List Nat) (v : Nat) : ∀ j i, i < l.length → i < j → (fillK l v j)[i]?.getD 0 = v
  | 0, _, _, h => by omega
  | j + 1, i, h, h2 => by
    rw [fillK, List.getElem?_set]
    by_cases e : j = i
    · subst e; rw [if_pos rfl, if_pos (by rw [fillK_len]; exact h)]; rfl
    · rw [if_neg e]; exact fillK_at l v j i h (by omega)
theorem fillK_all (l : List Nat) (v : Nat) : fillK l v l.length = List.replicate l.length v := by
  apply ext_getD (by rw [fillK_len, List.length_replicate])
  intro j hj
  rw [fillK_len] at hj
  rw [fillK_at l v _ _ hj hj, List.getElem?_replicate, if_pos hj]
  rfl
set_option maxHeartbeats 800000 in
theorem fill_row (bb off g v : Nat) (l : List Nat) (w : World) (hn : l.length ≤ 4096) (hne : bb ≠ g) (hs : w.cell? ⟨bb, off, none⟩ = some (.slice (some ⟨g, 0, none⟩) l.length l.length)) (hg : w.heap[g]? = some (.cells (l.map bv).toArray 5 (0, 0))) :
    Calls Tryd.prog 24 #[.pointer (some ⟨bb, off, none⟩), .int .u8 v] w fun e w' => e = .returned (.tuple #[]) ∧ w'.heap[g]? = some (.cells ((List.replicate l.length v).map bv).toArray 5 (0, 0)) ∧ Keep (fun b => b = g) w w' := by
  have HG : Hid (w.heap[g]? = some (.cells (l.map bv).toArray 5 (0, 0))) := hg
  have HS : Hid (∀ wr, Keep (fun b => b = g) w wr → wr.cell? ⟨bb, off, none⟩ = some (.slice (some ⟨g, 0, none⟩) l.length l.length)) := fun wr hk => by
    rw [hk.cell (p := ⟨bb, off, none⟩) (World.block_lt_of_cell? w _ hs) hne]; exact hs
  clear hg
  go_enter Tryd.func24, Tryd.ntmps24
  go_wp2
  go_loopw [10] (fun j wr => ∃ k : Nat, k ≤ l.length ∧ j = .int .i64 k ∧ Hid (wr.heap[g]? = some (.cells ((fillK l v k).map bv).toArray 5 (0, 0))) ∧ Keep (fun b => b = g) w wr) (fun j _ => l.length - (intOf j).toNat)
  case atStart => exact ⟨0, by omega, rfl, HG, Keep.refl _ _⟩
  case round =>
    obtain ⟨k, hk, rfl, hr, hbr⟩ := hrel
    clear hs
    by_cases hlt : k < l.length
    · have hs := HS.out wr hbr
      have hf := row_free hr.out k
      have hck := row_cell hr.out k (by rw [fillK_len]; exact hlt)
      generalize (fillK l v k)[k]?.getD 0 = X at hck
      have HR : Hid ((wr.setCell ⟨g, k, none⟩ (.int .u8 (v : Int))).heap[g]? = some (.cells ((fillK l v (k + 1)).map bv).toArray 5 (0, 0))) := row_set hr.out k v
      clear hr
      go_wp2
      go_roundw
      case rel => exact ⟨k + 1, by omega, by go_num, HR.out, hbr.set rfl _⟩
      case measure => simp [intOf]; omega
    · obtain rfl : k = l.length := by omega
      have HR : Hid (wr.heap[g]? = some (.cells ((List.replicate l.length v).map bv).toArray 5 (0, 0))) := by
        have := hr.out
        rw [fillK_all] at this
        exact this
      clear hr
      go_wp2
      go_end0
      exact ⟨rfl, HR.out, hbr⟩
theorem all_rep (n v : Nat) (h : v < 256) : AllB (List.replicate n v) := fun x hx => by rw [(List.mem_replicate.1 hx).2]; exact h
theorem fill_any {D B P Y cb bb : Nat} {pb : Nat → Nat} {s : St} (k v : Nat) (w : World) (hG : Geo D B P Y) (h : CH D B P Y w cb bb pb s) (hk : k < D * B) (hv : v < 256) :
    Calls Tryd.prog 24 #[.pointer (some ⟨bb, k * 4, none⟩), .int .u8 v] w fun e w' => e = .returned (.tuple #[]) ∧ CH D B P Y w' cb bb pb { s with bytes := upd s.bytes k (List.replicate (P * Y) v) } ∧ Keep (Mine (D * B) cb bb pb) w w' := by
  have hl := h.hl k hk
  have hr := fill_row bb (k * 4) (pb k) v (s.bytes k) w (by rw [hl]; exact hG.l.2) (fun e => (h.n1 k hk).2 e.symm) (by rw [hl]; exact h.r0 k hk) (h.hp k hk)
  rw [hl] at hr
  exact hr.mono fun e w' ⟨h1, h2, h3⟩ => ⟨h1, h.setBytes hG.n.1 k hk _ (by rw [List.length_replicate]) (all_rep _ _ hv) h3 h2, h3.mono fun b hb => Or.inr (Or.inr ⟨k, hk, hb⟩)⟩
end Go.Proofs.YtjeelaaimhckhabDoor

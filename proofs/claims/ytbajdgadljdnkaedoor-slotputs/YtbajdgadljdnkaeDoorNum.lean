/-
  What the calls of slot.number, slot.addNumber, bytes.Equal, bytes.HasPrefix and bytes.Clone give: the number of some bytes; a number's bytes behind the bytes that are there; whether two lists are the same; whether one begins with the other; the same bytes in new memory.
-/
import Derived.Test.YtbajdgadljdnkaeDoorCrc
import Derived.Laws.BytesArg
import Derived.Lib.Bytes
import Derived.Laws.AppendOwnNone
namespace Go.Proofs.YtbajdgadljdnkaeDoor
open Go.RowKit
set_option linter.unusedVariables false

theorem wrapEq (x : Int) : IntKind.i64.wrap x = wrap64 x := by rw [IntKind.wrap_i64]; unfold wrap64; omega
/-- A number as an int of 64 bits has it. -/
def wr (n : Nat) : Int := IntKind.i64.wrap (n : Int)
theorem wr_small {n : Nat} (h : n < 9223372036854775808) : wr n = (n : Int) := by unfold wr; rw [IntKind.wrap_i64]; omega
theorem wr_neg {n : Nat} (h : 9223372036854775808 ≤ n) (h2 : n < 18446744073709551616) : wr n < 0 := by unfold wr; rw [IntKind.wrap_i64]; omega
theorem wr_bits {n : Nat} (h : n < 18446744073709551616) : (BitVec.ofInt 64 (wr n)).toNat = n := by
  rw [BitVec.toNat_ofInt]
  unfold wr
  rw [IntKind.wrap_i64]
  omega
theorem or_wr {a b : Nat} (ha : a < 18446744073709551616) (hb : b < 18446744073709551616) : bits .or .i64 (wr a) (wr b) = wr (a ||| b) := by
  show IntKind.i64.wrap ((BitVec.ofInt 64 (wr a) ||| BitVec.ofInt 64 (wr b)).toNat : Int) = _
  rw [BitVec.toNat_or, wr_bits ha, wr_bits hb]
  rfl
theorem or_num (l : List Nat) (B : Nat) (hl : AllB l) (hB : B < 256) (hk : l.length < 8) : bits .or .i64 (wr (num l)) (IntKind.i64.wrap ((B : Int) * 2 ^ (8 * l.length))) = wr (num (l ++ [B])) := by
  have e : (B : Int) * 2 ^ (8 * l.length) = ((B * 2 ^ (8 * l.length) : Nat) : Int) := by simp
  have h1 := num_lt l hl
  have hp : 2 ^ (8 * l.length) * 256 ≤ 18446744073709551616 := by
    have : 2 ^ (8 * (l.length + 1)) ≤ 2 ^ 64 := Nat.pow_le_pow_right (by decide) (by omega)
    rw [pow8] at this
    omega
  rw [e, ← num_or l B hl]
  refine or_wr (by omega) ?_
  generalize 2 ^ (8 * l.length) = P at *
  have h3 : B * P ≤ 255 * P := Nat.mul_le_mul_right _ (by omega)
  have h4 : 0 < P := by omega
  omega
set_option maxHeartbeats 800000 in
theorem number_any (b off : Nat) (bs : List Nat) (cap : Nat) (w : World) (hn : bs.length ≤ 8) (hA : AllB bs) (hc : ∀ i, i < bs.length → w.cell? ⟨b, off + i, none⟩ = some (.int .u8 ((bs[i]?.getD 0 : Nat) : Int))) :
    Calls Tryd.prog 46 #[.slice (some ⟨b, off, none⟩) bs.length cap] w fun e w' => e = .returned (.int .i64 (wr (num bs))) ∧ w' = w := by
  go_enter Tryd.func46, Tryd.ntmps46
  go_wp2
  go_loop [3, 8] (fun t i => ∃ k : Nat, k ≤ bs.length ∧ i = .int .i64 k ∧ t = .int .i64 (wr (num (bs.take k)))) (fun _ i => bs.length - (intOf i).toNat)
  case atStart => exact ⟨0, by omega, rfl, rfl⟩
  case round =>
    obtain ⟨k, hk, rfl, rfl⟩ := hrel
    by_cases hlt : k < bs.length
    · have hck := hc k hlt
      have hzk := hA.at k
      have HS : Hid (bits .or .i64 (wr (num (bs.take k))) (wrap64 (((bs[k]?.getD 0 : Nat) : Int) * 2 ^ (8 * k))) = wr (num (bs.take (k + 1)))) := by
        have hl : (bs.take k).length = k := by rw [List.length_take]; omega
        have := or_num (bs.take k) (bs[k]?.getD 0) (hA.take k) hzk (by omega)
        rw [hl] at this
        rw [take_snocN bs k hlt, ← wrapEq]
        exact this
      generalize wr (num (bs.take k)) = V at HS ⊢
      generalize bs[k]?.getD 0 = B at hck hzk HS
      clear hc
      go_wp2
      go_round
      case rel => exact ⟨k + 1, by omega, by go_num, val_int HS.out⟩
      case measure => simp [intOf]; omega
    · obtain rfl : k = bs.length := by omega
      go_wp2
      go_ret
      exact ⟨rfl, rfl⟩

def numsZ (xs : List Nat) : List Int := xs.map Int.ofNat
theorem str_eq (xs ys : List Nat) (hx : AllB xs) (hy : AllB ys) : ((strOfNums (numsZ xs)).toList == (strOfNums (numsZ ys)).toList) = decide (xs = ys) := by
  by_cases h : xs = ys
  · subst h; simp
  · rw [decide_eq_false h, beq_eq_false_iff_ne]
    intro e
    apply h
    have e2 := e
    rw [Lib.strOfNums_toList, Lib.strOfNums_toList] at e2
    unfold Lib.bytesOf at e2
    have hb : ∀ l : List Nat, AllB l → ((numsZ l).map fun n => UInt8.ofNat n.toNat).map UInt8.toNat = l := fun l hl => by
      unfold numsZ
      rw [List.map_map, List.map_map]
      conv => rhs; rw [← List.map_id l]
      apply List.map_congr_left
      intro x hx
      have := hl x hx
      simp
      omega
    rw [← hb xs hx, ← hb ys hy, e2]
theorem numsZ_cell {w : World} {b off : Nat} {xs : List Nat} (hc : ∀ i, i < xs.length → w.cell? ⟨b, off + i, none⟩ = some (.int .u8 ((xs[i]?.getD 0 : Nat) : Int))) : ∀ i, i < xs.length → w.cell? ⟨b, off + i, none⟩ = some (.int .u8 ((numsZ xs).getD i 0)) := fun i hi => by
  rw [hc i hi]
  unfold numsZ
  rw [List.getD_eq_getElem?_getD, List.getElem?_map, List.getElem?_eq_getElem hi]
  rfl
set_option maxHeartbeats 800000 in
theorem equal_any (b off : Nat) (xs : List Nat) (c : Nat) (b2 off2 : Nat) (ys : List Nat) (c2 : Nat) (w : World) (hx : AllB xs) (hy : AllB ys)
    (h1 : ∀ i, i < xs.length → w.cell? ⟨b, off + i, none⟩ = some (.int .u8 ((xs[i]?.getD 0 : Nat) : Int))) (h2 : ∀ i, i < ys.length → w.cell? ⟨b2, off2 + i, none⟩ = some (.int .u8 ((ys[i]?.getD 0 : Nat) : Int))) :
    Calls Tryd.prog 54 #[.slice (some ⟨b, off, none⟩) xs.length c, .slice (some ⟨b2, off2, none⟩) ys.length c2] w fun e w' => e = .returned (.bool (decide (xs = ys))) ∧ w' = w := by
  have e1 := run_convert_bytes_arg (P := Tryd.prog) w 23 5 Tryd.underlying23 Tryd.underlying5 b off xs.length c (numsZ xs) (by simp [numsZ]) (numsZ_cell h1) 9 Tryd.underlying9
  have e2 := run_convert_bytes_arg (P := Tryd.prog) w 23 5 Tryd.underlying23 Tryd.underlying5 b2 off2 ys.length c2 (numsZ ys) (by simp [numsZ]) (numsZ_cell h2) 9 Tryd.underlying9
  have HE : Hid (((strOfNums (numsZ xs)).toList == (strOfNums (numsZ ys)).toList) = decide (xs = ys)) := str_eq xs ys hx hy
  clear h1 h2
  generalize strOfNums (numsZ xs) = S at e1 HE
  generalize strOfNums (numsZ ys) = T at e2 HE
  go_enter Tryd.func54, Tryd.ntmps54
  go_wp2
  go_ret
  rw [← HE.out]
  exact ⟨rfl, rfl⟩

theorem cells_take {w : World} {b off : Nat} {xs : List Nat} (hc : ∀ i, i < xs.length → w.cell? ⟨b, off + i, none⟩ = some (.int .u8 ((xs[i]?.getD 0 : Nat) : Int))) (k : Nat) : ∀ i, i < (xs.take k).length → w.cell? ⟨b, off + i, none⟩ = some (.int .u8 (((xs.take k)[i]?.getD 0 : Nat) : Int)) := fun i hi => by
  rw [List.length_take] at hi
  rw [List.getElem?_take, if_pos (by omega)]
  exact hc i (by omega)
set_option maxHeartbeats 800000 in
theorem hasPrefix_any (b off : Nat) (xs : List Nat) (c : Nat) (b2 off2 : Nat) (ys : List Nat) (c2 : Nat) (w : World) (hx : AllB xs) (hy : AllB ys) (hxc : xs.length ≤ c)
    (h1 : ∀ i, i < xs.length → w.cell? ⟨b, off + i, none⟩ = some (.int .u8 ((xs[i]?.getD 0 : Nat) : Int))) (h2 : ∀ i, i < ys.length → w.cell? ⟨b2, off2 + i, none⟩ = some (.int .u8 ((ys[i]?.getD 0 : Nat) : Int))) :
    Calls Tryd.prog 47 #[.slice (some ⟨b, off, none⟩) xs.length c, .slice (some ⟨b2, off2, none⟩) ys.length c2] w fun e w' => e = .returned (.bool (decide (ys.length ≤ xs.length ∧ xs.take ys.length = ys))) ∧ w' = w := by
  by_cases hl : ys.length ≤ xs.length
  · have hE := equal_any b off (xs.take ys.length) c b2 off2 ys c2 w (hx.take _) hy (cells_take h1 _) h2
    rw [List.length_take, Nat.min_eq_left hl] at hE
    have HE : Hid (Calls Tryd.prog 54 #[.slice (some ⟨b, off, none⟩) ys.length c, .slice (some ⟨b2, off2, none⟩) ys.length c2] w fun e w' => e = .returned (.bool (decide (xs.take ys.length = ys))) ∧ w' = w) := hE
    have HD : Hid (decide (ys.length ≤ xs.length ∧ xs.take ys.length = ys) = decide (xs.take ys.length = ys)) := decide_eq_decide.2 ⟨fun e => e.2, fun e => ⟨hl, e⟩⟩
    rw [HD.out]
    have hle : ((ys.length : Nat) : Int) ≤ ((xs.length : Nat) : Int) := by omega
    have hcc : ys.length ≤ c := by omega
    generalize decide (xs.take ys.length = ys) = B at HE ⊢
    clear h1 h2 hE hl HD
    go_enter Tryd.func47, Tryd.ntmps47
    go_wp2_with fail
    refine HE.out.mono ?_
    rintro e w' ⟨rfl, rfl⟩
    go_wp2
    go_ret
    exact ⟨rfl, rfl⟩
  · have HD : Hid (decide (ys.length ≤ xs.length ∧ xs.take ys.length = ys) = false) := decide_eq_false (fun e => hl e.1)
    rw [HD.out]
    have hlt : ((xs.length : Nat) : Int) < ((ys.length : Nat) : Int) := by omega
    clear h1 h2 hl
    go_enter Tryd.func47, Tryd.ntmps47
    go_wp2
    go_ret
    exact ⟨rfl, rfl⟩
theorem alloc_below' (w : World) (o : Obj) : Below w.heap.size w (w.alloc o) := (Below.refl _ _).alloc (Nat.le_refl _) o
/-- Bytes of the call's own come back. -/
def OwnPost (w w' : World) (e : Ending) (ys : List Nat) : Prop := ∃ a cap, e = .returned (.slice a ys.length cap) ∧ OwnA w' w.heap.size a cap ys ∧ Below w.heap.size w w'
set_option maxRecDepth 20000 in
set_option maxHeartbeats 800000 in
theorem clone_some (x : Addr) (c : Nat) (ys : List Nat) (w : World) (hm : ys.length ≤ 1048576) (hL : Lies w (some x) ys) :
    Calls Tryd.prog 37 #[.slice (some x) ys.length c] w fun e w' => OwnPost w w' e ys := by
  have he : ∀ w : World, (binOp .eql 23 (.slice (some x) ys.length c) (.slice none 0 0)).run Tryd.prog w = .ok (.bool false) w := fun _ => rfl
  have HA : Hid (Below w.heap.size w (w.alloc (.cells #[] 5)) ∧ Lies (w.alloc (.cells #[] 5)) (some x) ys) := ⟨alloc_below' w _, hL.below (alloc_below' w _)⟩
  have HM : Hid (ys.length ≤ 1048576) := hm
  clear hL hm
  go_enter Tryd.func37, Tryd.ntmps37
  go_wp2_with (at_builtin; refine app_step rfl (.tmp 5) (.tmp 6) rfl w.heap.size (some ⟨w.heap.size, 0, none⟩) 0 [] (by rfl) (own_new w w.heap.size [] (Nat.le_refl _) (by simp) _ rfl) (some x) c ys (by rfl) (fun e => by cases e) HA.out.2 ys rfl (Nat.le_trans HM.out (by decide)) HA.out.1.size ?_)
  intro a1 c1 w1 hO hK
  have HR : Hid (OwnA w1 w.heap.size a1 c1 ys ∧ Below w.heap.size w w1) := ⟨hO, HA.out.1.trans (hK.below HA.out.1.size (fun b hb => by obtain ⟨x, e, rfl⟩ := hb; cases e; exact Nat.le_refl _))⟩
  clear hO hK HA
  go_wp2
  go_ret
  exact ⟨a1, c1, rfl, HR.out⟩
set_option maxRecDepth 20000 in
set_option maxHeartbeats 800000 in
theorem clone_nil (l c : Nat) (w : World) (hl : l = 0) : Calls Tryd.prog 37 #[.slice none l c] w fun e w' => OwnPost w w' e [] := by
  subst hl
  have he : ∀ w : World, (binOp .eql 23 (.slice none 0 c) (.slice none 0 0)).run Tryd.prog w = .ok (.bool true) w := fun _ => rfl
  go_enter Tryd.func37, Tryd.ntmps37
  go_wp2
  go_ret
  exact ⟨none, 0, rfl, own_nil _ _, Below.refl _ _⟩
theorem clone_any (a : Option Addr) (c : Nat) (ys : List Nat) (w : World) (hm : ys.length ≤ 1048576) (hL : Lies w a ys) :
    Calls Tryd.prog 37 #[.slice a ys.length c] w fun e w' => OwnPost w w' e ys := by
  cases a with
  | some x => exact clone_some x c ys w hm hL
  | none =>
    rcases hL with rfl | ⟨b, off, e, _⟩
    · exact clone_nil _ c w rfl
    · cases e
/-- What addNumber gives. -/
def AddPost (w w' : World) (e : Ending) (base : Nat) (rs : List Nat) : Prop := ∃ a1 cap1, e = .returned (.slice a1 rs.length cap1) ∧ OwnA w' base a1 cap1 rs ∧ Below base w w'
set_option maxHeartbeats 800000 in
theorem addNumber_any (a : Option Addr) (ys : List Nat) (cap x n base : Nat) (w : World) (hO : OwnA w base a cap ys) (hx : x < 9223372036854775808) (hn : n ≤ 8) (hl : ys.length + n ≤ 1073741824) (hb : base ≤ w.heap.size) :
    Calls Tryd.prog 31 #[.slice a ys.length cap, .int .i64 x, .int .i64 n] w fun e w' => AddPost w w' e base (ys ++ low n x) := by
  have H0 : Hid (OwnA w base a cap ys ∧ Below base w w ∧ ys = ys ++ low 0 x) := ⟨hO, Below.refl _ _, by simp [low]⟩
  have HL : Hid (ys.length + n ≤ 1073741824) := hl
  have HB : Hid (base ≤ w.heap.size) := hb
  clear hO hl hb
  go_enter Tryd.func31, Tryd.ntmps31
  go_wp2
  go_loopw [0, 9] (fun t j wr => ∃ (k c : Nat) (a1 : Option Addr) (rs : List Nat), k ≤ n ∧ j = .int .i64 k ∧ t = .slice a1 rs.length c ∧ Hid (OwnA wr base a1 c rs ∧ Below base w wr ∧ rs = ys ++ low k x)) (fun _ j _ => n - (intOf j).toNat)
  case atStart => exact ⟨0, cap, a, ys, by omega, rfl, rfl, H0.out⟩
  case round =>
    clear H0
    obtain ⟨k, c, a1, rs, hk, rfl, rfl, hr⟩ := hrel
    by_cases hlt : k < n
    · obtain ⟨R, HRR⟩ : ∃ R, Hid (R = rs ++ [x / 2 ^ (8 * k) % 256]) := ⟨_, rfl⟩
      have HA : Hid (OwnA (wr.alloc (.cells #[.int .u8 ((x : Int) / 2 ^ (8 * k) % 256)] 5)) base a1 c rs ∧ Lies (wr.alloc (.cells #[.int .u8 ((x : Int) / 2 ^ (8 * k) % 256)] 5)) (some ⟨wr.heap.size, 0, none⟩) [x / 2 ^ (8 * k) % 256] ∧ Below base w (wr.alloc (.cells #[.int .u8 ((x : Int) / 2 ^ (8 * k) % 256)] 5)) ∧ R.length ≤ 1073741824 ∧ base ≤ (wr.alloc (.cells #[.int .u8 ((x : Int) / 2 ^ (8 * k) % 256)] 5)).heap.size ∧ R = ys ++ low (k + 1) x) := by
        have hb : Below wr.heap.size wr (wr.alloc (.cells #[.int .u8 ((x : Int) / 2 ^ (8 * k) % 256)] 5)) := alloc_below' _ _
        have hs : base ≤ wr.heap.size := Nat.le_trans HB.out hr.out.2.1.size
        refine ⟨hr.out.1.below hb, (own_new wr wr.heap.size [x / 2 ^ (8 * k) % 256] (Nat.le_refl _) (by simp) _ ?_).lies, hr.out.2.1.trans (hb.mono hs), ?_, Nat.le_trans hs hb.size, ?_⟩
        · rw [low_byte]; rfl
        · rw [HRR.out, hr.out.2.2, List.length_append, List.length_append, low_len, List.length_singleton]; have := HL.out; omega
        · rw [HRR.out, hr.out.2.2, low_snoc, List.append_assoc]
      have HO1 : Hid (OwnA wr base a1 c rs) := hr.out.1
      clear hr
      go_wp2_with (at_builtin; refine app_step rfl (.tmp 12) (.tmp 18) rfl base a1 c rs rfl HA.out.1 (some ⟨wr.heap.size, 0, none⟩) 1 [x / 2 ^ (8 * k) % 256] rfl (fun e => by cases e) HA.out.2.1 R HRR.out HA.out.2.2.2.1 HA.out.2.2.2.2.1 ?_)
      intro a2 c2 w2 hO2 hK2
      have HR : Hid (OwnA w2 base a2 c2 R ∧ Below base w w2 ∧ R = ys ++ low (k + 1) x) := ⟨hO2, HA.out.2.2.1.trans (hK2.below HA.out.2.2.2.2.1 (fun b hb => (HO1.out.ge hb).1)), HA.out.2.2.2.2.2⟩
      clear hO2 hK2 HA HO1 HRR
      go_wp2
      go_roundw
      case rel => exact ⟨k + 1, c2, a2, R, by omega, by go_num, rfl, HR.out⟩
      case measure => simp [intOf]; omega
    · obtain rfl : k = n := by omega
      have HP : Hid (AddPost w wr (.returned (.slice a1 rs.length c)) base (ys ++ low k x)) := by
        rw [← hr.out.2.2]
        exact ⟨a1, c, rfl, hr.out.1, hr.out.2.1⟩
      clear hr
      go_wp2
      go_ret
      exact HP.out
end Go.Proofs.YtbajdgadljdnkaeDoor

/-
  What the calls of frame.isSize, isNamed and put give: whether a number of bytes may be a page's; whether what a frame says of its Data can be said; a number's bytes put in their place.
-/
import Derived.Test.YtfaphblninmioacCrc
import Derived.Deep.RegionWith
import Derived.Deep.CutRange
import Derived.Deep.DeepCutAuto
import Derived.Deep.RegionHeld3
import Derived.Deep.RegionLaw
namespace Go.Proofs.Ytfaphblninmioac
open Go.RowKit
set_option linter.unusedVariables false

def sizeB (n : Int) : Bool := decide (24 ≤ n ∧ n ≤ 4096)
theorem size_yes {n : Int} (h : 24 ≤ n ∧ n ≤ 4096) : sizeB n = true := decide_eq_true h
theorem size_no {n : Int} (h : ¬ (24 ≤ n ∧ n ≤ 4096)) : sizeB n = false := decide_eq_false h
theorem isSize_any (n : Int) (w : World) : Calls Try.prog 22 #[.int .i64 n] w fun e w' => e = .returned (.bool (sizeB n)) ∧ w' = w := by
  by_cases h1 : 24 ≤ n
  · by_cases h2 : n ≤ 4096
    · rw [size_yes ⟨h1, h2⟩]
      go_enter Try.func22, Try.ntmps22
      go_wp2
      go_ret
      exact ⟨rfl, rfl⟩
    · rw [size_no (fun h => h2 h.2)]
      go_enter Try.func22, Try.ntmps22
      go_wp2
      go_ret
      exact ⟨rfl, rfl⟩
  · rw [size_no (fun h => h1 h.1)]
    go_enter Try.func22, Try.ntmps22
    go_wp2
    go_ret
    exact ⟨rfl, rfl⟩
/-- What a frame says of its Data can be said. -/
def Named (k l s : Int) : Prop := (1 ≤ k ∧ k ≤ 3) ∧ (0 ≤ l ∧ l ≤ 4294967295) ∧ (0 ≤ s ∧ s ≤ 4611686018427387904)
/-- A frame as a value. -/
abbrev FV (k l s : Int) (a : Option Addr) (n c : Nat) : Value := .agg #[.int .i64 k, .int .i64 l, .int .i64 s, .slice a n c]
set_option maxHeartbeats 800000 in
theorem isNamed_yes (k l s : Int) (a : Option Addr) (n c : Nat) (w : World) (h : Named k l s) : Calls Try.prog 23 #[FV k l s a n c] w fun e w' => e = .returned (.bool true) ∧ Below w.heap.size w w' := by
  obtain ⟨⟨h1, h2⟩, ⟨h3, h4⟩, h5, h6⟩ := h
  have hb : ∀ o, Below w.heap.size w (w.alloc o) := fun o => (Below.refl _ _).alloc (Nat.le_refl _) o
  have HB : Hid (∀ o, Below w.heap.size w (w.alloc o)) := hb
  clear hb
  go_enter Try.func23, Try.ntmps23
  go_wp2
  go_ret
  exact ⟨rfl, HB.out _⟩
set_option maxHeartbeats 1600000 in
theorem isNamed_no (k l s : Int) (a : Option Addr) (n c : Nat) (w : World) (h : ¬ Named k l s) : Calls Try.prog 23 #[FV k l s a n c] w fun e w' => e = .returned (.bool false) ∧ Below w.heap.size w w' := by
  have hb : ∀ o, Below w.heap.size w (w.alloc o) := fun o => (Below.refl _ _).alloc (Nat.le_refl _) o
  have HB : Hid (∀ o, Below w.heap.size w (w.alloc o)) := hb
  clear hb
  by_cases h1 : 1 ≤ k
  case neg =>
    clear h
    go_enter Try.func23, Try.ntmps23
    go_wp2
    go_ret
    exact ⟨rfl, HB.out _⟩
  by_cases h2 : k ≤ 3
  case neg =>
    clear h
    go_enter Try.func23, Try.ntmps23
    go_wp2
    go_ret
    exact ⟨rfl, HB.out _⟩
  by_cases h3 : 0 ≤ l
  case neg =>
    clear h
    go_enter Try.func23, Try.ntmps23
    go_wp2
    go_ret
    exact ⟨rfl, HB.out _⟩
  by_cases h4 : l ≤ 4294967295
  case neg =>
    clear h
    go_enter Try.func23, Try.ntmps23
    go_wp2
    go_ret
    exact ⟨rfl, HB.out _⟩
  by_cases h5 : 0 ≤ s
  case neg =>
    clear h
    go_enter Try.func23, Try.ntmps23
    go_wp2
    go_ret
    exact ⟨rfl, HB.out _⟩
  have h6 : ¬ s ≤ 4611686018427387904 := fun h6 => h ⟨⟨h1, h2⟩, ⟨h3, h4⟩, h5, h6⟩
  clear h
  go_enter Try.func23, Try.ntmps23
  go_wp2
  go_ret
  exact ⟨rfl, HB.out _⟩

theorem low_byte (v k : Nat) : ((v : Int) / 2 ^ (8 * k)) % 256 = ((v / 2 ^ (8 * k) % 256 : Nat) : Int) := by
  rw [show ((2 : Int) ^ (8 * k)) = ((2 ^ (8 * k) : Nat) : Int) by simp]
  generalize 2 ^ (8 * k) = P
  omega
set_option maxHeartbeats 800000 in
theorem put_any (g off n cap v : Nat) (l : List Nat) (w : World) (hv : v < 9223372036854775808) (hn : n ≤ 8) (hfit : off + n ≤ l.length) (hg : Row w g l) :
    Calls Try.prog 24 #[.slice (some ⟨g, off, none⟩) n cap, .int .i64 v] w fun e w' => e = .returned (.tuple #[]) ∧ Row w' g (splice l off (low n v)) ∧ Keep (fun b => b = g) w w' := by
  have HG : Hid (Row w g (splice l off (low 0 v))) := by rw [show splice l off (low 0 v) = l from splice_nil l off]; exact hg
  clear hg
  go_enter Try.func24, Try.ntmps24
  go_wp2
  go_loopw [7] (fun j wr => ∃ k : Nat, k ≤ n ∧ j = .int .i64 k ∧ Hid (Row wr g (splice l off (low k v))) ∧ Keep (fun b => b = g) w wr) (fun j _ => n - (intOf j).toNat)
  case atStart => exact ⟨0, by omega, rfl, HG, Keep.refl _ _⟩
  case round =>
    obtain ⟨k, hk, rfl, hr, hbr⟩ := hrel
    by_cases hlt : k < n
    · have hll : (splice l off (low k v)).length = l.length := splice_len (by rw [low_len]; omega)
      have hf := row_free hr.out (off + k)
      have hck := row_cell hr.out (off + k) (by rw [hll]; omega)
      have HR : Hid (Row (wr.setCell ⟨g, off + k, none⟩ (.int .u8 ((v / 2 ^ (8 * k) % 256 : Nat) : Int))) g (splice l off (low (k + 1) v))) := by
        have e := row_set hr.out (off + k) (v / 2 ^ (8 * k) % 256)
        have e2 := splice_snoc (l := l) (xs := low k v) (off := off) (b := v / 2 ^ (8 * k) % 256) (by rw [low_len]; omega)
        rw [low_len] at e2
        rw [e2, ← low_snoc] at e
        exact e
      have HL : Hid (((v : Int) / 2 ^ (8 * k)) % 256 = ((v / 2 ^ (8 * k) % 256 : Nat) : Int)) := low_byte v k
      generalize (splice l off (low k v))[off + k]?.getD 0 = X at hck
      clear hr hll
      go_wp2
      go_roundw
      case rel => exact ⟨k + 1, by omega, by go_num, HR.out, hbr.set rfl _⟩
      case measure => simp [intOf]; omega
    · obtain rfl : k = n := by omega
      go_wp2
      go_end0
      exact ⟨rfl, hr.out, hbr⟩
end Go.Proofs.Ytfaphblninmioac

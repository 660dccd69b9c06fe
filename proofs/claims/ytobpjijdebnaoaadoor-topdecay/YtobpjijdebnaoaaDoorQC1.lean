/- Part of the proof. -/
import Derived.Test.YtobpjijdebnaoaaDoorQFacts3
import Derived.WalkKit
import Derived.WalkSpells
import Derived.WalkLawsBesides
import Derived.Lib.BitFns
namespace Go.Proofs.YtobpjijdebnaoaaDoorQC
/-- One bit's step. -/
def crcT (x : Nat) : Nat := if x % 2 = 1 then (x / 2) ^^^ 3988292384 else x / 2
/-- So many steps. -/
def crcN : Nat → Nat → Nat
  | 0, x => x
  | n + 1, x => crcT (crcN n x)
/-- One byte's step. -/
def crcB (s b : Nat) : Nat := crcN 8 (s ^^^ b)
/-- A list's. -/
def crcL (s : Nat) (l : List Nat) : Nat := l.foldl crcB s
def crcOf (l : List Nat) : Nat := 4294967295 ^^^ crcL 4294967295 l
theorem crcT_lt {x : Nat} (h : x < 4294967296) : crcT x < 4294967296 := by
  unfold crcT
  split
  · exact Nat.xor_lt_two_pow (n := 32) (by omega) (by decide)
  · omega
theorem crcN_lt {x : Nat} (h : x < 4294967296) : ∀ n, crcN n x < 4294967296
  | 0 => h
  | n + 1 => crcT_lt (crcN_lt h n)
theorem xor32 {a b : Nat} (ha : a < 4294967296) (hb : b < 4294967296) : a ^^^ b < 4294967296 := Nat.xor_lt_two_pow (n := 32) ha hb
theorem crcB_lt {s b : Nat} (h : s < 4294967296) (hb : b < 4294967296) : crcB s b < 4294967296 := crcN_lt (xor32 h hb) 8
theorem xor_div2 (a b : Nat) : (a ^^^ b) / 2 = a / 2 ^^^ b / 2 := by
  apply Nat.eq_of_testBit_eq
  intro i
  simp [Nat.testBit_div_two, Nat.testBit_xor]
theorem xor_mod2 (a b : Nat) : (a ^^^ b) % 2 = (a % 2 + b % 2) % 2 := by
  have h := Nat.xor_mod_two_pow (a := a) (b := b) (n := 1)
  rw [Nat.pow_one] at h
  rw [h]
  rcases Nat.mod_two_eq_zero_or_one a with ha | ha <;> rcases Nat.mod_two_eq_zero_or_one b with hb | hb <;> rw [ha, hb] <;> rfl
theorem crcT_xor (a b : Nat) : crcT (a ^^^ b) = crcT a ^^^ crcT b := by
  unfold crcT
  rw [xor_mod2, xor_div2]
  rcases Nat.mod_two_eq_zero_or_one a with ha | ha <;> rcases Nat.mod_two_eq_zero_or_one b with hb | hb <;> simp [ha, hb]
  · rw [Nat.xor_assoc]
  · rw [Nat.xor_assoc, Nat.xor_comm (b / 2), Nat.xor_assoc]
  · rw [Nat.xor_assoc, ← Nat.xor_assoc 3988292384, Nat.xor_comm 3988292384 (b / 2), Nat.xor_assoc, Nat.xor_self, Nat.xor_zero]
theorem crcN_xor (a b : Nat) : ∀ n, crcN n (a ^^^ b) = crcN n a ^^^ crcN n b
  | 0 => rfl
  | n + 1 => by simp only [crcN]; rw [crcN_xor a b n, crcT_xor]
theorem xor_eq_zero {a b : Nat} (h : a ^^^ b = 0) : a = b := by
  have h2 : a ^^^ b ^^^ b = 0 ^^^ b := by rw [h]
  rw [Nat.xor_assoc, Nat.xor_self, Nat.xor_zero, Nat.zero_xor] at h2
  exact h2
theorem crcT_zero {x : Nat} (h : x < 4294967296) (h0 : crcT x = 0) : x = 0 := by
  unfold crcT at h0
  split at h0
  · have := xor_eq_zero h0; omega
  · omega
theorem crcN_zero {x : Nat} (h : x < 4294967296) : ∀ n, crcN n x = 0 → x = 0
  | 0, h0 => h0
  | n + 1, h0 => crcN_zero h n (crcT_zero (crcN_lt h n) h0)
theorem crcN_inj {a b : Nat} (ha : a < 4294967296) (hb : b < 4294967296) (n : Nat) (h : crcN n a = crcN n b) : a = b := by
  apply xor_eq_zero
  apply crcN_zero (xor32 ha hb) n
  rw [crcN_xor, h, Nat.xor_self]
theorem crcB_inj {s t a b : Nat} (hs : s < 4294967296) (ht : t < 4294967296) (ha : a < 256) (hb : b < 256) (h : crcB s a = crcB t b) : s ^^^ a = t ^^^ b :=
  crcN_inj (xor32 hs (by omega)) (xor32 ht (by omega)) 8 h
/-- Bytes. -/
def AllB (l : List Nat) : Prop := ∀ x ∈ l, x < 256
theorem crcL_lt {s : Nat} (hs : s < 4294967296) : ∀ l : List Nat, AllB l → crcL s l < 4294967296 := by
  intro l
  induction l generalizing s with
  | nil => intro _; exact hs
  | cons b r ih => intro h; exact ih (crcB_lt hs (by have := h b (by simp); omega)) (fun x hx => h x (by simp [hx]))
theorem crcL_snoc (s : Nat) (l : List Nat) (b : Nat) : crcL s (l ++ [b]) = crcB (crcL s l) b := by simp [crcL, List.foldl_append]
theorem AllB.take {l : List Nat} (h : AllB l) (k : Nat) : AllB (l.take k) := fun x hx => h x (List.mem_of_mem_take hx)
theorem AllB.at {l : List Nat} (h : AllB l) (k : Nat) : l[k]?.getD 0 < 256 := by
  by_cases hk : k < l.length
  · rw [List.getElem?_eq_getElem hk]; exact h _ (List.getElem_mem _)
  · rw [List.getElem?_eq_none (by omega)]; decide
theorem take_snocN (l : List Nat) (k : Nat) (h : k < l.length) : l.take (k + 1) = l.take k ++ [l[k]?.getD 0] := by
  rw [List.take_succ_eq_append_getElem h, List.getElem?_eq_getElem h]; rfl
/-- Three states that are the sum of three. -/
theorem crcB_three (s t u a b c : Nat) : crcB (s ^^^ t ^^^ u) (a ^^^ b ^^^ c) = crcB s a ^^^ crcB t b ^^^ crcB u c := by
  unfold crcB
  rw [← crcN_xor, ← crcN_xor]
  congr 1
  apply Nat.eq_of_testBit_eq
  intro i
  simp only [Nat.testBit_xor]
  cases s.testBit i <;> cases t.testBit i <;> cases u.testBit i <;> cases a.testBit i <;> cases b.testBit i <;> cases c.testBit i <;> rfl
/-- The exclusive or of three lists, as far as all reach. -/
def xor3 : List Nat → List Nat → List Nat → List Nat
  | a :: x, b :: y, c :: z => (a ^^^ b ^^^ c) :: xor3 x y z
  | _, _, _ => []
theorem crcL_three : ∀ (x y z : List Nat) (s t u : Nat), x.length = y.length → y.length = z.length → crcL (s ^^^ t ^^^ u) (xor3 x y z) = crcL s x ^^^ crcL t y ^^^ crcL u z
  | [], [], [], _, _, _, _, _ => rfl
  | a :: x, b :: y, c :: z, s, t, u, h1, h2 => by
    have ih := crcL_three x y z (crcB s a) (crcB t b) (crcB u c) (by simpa using h1) (by simpa using h2)
    show crcL (crcB (s ^^^ t ^^^ u) (a ^^^ b ^^^ c)) (xor3 x y z) = _
    rw [crcB_three]
    exact ih
theorem crcOf_three (x y z : List Nat) (h1 : x.length = y.length) (h2 : y.length = z.length) : crcOf (xor3 x y z) = crcOf x ^^^ crcOf y ^^^ crcOf z := by
  have h := crcL_three x y z 4294967295 4294967295 4294967295 h1 h2
  rw [Nat.xor_self, Nat.zero_xor] at h
  unfold crcOf
  rw [h]
  apply Nat.eq_of_testBit_eq
  intro i
  simp only [Nat.testBit_xor]
  cases (4294967295 : Nat).testBit i <;> cases (crcL 4294967295 x).testBit i <;> cases (crcL 4294967295 y).testBit i <;> cases (crcL 4294967295 z).testBit i <;> rfl
theorem crcL_inj : ∀ (l : List Nat) (s t : Nat), s < 4294967296 → t < 4294967296 → AllB l → crcL s l = crcL t l → s = t
  | [], _, _, _, _, _, h => h
  | b :: r, s, t, hs, ht, hl, h => by
    have hb := hl b (by simp)
    have e := crcL_inj r (crcB s b) (crcB t b) (crcB_lt hs (by omega)) (crcB_lt ht (by omega)) (fun x hx => hl x (by simp [hx])) h
    have e2 := crcB_inj hs ht hb hb e
    have e3 : s ^^^ b ^^^ b = t ^^^ b ^^^ b := by rw [e2]
    rwa [Nat.xor_assoc, Nat.xor_assoc, Nat.xor_self, Nat.xor_zero, Nat.xor_zero] at e3
/-- One byte that is another one is told. -/
theorem crcL_set : ∀ (l : List Nat) (s k v : Nat), s < 4294967296 → AllB l → v < 256 → k < l.length → v ≠ l[k]?.getD 0 → crcL s (l.set k v) ≠ crcL s l
  | [], _, _, _, _, _, _, hk, _ => by simp at hk
  | b :: r, s, 0, v, hs, hl, hv, _, hne => by
    intro h
    have hb := hl b (by simp)
    have h' : crcL (crcB s v) r = crcL (crcB s b) r := h
    have e := crcL_inj r _ _ (crcB_lt hs (by omega)) (crcB_lt hs (by omega)) (fun x hx => hl x (by simp [hx])) h'
    have e2 := crcB_inj hs hs hv hb e
    apply hne
    show v = b
    have e3 : s ^^^ (s ^^^ v) = s ^^^ (s ^^^ b) := by rw [e2]
    rwa [← Nat.xor_assoc, ← Nat.xor_assoc, Nat.xor_self, Nat.zero_xor, Nat.zero_xor] at e3
  | b :: r, s, k + 1, v, hs, hl, hv, hk, hne => by
    have hb := hl b (by simp)
    exact crcL_set r (crcB s b) k v (crcB_lt hs (by omega)) (fun x hx => hl x (by simp [hx])) hv (by simpa using hk) (by simpa using hne)
theorem crcOf_set (l : List Nat) (k v : Nat) (hl : AllB l) (hv : v < 256) (hk : k < l.length) (hne : v ≠ l[k]?.getD 0) : crcOf (l.set k v) ≠ crcOf l := by
  intro h
  apply crcL_set l 4294967295 k v (by decide) hl hv hk hne
  unfold crcOf at h
  have e3 : 4294967295 ^^^ (4294967295 ^^^ crcL 4294967295 (l.set k v)) = 4294967295 ^^^ (4294967295 ^^^ crcL 4294967295 l) := by rw [h]
  rwa [← Nat.xor_assoc, ← Nat.xor_assoc, Nat.xor_self, Nat.zero_xor, Nat.zero_xor] at e3
theorem crcOf_lt {l : List Nat} (h : AllB l) : crcOf l < 4294967296 := xor32 (by decide) (crcL_lt (by decide) l h)
end Go.Proofs.YtobpjijdebnaoaaDoorQC
namespace Go.Proofs.YtobpjijdebnaoaaDoorQC
open Go.Proofs.YtobpjijdebnaoaaDoorQ
open Go.RowKit
theorem crc_odd (X : Nat) (hX : X < 4294967296) (h : (bits BinOp.and IntKind.u32 (X : Int) 1 == 1) = true) : bits BinOp.xor IntKind.u32 ((X : Int) / 2) 3988292384 = (crcT X : Int) := by
  have e := u32_and_nat X 1 hX (by decide)
  rw [nat_mask1] at e
  have e' : bits BinOp.and IntKind.u32 (X : Int) 1 = ((X % 2 : Nat) : Int) := e
  rw [e'] at h
  have h1 : X % 2 = 1 := by simp at h; omega
  have e2 := u32_xor_nat (X / 2) 3988292384 (by omega) (by decide)
  unfold crcT
  rw [if_pos h1]
  exact e2
theorem crc_even (X : Nat) (hX : X < 4294967296) (h : (bits BinOp.and IntKind.u32 (X : Int) 1 == 1) = false) : (X : Int) / 2 = (crcT X : Int) := by
  have e := u32_and_nat X 1 hX (by decide)
  rw [nat_mask1] at e
  have e' : bits BinOp.and IntKind.u32 (X : Int) 1 = ((X % 2 : Nat) : Int) := e
  rw [e'] at h
  have h1 : ¬ X % 2 = 1 := by simp at h; omega
  unfold crcT
  rw [if_neg h1]
  omega
theorem val_int {k : IntKind} {a b : Int} (h : a = b) : Value.int k a = Value.int k b := by rw [h]
theorem ret_int {k : IntKind} {a b : Int} (h : a = b) : Ending.returned (.int k a) = .returned (.int k b) := by rw [h]
set_option maxHeartbeats 400000 in
theorem addByte_any (s b : Nat) (w : World) (hs : s < 4294967296) (hb : b < 256) :
    Calls (Al.progOf Tryd.prog) 32 #[.int .u32 s, .int .u8 b] w fun e w' => e = .returned (.int .u32 (crcB s b)) ∧ w' = w := by
  go_enter Al.func32, Tryd.ntmps32
  go_wp2
  go_loop [0, 10] (fun t i => ∃ k : Nat, k ≤ 8 ∧ i = .int .i64 k ∧ t = .int .u32 (crcN k (s ^^^ b))) (fun _ i => 8 - (intOf i).toNat)
  case atStart => exact ⟨0, by omega, rfl, by rw [u32_xor_nat s b hs (by omega)]; rfl⟩
  case round =>
    obtain ⟨k, hk, rfl, rfl⟩ := hrel
    have hx := crcN_lt (xor32 hs (show b < 4294967296 by omega)) k
    by_cases hlt : k < 8
    · go_wp2
      · go_round
        case rel => exact ⟨k + 1, by omega, by go_num, val_int (crc_odd _ hx ‹_›)⟩
        case measure => simp [intOf]; omega
      · go_round
        case rel => exact ⟨k + 1, by omega, by go_num, val_int (crc_even _ hx ‹_›)⟩
        case measure => simp [intOf]; omega
    · obtain rfl : k = 8 := by omega
      go_wp2
      go_ret
      exact ⟨rfl, rfl⟩
/-- THE BYTES bs LIE AT a: there are none; or each is a cell. -/
def Lies (w : World) (a : Option Addr) (bs : List Nat) : Prop :=
  bs = [] ∨ ∃ b off, a = some ⟨b, off, none⟩ ∧ ∀ i, i < bs.length → w.cell? ⟨b, off + i, none⟩ = some (.int .u8 ((bs[i]?.getD 0 : Nat) : Int))
set_option maxHeartbeats 400000 in
theorem crc_any (a : Option Addr) (bs : List Nat) (cap : Nat) (w : World) (hm : bs.length ≤ maxLen) (hz : AllB bs) (hc : Lies w a bs) :
    Calls (Al.progOf Tryd.prog) 15 #[.slice a bs.length cap] w fun e w' => e = .returned (.int .u32 (crcOf bs)) ∧ w' = w := by
  unfold maxLen at hm
  rcases hc with rfl | ⟨b, off, rfl, hc⟩
  · go_enter Al.func15, Tryd.ntmps15
    go_wp2
    go_loop [3, 8] (fun t i => i = .int .i64 0 ∧ t = .int .u32 4294967295) (fun _ _ => 0)
    case atStart => exact ⟨rfl, rfl⟩
    case round =>
      obtain ⟨rfl, rfl⟩ := hrel
      go_wp2
      go_ret
      exact ⟨ret_int (by decide +kernel), rfl⟩
  · go_enter Al.func15, Tryd.ntmps15
    go_wp2
    go_loop [3, 8] (fun t i => ∃ k : Nat, k ≤ bs.length ∧ i = .int .i64 k ∧ t = .int .u32 (crcL 4294967295 (bs.take k))) (fun _ i => bs.length - (intOf i).toNat)
    case atStart => exact ⟨0, by omega, rfl, rfl⟩
    case round =>
      obtain ⟨k, hk, rfl, rfl⟩ := hrel
      have hx : crcL 4294967295 (bs.take k) < 4294967296 := crcL_lt (by decide) _ (hz.take k)
      by_cases hlt : k < bs.length
      · have hck := hc k hlt
        have hzk := hz.at k
        have HS : Hid (crcL 4294967295 (bs.take (k + 1)) = crcB (crcL 4294967295 (bs.take k)) (bs[k]?.getD 0)) := by
          show _ = _
          rw [take_snocN bs k hlt, crcL_snoc]
        clear hc
        generalize bs[k]?.getD 0 = B at hck hzk HS
        go_wp2_with (go_at_call 32; refine (addByte_any _ _ _ hx hzk).mono ?_; rintro e w' ⟨rfl, rfl⟩)
        go_round
        case rel => exact ⟨k + 1, by omega, by go_num, val_int (by rw [HS.out])⟩
        case measure => simp [intOf]; omega
      · obtain rfl : k = bs.length := by omega
        go_wp2
        go_ret
        refine ⟨ret_int ?_, rfl⟩
        rw [List.take_length] at hx
        exact u32_xor_nat 4294967295 _ (by decide) hx
end Go.Proofs.YtobpjijdebnaoaaDoorQC
namespace Go.Proofs.YtobpjijdebnaoaaDoorQC
/-- How many of the first so many bits are 1. -/
def pop : Nat → Nat → Nat
  | 0, _ => 0
  | f + 1, x => x % 2 + pop f (x / 2)
theorem pop_le : ∀ n x, pop n x ≤ n
  | 0, _ => Nat.le_refl _
  | n + 1, x => by have := pop_le n (x / 2); simp only [pop]; omega
theorem pop_xor : ∀ n a b, pop n (a ^^^ b) % 2 = (pop n a + pop n b) % 2
  | 0, _, _ => rfl
  | n + 1, a, b => by
    have ih := pop_xor n (a / 2) (b / 2)
    simp only [pop]
    rw [xor_div2, Nat.add_mod, ih, xor_mod2]
    omega
theorem pop_snoc : ∀ n x, pop (n + 1) x = pop n x + x / 2 ^ n % 2
  | 0, x => by simp [pop]
  | n + 1, x => by
    have ih := pop_snoc n (x / 2)
    have e : x / 2 / 2 ^ n = x / 2 ^ (n + 1) := by rw [Nat.div_div_eq_div_mul, Nat.pow_succ, Nat.mul_comm]
    rw [e] at ih
    show x % 2 + pop (n + 1) (x / 2) = x % 2 + pop n (x / 2) + x / 2 ^ (n + 1) % 2
    rw [ih]; omega
theorem pop_small (n m x : Nat) (h : x < 2 ^ n) : pop (n + m) x = pop n x := by
  induction m with
  | zero => rfl
  | succ m ih =>
    rw [← Nat.add_assoc, pop_snoc, ih]
    have : x / 2 ^ (n + m) = 0 := Nat.div_eq_of_lt (Nat.lt_of_lt_of_le h (Nat.pow_le_pow_right (by decide) (by omega)))
    rw [this]; rfl
def placesL : List Nat := [3, 5, 6, 7, 9, 10, 11, 12, 13, 14, 15, 17, 18, 19, 20, 21, 22, 23, 24, 25, 26, 27, 28, 29, 30, 31, 33, 34, 35, 36, 37, 38, 39, 40, 41, 42, 43, 44, 45, 46, 47, 48, 49, 50, 51, 52, 53, 54, 55, 56, 57, 58, 59, 60, 61, 62, 63, 65, 66, 67, 68, 69, 70, 71]
def placeAt (k : Nat) : Nat := placesL[k]?.getD 0
/-- What a bit of the word puts into the check. -/
def sig (k : Nat) : Nat := placeAt k + 128 * ((1 + pop 8 (placeAt k)) % 2)
def psum (x : Nat) : Nat → Nat
  | 0 => 0
  | k + 1 => if x / 2 ^ k % 2 = 1 then psum x k ^^^ placeAt k else psum x k
def csum (x : Nat) : Nat → Nat
  | 0 => 0
  | k + 1 => if x / 2 ^ k % 2 = 1 then csum x k ^^^ sig k else csum x k
def chk (x : Nat) : Nat := csum x 64
theorem placeAt_lt (k : Nat) : placeAt k < 128 := by
  by_cases h : k < 64
  · have : ∀ k : Fin 64, placeAt k < 128 := by decide +kernel
    exact this ⟨k, h⟩
  · unfold placeAt
    rw [List.getElem?_eq_none (show placesL.length ≤ k from by simp [placesL]; omega)]; decide
theorem sig_lt (k : Nat) : sig k < 256 := by have := placeAt_lt k; unfold sig; omega
theorem psum_lt (x : Nat) : ∀ k, psum x k < 128
  | 0 => by simp [psum]
  | k + 1 => by
    simp only [psum]
    split
    · exact Nat.xor_lt_two_pow (n := 7) (psum_lt x k) (placeAt_lt k)
    · exact psum_lt x k
theorem csum_lt (x : Nat) : ∀ k, csum x k < 256
  | 0 => by simp [csum]
  | k + 1 => by
    simp only [csum]
    split
    · exact Nat.xor_lt_two_pow (n := 8) (csum_lt x k) (sig_lt k)
    · exact csum_lt x k
theorem chk_lt (x : Nat) : chk x < 256 := csum_lt x 64
theorem xor_mod128 (a b : Nat) : (a ^^^ b) % 128 = a % 128 ^^^ b % 128 := Nat.xor_mod_two_pow (n := 7)
theorem xor_div128 (a b : Nat) : (a ^^^ b) / 128 = a / 128 ^^^ b / 128 := Nat.xor_div_two_pow (n := 7)
theorem csum_mod (x : Nat) : ∀ k, csum x k % 128 = psum x k
  | 0 => rfl
  | k + 1 => by
    have ih := csum_mod x k
    have hp := placeAt_lt k
    simp only [csum, psum]
    split
    · rw [xor_mod128, ih]; congr 1; unfold sig; omega
    · exact ih
theorem xor_bit (a b : Nat) (ha : a < 2) (hb : b < 2) : a ^^^ b = (a + b) % 2 := by
  rcases (by omega : a = 0 ∨ a = 1) with rfl | rfl <;> rcases (by omega : b = 0 ∨ b = 1) with rfl | rfl <;> rfl
theorem csum_div (x : Nat) : ∀ k, csum x k / 128 = (pop k x + pop 8 (psum x k)) % 2
  | 0 => by simp [csum, psum, pop]
  | k + 1 => by
    have ih := csum_div x k
    have hp := placeAt_lt k
    rw [pop_snoc]
    simp only [csum, psum]
    split
    · rename_i h
      have hc := csum_lt x k
      have hs := sig_lt k
      rw [xor_div128, xor_bit _ _ (by omega) (by omega), ih, h]
      have e := pop_xor 8 (psum x k) (placeAt k)
      have es : sig k / 128 = (1 + pop 8 (placeAt k)) % 2 := by unfold sig; omega
      rw [es]
      omega
    · rename_i h
      have : x / 2 ^ k % 2 = 0 := by omega
      rw [this, ih]; rfl
theorem chk_eq (x : Nat) : chk x = psum x 64 + 128 * ((pop 64 x + pop 8 (psum x 64)) % 2) := by
  have h1 := csum_mod x 64
  have h2 := csum_div x 64
  unfold chk
  omega
theorem pop8_split : ∀ y : Fin 256, pop 8 y.val = pop 8 (y.val % 128) + y.val / 128 := by decide +kernel
theorem pop_chk (x : Nat) : pop 8 (chk x) % 2 = pop 64 x % 2 := by
  have h := pop8_split ⟨chk x, chk_lt x⟩
  simp only at h
  have h1 := csum_mod x 64
  have h2 := csum_div x 64
  rw [h]
  unfold chk
  rw [h1, h2]
  omega
theorem xor_bitk (x y k : Nat) : (x ^^^ y) / 2 ^ k % 2 = (x / 2 ^ k % 2 + y / 2 ^ k % 2) % 2 := by
  rw [Nat.xor_div_two_pow, xor_mod2]
theorem csum_xor (x y : Nat) : ∀ k, csum (x ^^^ y) k = csum x k ^^^ csum y k
  | 0 => by simp [csum]
  | k + 1 => by
    have ih := csum_xor x y k
    simp only [csum]
    rw [xor_bitk, ih]
    rcases Nat.mod_two_eq_zero_or_one (x / 2 ^ k) with ha | ha <;> rcases Nat.mod_two_eq_zero_or_one (y / 2 ^ k) with hb | hb <;> simp [ha, hb]
    · rw [Nat.xor_assoc]
    · rw [Nat.xor_assoc, Nat.xor_comm (csum y k), Nat.xor_assoc]
    · rw [Nat.xor_assoc, ← Nat.xor_assoc (sig k), Nat.xor_comm (sig k) (csum y k), Nat.xor_assoc, Nat.xor_self, Nat.xor_zero]
theorem chk_xor (x y : Nat) : chk (x ^^^ y) = chk x ^^^ chk y := csum_xor x y 64
theorem chk_pow : ∀ i : Fin 64, chk (2 ^ i.val) = sig i.val := by decide +kernel
theorem chk_turn (x i : Nat) (h : i < 64) : chk (x ^^^ 2 ^ i) = chk x ^^^ sig i := by rw [chk_xor, chk_pow ⟨i, h⟩]
/-- The bit whose place is m. -/
def idxOf (m : Nat) : Option Nat := (List.range 64).find? fun k => placeAt k == m
theorem idxOf_at {k m : Nat} (h : k < 64) (e : placeAt k = m) : idxOf m = some k := by
  have : ∀ k : Fin 64, idxOf (placeAt k) = some k.val := by decide +kernel
  rw [← e]; exact this ⟨k, h⟩
theorem idxOf_none {m : Nat} (h : ∀ j, j < 64 → placeAt j ≠ m) : idxOf m = none := by
  unfold idxOf
  rw [List.find?_eq_none]
  intro k hk
  simp at hk ⊢
  exact h k hk
theorem idxOf_lt {m k : Nat} (h : idxOf m = some k) : k < 64 := by
  have := List.mem_of_find?_eq_some h
  simpa using this
/-- What a word was whose check parts from the right one by d, and how many bits were turned. -/
def mendD (x d : Nat) : Option (Nat × Nat) :=
  if pop 8 d % 2 = 0 then if d % 128 = 0 then some (x, 0) else none
  else if pop 8 (d % 128) ≤ 1 then some (x, 1)
  else match idxOf (d % 128) with
    | some i => some (x ^^^ 2 ^ i, 1)
    | none => none
theorem mendD_right (x : Nat) : mendD x 0 = some (x, 0) := rfl
theorem xor_swap3 (a b : Nat) : a ^^^ b ^^^ a = b := by rw [Nat.xor_comm a b, Nat.xor_assoc, Nat.xor_self, Nat.xor_zero]
theorem sig_odd : ∀ i : Fin 64, pop 8 (sig i.val) % 2 = 1 ∧ ¬ pop 8 (sig i.val % 128) ≤ 1 ∧ sig i.val % 128 = placeAt i.val := by decide +kernel
/-- One bit of the word was turned. -/
theorem mendD_word (x i : Nat) (h : i < 64) : mendD (x ^^^ 2 ^ i) (chk (x ^^^ 2 ^ i) ^^^ chk x) = some (x, 1) := by
  rw [chk_turn x i h, xor_swap3]
  obtain ⟨h1, h2, h3⟩ := sig_odd ⟨i, h⟩
  simp only at h1 h2 h3
  unfold mendD
  rw [if_neg (by omega), if_neg h2, h3, idxOf_at h rfl]
  simp [Nat.xor_assoc, Nat.xor_self]
theorem pow_odd : ∀ j : Fin 8, pop 8 (2 ^ j.val) % 2 = 1 ∧ pop 8 (2 ^ j.val % 128) ≤ 1 := by decide +kernel
/-- One bit of the check was turned. -/
theorem mendD_check (x j : Nat) (h : j < 8) : mendD x (chk x ^^^ (chk x ^^^ 2 ^ j)) = some (x, 1) := by
  rw [← Nat.xor_assoc, Nat.xor_self, Nat.zero_xor]
  obtain ⟨h1, h2⟩ := pow_odd ⟨j, h⟩
  simp only at h1 h2
  unfold mendD
  rw [if_neg (by omega), if_pos h2]
/-- What a bit of word and check puts into what parts: the first 64 are the word's. -/
def sig72 (k : Nat) : Nat := if k < 64 then sig k else 2 ^ (k - 64)
theorem sig72_two : ∀ i k : Fin 72, i ≠ k → pop 8 (sig72 i.val ^^^ sig72 k.val) % 2 = 0 ∧ ¬ (sig72 i.val ^^^ sig72 k.val) % 128 = 0 := by decide +kernel
theorem mendD_two (x i k : Nat) (hi : i < 72) (hk : k < 72) (hne : i ≠ k) : mendD x (sig72 i ^^^ sig72 k) = none := by
  obtain ⟨h1, h2⟩ := sig72_two ⟨i, hi⟩ ⟨k, hk⟩ (by simpa using hne)
  simp only at h1 h2
  unfold mendD
  rw [if_pos h1, if_neg h2]
/-- A number of its bytes, the least first. -/
def join : List Nat → Nat
  | [] => 0
  | b :: r => 256 * join r + b
def msk (c : Nat) : Nat → Nat
  | 0 => 0
  | n + 1 => 256 * msk c n + c
theorem bytes_of : ∀ n x, x < 256 ^ n → ∃ l : List Nat, l.length = n ∧ AllB l ∧ join l = x
  | 0, x, h => ⟨[], rfl, fun _ h => by simp at h, by simp [join] at h ⊢; omega⟩
  | n + 1, x, h => by
    obtain ⟨l, h1, h2, h3⟩ := bytes_of n (x / 256) (by rw [Nat.pow_succ] at h; omega)
    refine ⟨x % 256 :: l, by simp [h1], fun y hy => ?_, by simp [join, h3]; omega⟩
    rcases List.mem_cons.1 hy with rfl | hy
    · omega
    · exact h2 y hy
theorem and_lane (q r M m : Nat) (hr : r < 256) (hm : m < 256) : (256 * q + r) &&& (256 * M + m) = 256 * (q &&& M) + (r &&& m) := by
  have h1 := Nat.and_div_two_pow (a := 256 * q + r) (b := 256 * M + m) (n := 8)
  have h2 := Nat.and_mod_two_pow (a := 256 * q + r) (b := 256 * M + m) (n := 8)
  have e : 2 ^ 8 = 256 := rfl
  rw [e] at h1 h2
  have a1 : (256 * q + r) / 256 = q := by omega
  have a2 : (256 * q + r) % 256 = r := by omega
  have a3 : (256 * M + m) / 256 = M := by omega
  have a4 : (256 * M + m) % 256 = m := by omega
  rw [a1, a3] at h1
  rw [a2, a4] at h2
  omega
def g1 (r : Nat) : Nat := (r / 2 &&& 85) + (r &&& 85)
def g2 (r : Nat) : Nat := (r / 4 &&& 51) + (r &&& 51)
def g3 (r : Nat) : Nat := (r / 16 + r) % 16
theorem low1 : ∀ (b : Fin 2) (s : Fin 128), (128 * b.val + s.val) &&& 85 = s.val &&& 85 := by decide +kernel
theorem low2 : ∀ (b : Fin 4) (s : Fin 64), (64 * b.val + s.val) &&& 51 = s.val &&& 51 := by decide +kernel
theorem step1 : ∀ l : List Nat, AllB l → (join l / 2 &&& msk 85 l.length) + (join l &&& msk 85 l.length) = join (l.map g1)
  | [], _ => by simp [join, msk]
  | r :: l, h => by
    have hr : r < 256 := h r (by simp)
    have ih := step1 l (fun x hx => h x (by simp [hx]))
    have e1 : (256 * join l + r) / 2 = 256 * (join l / 2) + (128 * (join l % 2) + r / 2) := by omega
    have e2 := low1 ⟨join l % 2, by omega⟩ ⟨r / 2, by omega⟩
    simp only at e2
    simp only [join, msk, List.length_cons, List.map_cons]
    rw [e1, and_lane _ _ _ _ (by omega) (by decide), and_lane _ _ _ _ hr (by decide), e2, ← ih]
    unfold g1
    omega
theorem step2 : ∀ l : List Nat, AllB l → (join l / 4 &&& msk 51 l.length) + (join l &&& msk 51 l.length) = join (l.map g2)
  | [], _ => by simp [join, msk]
  | r :: l, h => by
    have hr : r < 256 := h r (by simp)
    have ih := step2 l (fun x hx => h x (by simp [hx]))
    have e1 : (256 * join l + r) / 4 = 256 * (join l / 4) + (64 * (join l % 4) + r / 4) := by omega
    have e2 := low2 ⟨join l % 4, by omega⟩ ⟨r / 4, by omega⟩
    simp only at e2
    simp only [join, msk, List.length_cons, List.map_cons]
    rw [e1, and_lane _ _ _ _ (by omega) (by decide), and_lane _ _ _ _ hr (by decide), e2, ← ih]
    unfold g2
    omega
def Half (l : List Nat) : Prop := ∀ x ∈ l, x ≤ 68 ∧ x % 16 ≤ 4
theorem join_low {l : List Nat} (h : Half l) : join l % 16 ≤ 4 := by
  cases l with
  | nil => simp [join]
  | cons r l => have := h r (by simp); simp only [join]; omega
theorem and15 (x : Nat) : x &&& 15 = x % 16 := Nat.and_two_pow_sub_one_eq_mod x 4
theorem step3 : ∀ l : List Nat, Half l → (join l / 16 + join l) &&& msk 15 l.length = join (l.map g3)
  | [], _ => by simp [join, msk]
  | r :: l, h => by
    have hr := h r (by simp)
    have hl : Half l := fun x hx => h x (by simp [hx])
    have ih := step3 l hl
    have hq := join_low hl
    have e1 : (256 * join l + r) / 16 + (256 * join l + r) = 256 * (join l / 16 + join l) + (16 * (join l % 16) + r / 16 + r) := by omega
    simp only [join, msk, List.length_cons, List.map_cons]
    rw [e1, and_lane _ _ _ _ (by omega) (by decide), ih, and15]
    unfold g3
    omega
theorem g1_lt : ∀ r : Fin 256, g1 r.val < 256 := by decide +kernel
theorem g2_half : ∀ r : Fin 256, g2 (g1 r.val) ≤ 68 ∧ g2 (g1 r.val) % 16 ≤ 4 := by decide +kernel
theorem g123 : ∀ r : Fin 256, g3 (g2 (g1 r.val)) = pop 8 r.val := by decide +kernel
theorem pop_over (n x q : Nat) : pop n (x + 2 ^ n * q) = pop n x := by
  induction n generalizing x with
  | zero => rfl
  | succ n ih =>
    simp only [pop]
    have e1 : (x + 2 ^ (n + 1) * q) % 2 = x % 2 := by rw [Nat.pow_succ, Nat.mul_comm (2 ^ n) 2, Nat.mul_assoc]; omega
    have e2 : (x + 2 ^ (n + 1) * q) / 2 = x / 2 + 2 ^ n * q := by rw [Nat.pow_succ, Nat.mul_comm (2 ^ n) 2, Nat.mul_assoc]; omega
    rw [e1, e2, ih]
theorem pop_add (m x : Nat) : ∀ n, pop (m + n) x = pop m x + pop n (x / 2 ^ m)
  | 0 => rfl
  | n + 1 => by
    rw [← Nat.add_assoc, pop_snoc, pop_add m x n, pop_snoc n (x / 2 ^ m), Nat.div_div_eq_div_mul, ← Nat.pow_add]
    omega
theorem pop_join (n r q : Nat) (hr : r < 256) : pop (8 + n) (256 * q + r) = pop 8 r + pop n q := by
  rw [pop_add]
  have e1 : 256 * q + r = r + 2 ^ 8 * q := by omega
  have e2 : (256 * q + r) / 2 ^ 8 = q := by omega
  rw [e2, e1, pop_over]
theorem div_of {n m A B : Nat} (h : n = m * A + B) (hB : B < m) : n / m = A := by
  rw [h, Nat.mul_add_div (by omega), Nat.div_eq_of_lt hB, Nat.add_zero]
theorem mod_of {n q r : Nat} (h : n = 128 * q + r) (hr : r < 128) : n % 128 = r := by omega
theorem mask85 : msk 85 8 = 6148914691236517205 := by decide +kernel
theorem mask51 : msk 51 8 = 3689348814741910323 := by decide +kernel
theorem mask15 : msk 15 8 = 1085102592571150095 := by decide +kernel
/-- The road of math/bits.OnesCount64, with each number on the way. -/
theorem ones_road (x : Nat) (hx : x < 18446744073709551616) : ∃ y1 y2 y3 : Nat, (x / 2 &&& 6148914691236517205) + (x &&& 6148914691236517205) = y1 ∧
    (y1 / 4 &&& 3689348814741910323) + (y1 &&& 3689348814741910323) = y2 ∧ (y2 / 16 + y2) &&& 1085102592571150095 = y3 ∧ y1 < 18446744073709551616 ∧ y2 < 5764607523034234880 ∧
    y3 < 651061555542690057 ∧ (y3 + y3 / 256 + (y3 + y3 / 256) / 65536 + (y3 + y3 / 256 + (y3 + y3 / 256) / 65536) / 4294967296) % 128 = pop 64 x := by
  obtain ⟨l, hl, hb, rfl⟩ := bytes_of 8 x hx
  have s1 := step1 l hb
  have hb1 : AllB (l.map g1) := by
    intro y hy
    obtain ⟨r, hr, rfl⟩ := List.mem_map.1 hy
    exact g1_lt ⟨r, hb r hr⟩
  have s2 := step2 (l.map g1) hb1
  have hb2 : Half ((l.map g1).map g2) := by
    intro y hy
    obtain ⟨z, hz, rfl⟩ := List.mem_map.1 hy
    obtain ⟨r, hr, rfl⟩ := List.mem_map.1 hz
    exact g2_half ⟨r, hb r hr⟩
  have s3 := step3 ((l.map g1).map g2) hb2
  simp only [List.length_map, hl] at s1 s2 s3
  rw [mask85] at s1
  rw [mask51] at s2
  rw [mask15] at s3
  refine ⟨_, _, _, s1, s2, s3, ?_⟩
  match l, hl with
  | [b0, b1, b2, b3, b4, b5, b6, b7], _ =>
    clear s1 s2 s3
    have c : ∀ b ∈ [b0, b1, b2, b3, b4, b5, b6, b7], g1 b < 256 ∧ (g2 (g1 b) ≤ 68) ∧ g3 (g2 (g1 b)) = pop 8 b := fun b h =>
      ⟨g1_lt ⟨b, hb b h⟩, (g2_half ⟨b, hb b h⟩).1, g123 ⟨b, hb b h⟩⟩
    have c0 := c b0 (by simp); have c1 := c b1 (by simp); have c2 := c b2 (by simp); have c3 := c b3 (by simp)
    have c4 := c b4 (by simp); have c5 := c b5 (by simp); have c6 := c b6 (by simp); have c7 := c b7 (by simp)
    have d0 := hb b0 (by simp); have d1 := hb b1 (by simp); have d2 := hb b2 (by simp); have d3 := hb b3 (by simp)
    have d4 := hb b4 (by simp); have d5 := hb b5 (by simp); have d6 := hb b6 (by simp); have d7 := hb b7 (by simp)
    clear c hb hb1 hb2 hx
    have P : pop 64 (join [b0, b1, b2, b3, b4, b5, b6, b7]) = pop 8 b0 + (pop 8 b1 + (pop 8 b2 + (pop 8 b3 + (pop 8 b4 + (pop 8 b5 + (pop 8 b6 + (pop 8 b7 + 0))))))) := by
      have z : pop 0 0 = 0 := rfl
      rw [← z]
      simp only [join]
      rw [← pop_join 0 b7 0 d7, ← pop_join 8 b6 _ d6, ← pop_join 16 b5 _ d5, ← pop_join 24 b4 _ d4, ← pop_join 32 b3 _ d3, ← pop_join 40 b2 _ d2, ← pop_join 48 b1 _ d1, ← pop_join 56 b0 _ d0]
    have q0 := pop_le 8 b0; have q1 := pop_le 8 b1; have q2 := pop_le 8 b2; have q3 := pop_le 8 b3
    have q4 := pop_le 8 b4; have q5 := pop_le 8 b5; have q6 := pop_le 8 b6; have q7 := pop_le 8 b7
    rw [P]
    simp only [List.map_cons, List.map_nil, c0.2.2, c1.2.2, c2.2.2, c3.2.2, c4.2.2, c5.2.2, c6.2.2, c7.2.2]
    generalize pop 8 b0 = p0 at *; generalize pop 8 b1 = p1 at *; generalize pop 8 b2 = p2 at *; generalize pop 8 b3 = p3 at *
    generalize pop 8 b4 = p4 at *; generalize pop 8 b5 = p5 at *; generalize pop 8 b6 = p6 at *; generalize pop 8 b7 = p7 at *
    generalize g2 (g1 b0) = r0 at *; generalize g2 (g1 b1) = r1 at *; generalize g2 (g1 b2) = r2 at *; generalize g2 (g1 b3) = r3 at *
    generalize g2 (g1 b4) = r4 at *; generalize g2 (g1 b5) = r5 at *; generalize g2 (g1 b6) = r6 at *; generalize g2 (g1 b7) = r7 at *
    simp only [join]
    refine ⟨by omega, by omega, by omega, ?_⟩
    rw [div_of (n := 256 * (256 * (256 * (256 * (256 * (256 * (256 * (256 * 0 + p7) + p6) + p5) + p4) + p3) + p2) + p1) + p0) (m := 256) (A := 256 * (256 * (256 * (256 * (256 * (256 * (256 * 0 + p7) + p6) + p5) + p4) + p3) + p2) + p1) (B := p0) rfl (by omega)]
    rw [div_of (m := 65536) (A := 256 * (256 * (256 * (256 * (256 * p7 + (p6 + p7)) + (p5 + p6)) + (p4 + p5)) + (p3 + p4)) + (p2 + p3)) (B := 256 * (p1 + p2) + (p0 + p1)) (by omega) (by omega)]
    rw [div_of (m := 4294967296) (A := 256 * (256 * (256 * p7 + (p6 + p7)) + (p5 + p6 + p7)) + (p4 + p5 + (p6 + p7))) (B := 256 * (256 * (256 * (p3 + p4 + (p5 + p6)) + (p2 + p3 + (p4 + p5))) + (p1 + p2 + (p3 + p4))) + (p0 + p1 + (p2 + p3))) (by omega) (by omega)]
    exact mod_of (q := 2 * (256 * (256 * (256 * (256 * (256 * (256 * p7 + (p6 + p7)) + (p5 + p6 + p7)) + (p4 + p5 + (p6 + p7))) + (p3 + p4 + (p5 + p6) + p7)) + (p2 + p3 + (p4 + p5) + (p6 + p7))) + (p1 + p2 + (p3 + p4) + (p5 + p6 + p7)))) (by omega) (by omega)
end Go.Proofs.YtobpjijdebnaoaaDoorQC
namespace Go.Proofs.YtobpjijdebnaoaaDoorQC
open Go.Proofs.YtobpjijdebnaoaaDoorQ
open Go.RowKit
theorem popAux_eq : ∀ n x, Lib.popAux n x = pop n x
  | 0, _ => rfl
  | n + 1, x => by show x % 2 + Lib.popAux n (x / 2) = _; rw [popAux_eq n (x / 2)]; rfl
theorem onesCount_eq (x : Nat) (h : x < 256) : Lib.onesCount x = pop 8 x := (popAux_eq 64 x).trans (pop_small 8 56 x h)
set_option maxHeartbeats 400000 in
theorem ones64_core (x a1 b1 y1 a2 b2 y2 c3 y3 y4 y5 y6 r : Int) (w : World)
    (h1 : bits .and .u64 (x / 2) 6148914691236517205 = a1) (h2 : bits .and .u64 x 6148914691236517205 = b1) (h3 : IntKind.u64.wrap (a1 + b1) = y1)
    (h4 : bits .and .u64 (y1 / 4) 3689348814741910323 = a2) (h5 : bits .and .u64 y1 3689348814741910323 = b2) (h6 : IntKind.u64.wrap (a2 + b2) = y2)
    (h7 : IntKind.u64.wrap (y2 / 16 + y2) = c3) (h8 : bits .and .u64 c3 1085102592571150095 = y3)
    (h9 : IntKind.u64.wrap (y3 + y3 / 256) = y4) (h10 : IntKind.u64.wrap (y4 + y4 / 65536) = y5) (h11 : IntKind.u64.wrap (y5 + y5 / 4294967296) = y6)
    (h12 : bits .and .i64 y6 127 = r) (hb0 : 0 ≤ y6) (hb : y6 < 9223372036854775808) :
    Calls (Al.progOf Tryd.prog) 46 #[.int .u64 x] w fun e w' => e = .returned (.int .i64 r) ∧ w' = w := by
  go_enter Al.func46, Tryd.ntmps46
  go_wp2
  go_ret
  exact ⟨rfl, rfl⟩
theorem wrap64_nat (n : Nat) (h : n < 18446744073709551616) : IntKind.u64.wrap (n : Int) = n := by rw [IntKind.wrap_u64]; omega
theorem ones64_any (x : Nat) (w : World) (hx : x < 18446744073709551616) :
    Calls (Al.progOf Tryd.prog) 46 #[.int .u64 x] w fun e w' => e = .returned (.int .i64 (pop 64 x : Nat)) ∧ w' = w := by
  obtain ⟨y1, y2, y3, e1, e2, e3, l1, l2, l3, er⟩ := ones_road x hx
  have f : ∀ a m b : Nat, a < 18446744073709551616 → m < 18446744073709551616 → a &&& m = b → bits .and .u64 (a : Int) (m : Int) = (b : Int) := fun a m b h1 h2 h3 => by rw [u64_and_nat a m h1 h2, h3]
  refine ones64_core (x : Int) ((x / 2 &&& 6148914691236517205 : Nat) : Int) ((x &&& 6148914691236517205 : Nat) : Int) y1 ((y1 / 4 &&& 3689348814741910323 : Nat) : Int) ((y1 &&& 3689348814741910323 : Nat) : Int) y2 ((y2 / 16 + y2 : Nat) : Int) y3
    ((y3 + y3 / 256 : Nat) : Int) ((y3 + y3 / 256 + (y3 + y3 / 256) / 65536 : Nat) : Int) ((y3 + y3 / 256 + (y3 + y3 / 256) / 65536 + (y3 + y3 / 256 + (y3 + y3 / 256) / 65536) / 4294967296 : Nat) : Int) _ w
    (f (x / 2) 6148914691236517205 _ (by omega) (by decide) rfl) (f x 6148914691236517205 _ hx (by decide) rfl) ?_
    (f (y1 / 4) 3689348814741910323 _ (by omega) (by decide) rfl) (f y1 3689348814741910323 _ l1 (by decide) rfl) ?_ ?_ (f (y2 / 16 + y2) 1085102592571150095 _ (by omega) (by decide) e3) ?_ ?_ ?_ ?_ (by omega) (by omega)
  · rw [← Int.natCast_add, e1]; exact wrap64_nat y1 l1
  · rw [← Int.natCast_add, e2]; exact wrap64_nat y2 (by omega)
  · exact wrap64_nat (y2 / 16 + y2) (by omega)
  · exact wrap64_nat (y3 + y3 / 256) (by omega)
  · exact wrap64_nat (y3 + y3 / 256 + (y3 + y3 / 256) / 65536) (by omega)
  · exact wrap64_nat (y3 + y3 / 256 + (y3 + y3 / 256) / 65536 + (y3 + y3 / 256 + (y3 + y3 / 256) / 65536) / 4294967296) (by omega)
  · rw [i64_and127, ← er]; omega
theorem tab_ones (x : Nat) (hx : x < 256) (h : x < Lib.pop8tab.size) : wrap64 (Lib.pop8tab[x].toNat : Int) = (pop 8 x : Nat) := by
  have e := Lib.pop8_eq ⟨x, hx⟩
  have l := pop_le 8 x
  simp only [Lib.pop8, Int.toNat_natCast, ByteArray.getElem?_lt' _ _ h, Option.getD_some, onesCount_eq x hx] at e
  rw [e]
  unfold wrap64
  omega
set_option maxRecDepth 100000 in
set_option maxHeartbeats 400000 in
theorem ones8_any (x : Nat) (w : World) (hx : x < 256) :
    Calls (Al.progOf Tryd.prog) 35 #[.int .u8 x] w fun e w' => e = .returned (.int .i64 (pop 8 x : Nat)) ∧ w' = w := by
  go_enter Al.func35, Tryd.ntmps35
  go_wp2
  go_ret
  exact ⟨ret_int (tab_ones x hx _), rfl⟩
def PL : Array Value := (placesL.map fun p : Nat => Value.int .u8 (p : Int)).toArray
theorem PL_size : PL.size = 64 := by simp [PL, placesL]
theorem PL_at (k : Nat) (h : k < 64) : PL[k]? = some (.int .u8 (placeAt k : Int)) := by
  have hl : k < placesL.length := h
  simp [PL, placeAt, List.getElem?_eq_getElem hl]
theorem run_idx (k : Nat) (h : k < 64) (w : World) : (Instr.index 76 (.agg PL) (.int .i64 k)).run (Al.progOf Tryd.prog) w = .ok (.int .u8 (placeAt k : Int)) w := by
  have hn : (0 ≤ (k : Int) ∧ (k : Int) < ((64 : Nat) : Int)) := by omega
  simp [Instr.index, run_underlying Al.underlying76, asIntOf, hn, go_sem, PL_at k h]
  omega
theorem info61 : ((Al.progOf Tryd.prog).info? 76).map (·.size) = some PL.size := by rw [PL_size]; kernel_rfl
theorem bit_yes (x k : Nat) (hx : x < 18446744073709551616) (h : (bits BinOp.and IntKind.u64 ((x : Int) / 2 ^ k) 1 == 1) = true) : x / 2 ^ k % 2 = 1 := by
  have e : (x : Int) / 2 ^ k = ((x / 2 ^ k : Nat) : Int) := by simp
  have hl : x / 2 ^ k ≤ x := Nat.div_le_self _ _
  have e2 : bits .and .u64 ((x / 2 ^ k : Nat) : Int) 1 = ((x / 2 ^ k % 2 : Nat) : Int) := by
    rw [← nat_mask1]; exact u64_and_nat _ 1 (by omega) (by decide)
  rw [e, e2] at h
  simp at h; omega
theorem bit_no (x k : Nat) (hx : x < 18446744073709551616) (h : (bits BinOp.and IntKind.u64 ((x : Int) / 2 ^ k) 1 == 1) = false) : ¬ x / 2 ^ k % 2 = 1 := by
  have e : (x : Int) / 2 ^ k = ((x / 2 ^ k : Nat) : Int) := by simp
  have hl : x / 2 ^ k ≤ x := Nat.div_le_self _ _
  have e2 : bits .and .u64 ((x / 2 ^ k : Nat) : Int) 1 = ((x / 2 ^ k % 2 : Nat) : Int) := by
    rw [← nat_mask1]; exact u64_and_nat _ 1 (by omega) (by decide)
  rw [e, e2] at h
  simp at h; omega
/-- The table of places is where the program lays it. -/
def Plc (w : World) : Prop := ∃ t fr, w.heap[0]? = some (.cells PL t fr)
set_option maxHeartbeats 400000 in
theorem placeSum_any (x : Nat) (w : World) (hx : x < 18446744073709551616) (hP : Plc w) :
    Calls (Al.progOf Tryd.prog) 33 #[.int .u64 x] w fun e w' => e = .returned (.int .u8 (psum x 64 : Nat)) ∧ w' = w := by
  obtain ⟨t, fr, hg⟩ := hP
  go_enter Al.func33, Tryd.ntmps33
  go_wp2_with (refine wpList_load_row rfl 76 _ rfl 0 rfl t _ fr _ hg Al.underlying76 rfl info61 ?_)
  go_loop [3, 7] (fun t i => ∃ k : Nat, k ≤ 64 ∧ i = .int .i64 k ∧ t = .int .u8 (psum x k : Nat)) (fun _ i => 64 - (intOf i).toNat)
  case atStart => exact ⟨0, by omega, rfl, rfl⟩
  case round =>
    obtain ⟨k, hk, rfl, rfl⟩ := hrel
    by_cases hlt : k < 64
    · have hi := fun w => run_idx k hlt w
      have hp := psum_lt x k
      have hq := placeAt_lt k
      go_wp2
      · go_round
        case rel =>
          refine ⟨k + 1, by omega, by go_num, val_int ?_⟩
          rw [u8_xor_nat _ _ (by omega) (by omega)]
          simp only [psum]
          rw [if_pos (bit_yes x k hx ‹_›)]
        case measure => simp [intOf]; omega
      · go_round
        case rel =>
          refine ⟨k + 1, by omega, by go_num, val_int ?_⟩
          simp only [psum]
          rw [if_neg (bit_no x k hx ‹_›)]
        case measure => simp [intOf]; omega
    · obtain rfl : k = 64 := by omega
      go_wp2
      go_ret
      exact ⟨rfl, rfl⟩
set_option maxHeartbeats 400000 in
theorem parity_any (x c : Nat) (w : World) (hx : x < 18446744073709551616) (hc : c < 256) :
    Calls (Al.progOf Tryd.prog) 34 #[.int .u64 x, .int .u8 c] w fun e w' => e = .returned (.int .i64 ((pop 64 x + pop 8 c) % 2 : Nat)) ∧ w' = w := by
  have h1 := pop_le 64 x
  have h2 := pop_le 8 c
  go_enter Al.func34, Tryd.ntmps34
  go_wp2_with (first | (go_at_call 46; refine (ones64_any _ _ hx).mono ?_; rintro e w' ⟨rfl, rfl⟩) | (go_at_call 35; refine (ones8_any _ _ hc).mono ?_; rintro e w' ⟨rfl, rfl⟩))
  go_ret
  exact ⟨ret_int (by omega), rfl⟩
theorem or_top (s p : Nat) (hs : s < 128) (hp : p < 2) : bits .or .u8 (s : Int) ((p : Int) * 128) = ((s + 128 * p : Nat) : Int) := by
  have e : (p : Int) * 128 = ((p * 128 : Nat) : Int) := by omega
  rw [e, u8_or_nat s (p * 128) (by omega) (by omega)]
  have := nat_join 7 (p * 128) s (by show _ % 128 = 0; omega) (by show _ < 128; omega)
  rw [Nat.or_comm, this]
  omega
set_option maxHeartbeats 400000 in
theorem checkOf_any (x : Nat) (w : World) (hx : x < 18446744073709551616) (hP : Plc w) :
    Calls (Al.progOf Tryd.prog) 17 #[.int .u64 x] w fun e w' => e = .returned (.int .u8 (chk x : Nat)) ∧ w' = w := by
  have h1 := psum_lt x 64
  rw [chk_eq]
  generalize hS : psum x 64 = S at *
  have hps := placeSum_any x w hx hP
  rw [hS] at hps
  clear hS
  have hm : (pop 64 x + pop 8 S) % 2 < 2 := by omega
  have hpar := parity_any x S w hx (by omega)
  generalize (pop 64 x + pop 8 S) % 2 = p at *
  have hor := or_top S p h1 hm
  go_enter Al.func17, Tryd.ntmps17
  go_wp2_with (first | (go_at_call 33; refine hps.mono ?_; rintro e w' ⟨rfl, rfl⟩) | (go_at_call 34; refine hpar.mono ?_; rintro e w' ⟨rfl, rfl⟩))
  go_ret
  exact ⟨ret_int (by omega), rfl⟩
end Go.Proofs.YtobpjijdebnaoaaDoorQC

/-
  Plain mathematics of slots: a number's bytes, a slot's bytes, what bytes tell, which of two is the newer one. Nothing of the program is named here.
-/
import Derived.Test.YtbajdgadljdnkaeDoorMathCrc
namespace Go.Proofs.YtbajdgadljdnkaeDoor

/-- A number's lowest k bytes, the lowest first. -/
def low : Nat → Nat → List Nat
  | 0, _ => []
  | k + 1, x => x % 256 :: low k (x / 256)
/-- The number of such bytes. -/
def num : List Nat → Nat
  | [] => 0
  | b :: r => b + 256 * num r
theorem low_len : ∀ k x, (low k x).length = k
  | 0, _ => rfl
  | k + 1, x => by simp [low, low_len k]
theorem low_all : ∀ k x, AllB (low k x)
  | 0, _ => fun _ h => by simp [low] at h
  | k + 1, x => fun y h => by
    simp only [low, List.mem_cons] at h
    rcases h with rfl | h
    · omega
    · exact low_all k _ y h
theorem low_at : ∀ k x i, i < k → (low k x)[i]?.getD 0 = x / 2 ^ (8 * i) % 256
  | 0, _, _, h => by omega
  | k + 1, x, 0, _ => by simp [low]
  | k + 1, x, i + 1, h => by
    have e := low_at k (x / 256) i (by omega)
    show (low k (x / 256))[i]?.getD 0 = _
    rw [e, Nat.div_div_eq_div_mul]
    congr 2
    rw [show 8 * (i + 1) = 8 + 8 * i by omega, Nat.pow_add]
theorem low_zero : ∀ k, low k 0 = List.replicate k 0
  | 0 => rfl
  | k + 1 => by rw [low, low_zero k, List.replicate_succ]
theorem pow8 (k : Nat) : 2 ^ (8 * (k + 1)) = 256 * 2 ^ (8 * k) := by rw [show 8 * (k + 1) = 8 + 8 * k by omega, Nat.pow_add]
theorem num_lt : ∀ l, AllB l → num l < 2 ^ (8 * l.length)
  | [], _ => by decide
  | b :: r, h => by
    have h1 := h b (by simp)
    have h2 := num_lt r (fun x hx => h x (by simp [hx]))
    rw [List.length_cons, pow8]
    show b + 256 * num r < _
    omega
theorem num_low : ∀ k x, x < 2 ^ (8 * k) → num (low k x) = x
  | 0, x, h => by show 0 = x; simp at h; omega
  | k + 1, x, h => by
    rw [pow8] at h
    have e := num_low k (x / 256) (by omega)
    show x % 256 + 256 * num (low k (x / 256)) = x
    rw [e]; omega
theorem low_num : ∀ l, AllB l → low l.length (num l) = l
  | [], _ => rfl
  | b :: r, h => by
    have h1 := h b (by simp)
    have h2 := low_num r (fun x hx => h x (by simp [hx]))
    show (b + 256 * num r) % 256 :: low r.length ((b + 256 * num r) / 256) = _
    rw [show (b + 256 * num r) % 256 = b by omega, show (b + 256 * num r) / 256 = num r by omega, h2]
theorem num_snoc : ∀ l b, num (l ++ [b]) = num l + b * 2 ^ (8 * l.length)
  | [], b => by simp [num]
  | a :: r, b => by
    show a + 256 * num (r ++ [b]) = a + 256 * num r + _
    rw [num_snoc r b, List.length_cons, pow8, Nat.mul_left_comm]
    omega
theorem num_or (l : List Nat) (b : Nat) (h : AllB l) : num l ||| b * 2 ^ (8 * l.length) = num (l ++ [b]) := by
  rw [num_snoc, Nat.or_comm, Nat.mul_comm b, ← Nat.two_pow_add_eq_or_of_lt (num_lt l h)]
  omega
theorem low_inj {k x y : Nat} (hx : x < 2 ^ (8 * k)) (hy : y < 2 ^ (8 * k)) (h : low k x = low k y) : x = y := by
  rw [← num_low k x hx, ← num_low k y hy, h]
/-- One more byte of a number. -/
theorem low_snoc : ∀ k x, low (k + 1) x = low k x ++ [x / 2 ^ (8 * k) % 256]
  | 0, x => by simp [low]
  | k + 1, x => by
    show x % 256 :: low (k + 1) (x / 256) = x % 256 :: (low k (x / 256) ++ _)
    rw [low_snoc k, Nat.div_div_eq_div_mul, pow8]


theorem AllB.app {a b : List Nat} (h : AllB a) (k : AllB b) : AllB (a ++ b) := fun x hx => by
  rcases List.mem_append.1 hx with hx | hx
  · exact h x hx
  · exact k x hx
theorem AllB.drop {l : List Nat} (h : AllB l) (k : Nat) : AllB (l.drop k) := fun x hx => h x (List.mem_of_mem_drop hx)
/-- The greatest number. -/
abbrev mx : Nat := 4611686018427387904
/-- A slot's bytes ahead of its sum. -/
def headS (q : Nat) (b : List Nat) : List Nat := low 8 q ++ (low 4 b.length ++ b)
/-- A SLOT's BYTES. -/
def slotL (q : Nat) (b : List Nat) : List Nat := headS q b ++ low 4 (crcOf (headS q b))
theorem headS_len (q : Nat) (b : List Nat) : (headS q b).length = 12 + b.length := by
  unfold headS
  rw [List.length_append, List.length_append, low_len, low_len]
  omega
theorem slotL_len (q : Nat) (b : List Nat) : (slotL q b).length = 16 + b.length := by
  unfold slotL
  rw [List.length_append, headS_len, low_len]
  omega
theorem headS_all (q : Nat) {b : List Nat} (h : AllB b) : AllB (headS q b) := (low_all _ _).app ((low_all _ _).app h)
theorem slotL_all (q : Nat) {b : List Nat} (h : AllB b) : AllB (slotL q b) := (headS_all q h).app (low_all _ _)
/-- What bytes tell. -/
def seqS (s : List Nat) : Nat := num (s.take 8)
def longS (s : List Nat) : Nat := num ((s.drop 8).take 4)
def bodyS (s : List Nat) : List Nat := (s.drop 12).take (longS s)
/-- BYTES ARE A WHOLE SLOT. -/
abbrev Whole (s : List Nat) : Prop := 16 + longS s ≤ s.length ∧ seqS s ≤ mx ∧ longS s ≤ 4096 ∧ s.take (16 + longS s) = slotL (seqS s) (bodyS s)
theorem longS_lt {s : List Nat} (h : AllB s) : longS s < 4294967296 := by
  have h1 := num_lt _ ((h.drop 8).take 4)
  have h2 : 2 ^ (8 * ((s.drop 8).take 4).length) ≤ 2 ^ 32 := Nat.pow_le_pow_right (by decide) (by rw [List.length_take]; omega)
  unfold longS
  omega
theorem seqS_lt {s : List Nat} (h : AllB s) : seqS s < 18446744073709551616 := by
  have h1 := num_lt _ (h.take 8)
  have h2 : 2 ^ (8 * (s.take 8).length) ≤ 2 ^ 64 := Nat.pow_le_pow_right (by decide) (by rw [List.length_take]; omega)
  unfold seqS
  omega
theorem bodyS_len {s : List Nat} (h : 12 + longS s ≤ s.length) : (bodyS s).length = longS s := by
  unfold bodyS
  rw [List.length_take, List.length_drop]
  omega
theorem bodyS_all {s : List Nat} (h : AllB s) : AllB (bodyS s) := (h.drop 12).take _
theorem slot_seq {q : Nat} (b : List Nat) (hq : q ≤ mx) : seqS (slotL q b) = q := by
  unfold seqS slotL headS
  rw [List.append_assoc, List.take_left' (low_len 8 q), num_low 8 q (by unfold mx at hq; omega)]
theorem slot_drop8 (q : Nat) (b : List Nat) : (slotL q b).drop 8 = low 4 b.length ++ (b ++ low 4 (crcOf (headS q b))) := by
  have e : slotL q b = low 8 q ++ (low 4 b.length ++ (b ++ low 4 (crcOf (headS q b)))) := by
    unfold slotL
    generalize low 4 (crcOf (headS q b)) = Z
    unfold headS
    simp
  rw [e, List.drop_left' (low_len 8 q)]
theorem slot_long {q : Nat} {b : List Nat} (hb : b.length ≤ 4096) : longS (slotL q b) = b.length := by
  unfold longS
  rw [slot_drop8, List.take_left' (low_len 4 _), num_low 4 _ (by omega)]
theorem slot_body {q : Nat} {b : List Nat} (hb : b.length ≤ 4096) : bodyS (slotL q b) = b := by
  unfold bodyS
  rw [slot_long hb, show 12 = 8 + 4 from rfl, ← List.drop_drop, slot_drop8, List.drop_left' (low_len 4 _), List.take_left]
/-- WHAT IS PUT IS WHOLE. -/
theorem slot_whole {q : Nat} {b : List Nat} (hq : q ≤ mx) (hb : b.length ≤ 4096) : Whole (slotL q b) := by
  refine ⟨?_, ?_, ?_, ?_⟩
  · rw [slot_long hb, slotL_len]; omega
  · rw [slot_seq b hq]; exact hq
  · rw [slot_long hb]; exact hb
  · rw [slot_long hb, slot_seq b hq, slot_body hb, List.take_of_length_le (by rw [slotL_len]; omega)]
/-- .. AND NO BEGINNING OF IT IS. -/
theorem slot_cut {q : Nat} {b : List Nat} {c : Nat} (hb : b.length ≤ 4096) (hc : c < 16 + b.length) : ¬ Whole ((slotL q b).take c) := by
  rintro ⟨h, _⟩
  rw [List.length_take, slotL_len] at h
  by_cases h12 : 12 ≤ c
  · have e : longS ((slotL q b).take c) = b.length := by
      rw [← slot_long (q := q) hb]
      unfold longS
      rw [List.drop_take, List.take_take, Nat.min_eq_left (by omega)]
    omega
  · omega
/-- WHICH OF TWO IS TOLD. -/
def sel (s t : List Nat) : Option (Nat × List Nat) :=
  if Whole t ∧ (¬ Whole s ∨ seqS s < seqS t) then some (1, t) else if Whole s then some (0, s) else none
theorem sel_two {s t : List Nat} (h : Whole t) (h2 : ¬ Whole s ∨ seqS s < seqS t) : sel s t = some (1, t) := by unfold sel; rw [if_pos ⟨h, h2⟩]
theorem sel_one {s t : List Nat} (h : Whole s) (h2 : ¬ (Whole t ∧ seqS s < seqS t)) : sel s t = some (0, s) := by
  unfold sel
  rw [if_neg, if_pos h]
  rintro ⟨h3, h4 | h4⟩
  · exact h4 h
  · exact h2 ⟨h3, h4⟩
theorem sel_none {s t : List Nat} (h : ¬ Whole s) (h2 : ¬ Whole t) : sel s t = none := by unfold sel; rw [if_neg (fun e => h2 e.1), if_neg h]
/-- What it says of the two. -/
structure SelF (s t : List Nat) (k : Nat) (X : List Nat) : Prop where
  whole : Whole X
  cases : (k = 1 ∧ X = t ∧ (¬ Whole s ∨ seqS s < seqS t)) ∨ (k = 0 ∧ X = s ∧ ¬ (Whole t ∧ seqS s < seqS t))
theorem sel_some {s t : List Nat} {k : Nat} {X : List Nat} (h : sel s t = some (k, X)) : SelF s t k X := by
  unfold sel at h
  split at h
  · next h1 => cases h; exact ⟨h1.1, Or.inl ⟨rfl, rfl, h1.2⟩⟩
  · next h1 =>
    split at h
    · next h2 => cases h; exact ⟨h2, Or.inr ⟨rfl, rfl, fun e => h1 ⟨e.1, Or.inr e.2⟩⟩⟩
    · cases h
theorem sel_no {s t : List Nat} (h : sel s t = none) : ¬ Whole s ∧ ¬ Whole t := by
  unfold sel at h
  split at h
  · cases h
  · next h1 =>
    split at h
    · cases h
    · next h2 => exact ⟨h2, fun e => h1 ⟨e, Or.inl h2⟩⟩
/-- Which is written next. -/
def nextF (s t : List Nat) : Nat := match sel s t with
  | none => 0
  | some (k, _) => 1 - k
theorem nextF_none {s t : List Nat} (h : sel s t = none) : nextF s t = 0 := by unfold nextF; rw [h]
theorem nextF_some {s t : List Nat} {k : Nat} {X : List Nat} (h : sel s t = some (k, X)) : nextF s t = 1 - k := by unfold nextF; rw [h]
/-- THE OTHER WAY ROUND. -/
theorem sel_swap_none {s t : List Nat} (h : sel s t = none) : sel t s = none := by obtain ⟨h1, h2⟩ := sel_no h; exact sel_none h2 h1
theorem sel_swap {s t : List Nat} {k j : Nat} {X Y : List Nat} (h : sel s t = some (k, X)) (h2 : sel t s = some (j, Y)) : seqS X = seqS Y ∧ (k = j → k = 0) ∧ (k ≠ j → X = Y) := by
  obtain ⟨hw, ⟨rfl, rfl, hc⟩ | ⟨rfl, rfl, hc⟩⟩ := sel_some h
  · obtain ⟨hw2, ⟨rfl, rfl, hc2⟩ | ⟨rfl, rfl, hc2⟩⟩ := sel_some h2
    · rcases hc with h3 | h3
      · exact absurd hw2 h3
      · rcases hc2 with h4 | h4
        · exact absurd hw h4
        · omega
    · exact ⟨rfl, fun e => by omega, fun _ => rfl⟩
  · obtain ⟨hw2, ⟨rfl, rfl, hc2⟩ | ⟨rfl, rfl, hc2⟩⟩ := sel_some h2
    · exact ⟨rfl, fun e => by omega, fun _ => rfl⟩
    · refine ⟨?_, fun _ => rfl, fun e => absurd rfl e⟩
      have h5 : ¬ seqS X < seqS Y := fun e => hc ⟨hw2, e⟩
      have h6 : ¬ seqS Y < seqS X := fun e => hc2 ⟨hw, e⟩
      omega
/-- WHAT IS WRITTEN WHERE NEXT TELLS. -/
def putAt (n : Nat) (z s t : List Nat) : Option (Nat × List Nat) := if n = 0 then sel z t else sel s z
theorem put_whole_none {s t z : List Nat} (h : sel s t = none) (hz : Whole z) : sel z t = some (0, z) := by
  obtain ⟨h1, h2⟩ := sel_no h
  exact sel_one hz (fun e => h2 e.1)
theorem put_cut_none {s t z : List Nat} (h : sel s t = none) (hz : ¬ Whole z) : sel z t = none := by
  obtain ⟨h1, h2⟩ := sel_no h
  exact sel_none hz h2
theorem put_whole {s t z X : List Nat} {k : Nat} (h : sel s t = some (k, X)) (hz : Whole z) (hq : seqS X < seqS z) : (k = 1 ∧ sel z t = some (0, z)) ∨ (k = 0 ∧ sel s z = some (1, z)) := by
  obtain ⟨hw, ⟨rfl, rfl, hc⟩ | ⟨rfl, rfl, hc⟩⟩ := sel_some h
  · exact Or.inl ⟨rfl, sel_one hz (fun e => by omega)⟩
  · exact Or.inr ⟨rfl, sel_two hz (Or.inr hq)⟩
theorem put_cut {s t z X : List Nat} {k : Nat} (h : sel s t = some (k, X)) (hz : ¬ Whole z) : (k = 1 ∧ sel z t = some (1, X)) ∨ (k = 0 ∧ sel s z = some (0, X)) := by
  obtain ⟨hw, ⟨rfl, rfl, hc⟩ | ⟨rfl, rfl, hc⟩⟩ := sel_some h
  · exact Or.inl ⟨rfl, sel_two hw (Or.inl hz)⟩
  · exact Or.inr ⟨rfl, sel_one hw (fun e => hz e.1)⟩
end Go.Proofs.YtbajdgadljdnkaeDoor

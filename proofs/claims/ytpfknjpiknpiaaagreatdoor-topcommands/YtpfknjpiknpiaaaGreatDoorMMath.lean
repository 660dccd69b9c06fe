/- Part of the proof. -/
namespace Go.Proofs.YtpfknjpiknpiaaaGreatDoorM
def crcT (x : Nat) : Nat := if x % 2 = 1 then (x / 2) ^^^ 3988292384 else x / 2
def crcN : Nat → Nat → Nat
  | 0, x => x
  | n + 1, x => crcT (crcN n x)
def crcB (s b : Nat) : Nat := crcN 8 (s ^^^ b)
def crcL (s : Nat) (l : List Nat) : Nat := l.foldl crcB s
def crcOf (l : List Nat) : Nat := 4294967295 ^^^ crcL 4294967295 l
theorem crcT_lt {x : Nat} (h : x < 4294967296) : crcT x < 4294967296 := by
  unfold crcT
  split
  · exact Nat.xor_lt_two_pow (n := 32) (by omega) (by decide)
  · omega
theorem crcN_lt {x : Nat} (h : x < 4294967296) : ∀ n, crcN n x < 4294967296
  | 0 => h
  | n + 1 => crcT_lt (crcN_lt h n)
theorem xor32 {a b : Nat} (ha : a < 4294967296) (hb : b < 4294967296) : a ^^^ b < 4294967296 := Nat.xor_lt_two_pow (n := 32) ha hb
theorem crcB_lt {s b : Nat} (h : s < 4294967296) (hb : b < 4294967296) : crcB s b < 4294967296 := crcN_lt (xor32 h hb) 8
def AllB (l : List Nat) : Prop := ∀ x ∈ l, x < 256
theorem crcL_lt {s : Nat} (hs : s < 4294967296) : ∀ l : List Nat, AllB l → crcL s l < 4294967296 := by
  intro l
  induction l generalizing s with
  | nil => intro _; exact hs
  | cons b r ih => intro h; exact ih (crcB_lt hs (by have := h b (by simp); omega)) (fun x hx => h x (by simp [hx]))
theorem crcL_snoc (s : Nat) (l : List Nat) (b : Nat) : crcL s (l ++ [b]) = crcB (crcL s l) b := by simp [crcL, List.foldl_append]
theorem AllB.take {l : List Nat} (h : AllB l) (k : Nat) : AllB (l.take k) := fun x hx => h x (List.mem_of_mem_take hx)
theorem AllB.at {l : List Nat} (h : AllB l) (k : Nat) : l[k]?.getD 0 < 256 := by
  by_cases hk : k < l.length
  · rw [List.getElem?_eq_getElem hk]; exact h _ (List.getElem_mem _)
  · rw [List.getElem?_eq_none (by omega)]; decide
theorem take_snocN (l : List Nat) (k : Nat) (h : k < l.length) : l.take (k + 1) = l.take k ++ [l[k]?.getD 0] := by
  rw [List.take_succ_eq_append_getElem h, List.getElem?_eq_getElem h]; rfl
theorem crcOf_lt {l : List Nat} (h : AllB l) : crcOf l < 4294967296 := xor32 (by decide) (crcL_lt (by decide) l h)
def low : Nat → Nat → List Nat
  | 0, _ => []
  | k + 1, x => x % 256 :: low k (x / 256)
def num : List Nat → Nat
  | [] => 0
  | b :: r => b + 256 * num r
theorem low_len : ∀ k x, (low k x).length = k
  | 0, _ => rfl
  | k + 1, x => by simp [low, low_len k]
theorem low_all : ∀ k x, AllB (low k x)
  | 0, _ => fun _ h => by simp [low] at h
  | k + 1, x => fun y h => by
    simp only [low, List.mem_cons] at h
    rcases h with rfl | h
    · omega
    · exact low_all k _ y h
theorem low_zero : ∀ k, low k 0 = List.replicate k 0
  | 0 => rfl
  | k + 1 => by rw [low, low_zero k, List.replicate_succ]
theorem pow8 (k : Nat) : 2 ^ (8 * (k + 1)) = 256 * 2 ^ (8 * k) := by rw [show 8 * (k + 1) = 8 + 8 * k by omega, Nat.pow_add]
theorem num_lt : ∀ l, AllB l → num l < 2 ^ (8 * l.length)
  | [], _ => by decide
  | b :: r, h => by
    have h1 := h b (by simp)
    have h2 := num_lt r (fun x hx => h x (by simp [hx]))
    rw [List.length_cons, pow8]
    show b + 256 * num r < _
    omega
theorem num_snoc : ∀ l b, num (l ++ [b]) = num l + b * 2 ^ (8 * l.length)
  | [], b => by simp [num]
  | a :: r, b => by
    show a + 256 * num (r ++ [b]) = a + 256 * num r + _
    rw [num_snoc r b, List.length_cons, pow8, Nat.mul_left_comm]
    omega
theorem num_or (l : List Nat) (b : Nat) (h : AllB l) : num l ||| b * 2 ^ (8 * l.length) = num (l ++ [b]) := by
  rw [num_snoc, Nat.or_comm, Nat.mul_comm b, ← Nat.two_pow_add_eq_or_of_lt (num_lt l h)]
  omega
theorem low_snoc : ∀ k x, low (k + 1) x = low k x ++ [x / 2 ^ (8 * k) % 256]
  | 0, x => by simp [low]
  | k + 1, x => by
    show x % 256 :: low (k + 1) (x / 256) = x % 256 :: (low k (x / 256) ++ _)
    rw [low_snoc k, Nat.div_div_eq_div_mul, pow8]
def headL (kind lba seq len : Nat) : List Nat := [165, kind] ++ (low 4 lba ++ (low 8 seq ++ low 2 len))
def restL (n : Nat) (data : List Nat) : List Nat := data ++ (List.replicate (n - 21 - data.length) 0 ++ [90])
def bodyL (n sum kind lba seq : Nat) (data : List Nat) : List Nat := headL kind lba seq data.length ++ (low 4 sum ++ restL n data)
def packL (n kind lba seq : Nat) (data : List Nat) : List Nat := bodyL n (crcOf (bodyL n 0 kind lba seq data)) kind lba seq data
structure FOk (n kind lba seq len : Nat) : Prop where
  n0 : 24 ≤ n
  n1 : n ≤ 4096
  k0 : 1 ≤ kind
  k1 : kind ≤ 3
  l1 : lba ≤ 4294967295
  s1 : seq ≤ 4611686018427387904
  d1 : len + 21 ≤ n
theorem headL_len (kind lba seq len : Nat) : (headL kind lba seq len).length = 16 := by simp [headL, low_len]
theorem restL_len (n : Nat) (data : List Nat) (h : data.length + 21 ≤ n) : (restL n data).length = n - 20 := by simp [restL]; omega
theorem bodyL_len (n sum kind lba seq : Nat) (data : List Nat) (h : data.length + 21 ≤ n) : (bodyL n sum kind lba seq data).length = n := by
  unfold bodyL
  rw [List.length_append, List.length_append, headL_len, low_len, restL_len n data h]
  omega
theorem packL_len (n kind lba seq : Nat) (data : List Nat) (h : data.length + 21 ≤ n) : (packL n kind lba seq data).length = n := bodyL_len n _ kind lba seq data h
theorem AllB.app {a b : List Nat} (ha : AllB a) (hb : AllB b) : AllB (a ++ b) := fun x hx => by
  rcases List.mem_append.1 hx with h | h
  · exact ha x h
  · exact hb x h
theorem bodyL_all (n sum kind lba seq : Nat) (data : List Nat) (hk : kind < 256) (hd : AllB data) : AllB (bodyL n sum kind lba seq data) := by
  unfold bodyL headL restL
  refine AllB.app (AllB.app (fun x hx => ?_) (AllB.app (low_all _ _) (AllB.app (low_all _ _) (low_all _ _)))) (AllB.app (low_all _ _) (AllB.app hd (AllB.app (fun x hx => ?_) (fun x hx => ?_))))
  · simp at hx; omega
  · simp at hx; omega
  · simp at hx; omega
theorem packL_all (n kind lba seq : Nat) (data : List Nat) (hk : kind < 256) (hd : AllB data) : AllB (packL n kind lba seq data) := bodyL_all n _ kind lba seq data hk hd
def cutL (p : List Nat) (a k : Nat) : List Nat := (p.drop a).take k
def kindP (p : List Nat) : Nat := p[1]?.getD 0
def lbaP (p : List Nat) : Nat := num (cutL p 2 4)
def seqP (p : List Nat) : Nat := num (cutL p 6 8)
def longP (p : List Nat) : Nat := num (cutL p 14 2)
def dataP (p : List Nat) : List Nat := cutL p 20 (longP p)
def ValidP (p : List Nat) : Prop := FOk p.length (kindP p) (lbaP p) (seqP p) (longP p) ∧ packL p.length (kindP p) (lbaP p) (seqP p) (dataP p) = p
def ErasedP (p : List Nat) : Prop := 0 < p.length ∧ ∀ i, i < p.length → p[i]?.getD 0 = 255
theorem dataP_len {p : List Nat} (h : longP p + 21 ≤ p.length) : (dataP p).length = longP p := by
  unfold dataP cutL
  rw [List.length_take, List.length_drop]
  omega
def erasedB (p : List Nat) : Bool := p.length != 0 && p.all (· == 255)
theorem erasedB_iff (p : List Nat) : erasedB p = true ↔ ErasedP p := by
  unfold erasedB ErasedP
  simp only [Bool.and_eq_true, bne_iff_ne, ne_eq, List.all_eq_true, beq_iff_eq]
  constructor
  · rintro ⟨h1, h2⟩
    refine ⟨by omega, fun i hi => ?_⟩
    rw [List.getElem?_eq_getElem hi]
    exact h2 _ (List.getElem_mem hi)
  · rintro ⟨h1, h2⟩
    refine ⟨by omega, fun x hx => ?_⟩
    obtain ⟨i, hi, rfl⟩ := List.mem_iff_getElem.1 hx
    have := h2 i hi
    rw [List.getElem?_eq_getElem hi] at this
    exact this
def validB (p : List Nat) : Bool := decide (24 ≤ p.length) && decide (p.length ≤ 4096) && decide (1 ≤ kindP p) && decide (kindP p ≤ 3) && decide (lbaP p ≤ 4294967295) && decide (seqP p ≤ 4611686018427387904) && decide (longP p + 21 ≤ p.length) && decide (packL p.length (kindP p) (lbaP p) (seqP p) (dataP p) = p)
theorem validB_iff (p : List Nat) : validB p = true ↔ ValidP p := by
  unfold validB ValidP
  simp only [Bool.and_eq_true, decide_eq_true_eq]
  constructor
  · rintro ⟨⟨⟨⟨⟨⟨⟨a, b⟩, c⟩, d⟩, e⟩, f⟩, g⟩, h⟩
    exact ⟨⟨a, b, c, d, e, f, g⟩, h⟩
  · rintro ⟨⟨a, b, c, d, e, f, g⟩, h⟩
    exact ⟨⟨⟨⟨⟨⟨⟨a, b⟩, c⟩, d⟩, e⟩, f⟩, g⟩, h⟩
def stP (p : List Nat) : Nat := if erasedB p then 1 else if validB p then 2 else 3
def tellB (p : List Nat) : Bool := !erasedB p && validB p
def kdP (p : List Nat) : Nat := if tellB p then kindP p else 0
def lbP (p : List Nat) : Nat := if tellB p then lbaP p else 0
def sqP (p : List Nat) : Nat := if tellB p then seqP p else 0
theorem tell_erased {p : List Nat} (h : ErasedP p) : stP p = 1 ∧ kdP p = 0 ∧ lbP p = 0 ∧ sqP p = 0 := by
  have e := (erasedB_iff p).2 h
  simp [stP, kdP, lbP, sqP, tellB, e]
theorem tell_valid {p : List Nat} (h : ¬ ErasedP p) (hv : ValidP p) : stP p = 2 ∧ kdP p = kindP p ∧ lbP p = lbaP p ∧ sqP p = seqP p := by
  have e : erasedB p = false := by cases hb : erasedB p with | false => rfl | true => exact absurd ((erasedB_iff p).1 hb) h
  have v := (validB_iff p).2 hv
  simp [stP, kdP, lbP, sqP, tellB, e, v]
theorem tell_broken {p : List Nat} (h : ¬ ErasedP p) (hv : ¬ ValidP p) : stP p = 3 ∧ kdP p = 0 ∧ lbP p = 0 ∧ sqP p = 0 := by
  have e : erasedB p = false := by cases hb : erasedB p with | false => rfl | true => exact absurd ((erasedB_iff p).1 hb) h
  have v : validB p = false := by cases hb : validB p with | false => rfl | true => exact absurd ((validB_iff p).1 hb) hv
  simp [stP, kdP, lbP, sqP, tellB, e, v]
end Go.Proofs.YtpfknjpiknpiaaaGreatDoorM

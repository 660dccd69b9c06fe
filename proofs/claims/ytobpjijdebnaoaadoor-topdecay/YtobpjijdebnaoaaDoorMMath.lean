/- Part of the proof. -/
namespace Go.Proofs.YtobpjijdebnaoaaDoorM
/-- One bit's step. -/
def crcT (x : Nat) : Nat := if x % 2 = 1 then (x / 2) ^^^ 3988292384 else x / 2
/-- So many steps. -/
def crcN : Nat → Nat → Nat
  | 0, x => x
  | n + 1, x => crcT (crcN n x)
/-- One byte's step. -/
def crcB (s b : Nat) : Nat := crcN 8 (s ^^^ b)
/-- A list's. -/
def crcL (s : Nat) (l : List Nat) : Nat := l.foldl crcB s
def crcOf (l : List Nat) : Nat := 4294967295 ^^^ crcL 4294967295 l
theorem crcT_lt {x : Nat} (h : x < 4294967296) : crcT x < 4294967296 := by
  unfold crcT
  split
  · exact Nat.xor_lt_two_pow (n := 32) (by omega) (by decide)
  · omega
theorem crcN_lt {x : Nat} (h : x < 4294967296) : ∀ n, crcN n x < 4294967296
  | 0 => h
  | n + 1 => crcT_lt (crcN_lt h n)
theorem xor32 {a b : Nat} (ha : a < 4294967296) (hb : b < 4294967296) : a ^^^ b < 4294967296 := Nat.xor_lt_two_pow (n := 32) ha hb
theorem crcB_lt {s b : Nat} (h : s < 4294967296) (hb : b < 4294967296) : crcB s b < 4294967296 := crcN_lt (xor32 h hb) 8
theorem xor_div2 (a b : Nat) : (a ^^^ b) / 2 = a / 2 ^^^ b / 2 := by
  apply Nat.eq_of_testBit_eq
  intro i
  simp [Nat.testBit_div_two, Nat.testBit_xor]
theorem xor_mod2 (a b : Nat) : (a ^^^ b) % 2 = (a % 2 + b % 2) % 2 := by
  have h := Nat.xor_mod_two_pow (a := a) (b := b) (n := 1)
  rw [Nat.pow_one] at h
  rw [h]
  rcases Nat.mod_two_eq_zero_or_one a with ha | ha <;> rcases Nat.mod_two_eq_zero_or_one b with hb | hb <;> rw [ha, hb] <;> rfl
theorem crcT_xor (a b : Nat) : crcT (a ^^^ b) = crcT a ^^^ crcT b := by
  unfold crcT
  rw [xor_mod2, xor_div2]
  rcases Nat.mod_two_eq_zero_or_one a with ha | ha <;> rcases Nat.mod_two_eq_zero_or_one b with hb | hb <;> simp [ha, hb]
  · rw [Nat.xor_assoc]
  · rw [Nat.xor_assoc, Nat.xor_comm (b / 2), Nat.xor_assoc]
  · rw [Nat.xor_assoc, ← Nat.xor_assoc 3988292384, Nat.xor_comm 3988292384 (b / 2), Nat.xor_assoc, Nat.xor_self, Nat.xor_zero]
theorem crcN_xor (a b : Nat) : ∀ n, crcN n (a ^^^ b) = crcN n a ^^^ crcN n b
  | 0 => rfl
  | n + 1 => by simp only [crcN]; rw [crcN_xor a b n, crcT_xor]
theorem xor_eq_zero {a b : Nat} (h : a ^^^ b = 0) : a = b := by
  have h2 : a ^^^ b ^^^ b = 0 ^^^ b := by rw [h]
  rw [Nat.xor_assoc, Nat.xor_self, Nat.xor_zero, Nat.zero_xor] at h2
  exact h2
theorem crcT_zero {x : Nat} (h : x < 4294967296) (h0 : crcT x = 0) : x = 0 := by
  unfold crcT at h0
  split at h0
  · have := xor_eq_zero h0; omega
  · omega
theorem crcN_zero {x : Nat} (h : x < 4294967296) : ∀ n, crcN n x = 0 → x = 0
  | 0, h0 => h0
  | n + 1, h0 => crcN_zero h n (crcT_zero (crcN_lt h n) h0)
theorem crcN_inj {a b : Nat} (ha : a < 4294967296) (hb : b < 4294967296) (n : Nat) (h : crcN n a = crcN n b) : a = b := by
  apply xor_eq_zero
  apply crcN_zero (xor32 ha hb) n
  rw [crcN_xor, h, Nat.xor_self]
theorem crcB_inj {s t a b : Nat} (hs : s < 4294967296) (ht : t < 4294967296) (ha : a < 256) (hb : b < 256) (h : crcB s a = crcB t b) : s ^^^ a = t ^^^ b :=
  crcN_inj (xor32 hs (by omega)) (xor32 ht (by omega)) 8 h
/-- Bytes. -/
def AllB (l : List Nat) : Prop := ∀ x ∈ l, x < 256
theorem crcL_lt {s : Nat} (hs : s < 4294967296) : ∀ l : List Nat, AllB l → crcL s l < 4294967296 := by
  intro l
  induction l generalizing s with
  | nil => intro _; exact hs
  | cons b r ih => intro h; exact ih (crcB_lt hs (by have := h b (by simp); omega)) (fun x hx => h x (by simp [hx]))
theorem crcL_snoc (s : Nat) (l : List Nat) (b : Nat) : crcL s (l ++ [b]) = crcB (crcL s l) b := by simp [crcL, List.foldl_append]
theorem AllB.take {l : List Nat} (h : AllB l) (k : Nat) : AllB (l.take k) := fun x hx => h x (List.mem_of_mem_take hx)
theorem AllB.at {l : List Nat} (h : AllB l) (k : Nat) : l[k]?.getD 0 < 256 := by
  by_cases hk : k < l.length
  · rw [List.getElem?_eq_getElem hk]; exact h _ (List.getElem_mem _)
  · rw [List.getElem?_eq_none (by omega)]; decide
theorem take_snocN (l : List Nat) (k : Nat) (h : k < l.length) : l.take (k + 1) = l.take k ++ [l[k]?.getD 0] := by
  rw [List.take_succ_eq_append_getElem h, List.getElem?_eq_getElem h]; rfl
/-- Three states that are the sum of three. -/
theorem crcB_three (s t u a b c : Nat) : crcB (s ^^^ t ^^^ u) (a ^^^ b ^^^ c) = crcB s a ^^^ crcB t b ^^^ crcB u c := by
  unfold crcB
  rw [← crcN_xor, ← crcN_xor]
  congr 1
  apply Nat.eq_of_testBit_eq
  intro i
  simp only [Nat.testBit_xor]
  cases s.testBit i <;> cases t.testBit i <;> cases u.testBit i <;> cases a.testBit i <;> cases b.testBit i <;> cases c.testBit i <;> rfl
/-- The exclusive or of three lists, as far as all reach. -/
def xor3 : List Nat → List Nat → List Nat → List Nat
  | a :: x, b :: y, c :: z => (a ^^^ b ^^^ c) :: xor3 x y z
  | _, _, _ => []
theorem crcL_three : ∀ (x y z : List Nat) (s t u : Nat), x.length = y.length → y.length = z.length → crcL (s ^^^ t ^^^ u) (xor3 x y z) = crcL s x ^^^ crcL t y ^^^ crcL u z
  | [], [], [], _, _, _, _, _ => rfl
  | a :: x, b :: y, c :: z, s, t, u, h1, h2 => by
    have ih := crcL_three x y z (crcB s a) (crcB t b) (crcB u c) (by simpa using h1) (by simpa using h2)
    show crcL (crcB (s ^^^ t ^^^ u) (a ^^^ b ^^^ c)) (xor3 x y z) = _
    rw [crcB_three]
    exact ih
theorem crcOf_three (x y z : List Nat) (h1 : x.length = y.length) (h2 : y.length = z.length) : crcOf (xor3 x y z) = crcOf x ^^^ crcOf y ^^^ crcOf z := by
  have h := crcL_three x y z 4294967295 4294967295 4294967295 h1 h2
  rw [Nat.xor_self, Nat.zero_xor] at h
  unfold crcOf
  rw [h]
  apply Nat.eq_of_testBit_eq
  intro i
  simp only [Nat.testBit_xor]
  cases (4294967295 : Nat).testBit i <;> cases (crcL 4294967295 x).testBit i <;> cases (crcL 4294967295 y).testBit i <;> cases (crcL 4294967295 z).testBit i <;> rfl
theorem crcL_inj : ∀ (l : List Nat) (s t : Nat), s < 4294967296 → t < 4294967296 → AllB l → crcL s l = crcL t l → s = t
  | [], _, _, _, _, _, h => h
  | b :: r, s, t, hs, ht, hl, h => by
    have hb := hl b (by simp)
    have e := crcL_inj r (crcB s b) (crcB t b) (crcB_lt hs (by omega)) (crcB_lt ht (by omega)) (fun x hx => hl x (by simp [hx])) h
    have e2 := crcB_inj hs ht hb hb e
    have e3 : s ^^^ b ^^^ b = t ^^^ b ^^^ b := by rw [e2]
    rwa [Nat.xor_assoc, Nat.xor_assoc, Nat.xor_self, Nat.xor_zero, Nat.xor_zero] at e3
/-- One byte that is another one is told. -/
theorem crcL_set : ∀ (l : List Nat) (s k v : Nat), s < 4294967296 → AllB l → v < 256 → k < l.length → v ≠ l[k]?.getD 0 → crcL s (l.set k v) ≠ crcL s l
  | [], _, _, _, _, _, _, hk, _ => by simp at hk
  | b :: r, s, 0, v, hs, hl, hv, _, hne => by
    intro h
    have hb := hl b (by simp)
    have h' : crcL (crcB s v) r = crcL (crcB s b) r := h
    have e := crcL_inj r _ _ (crcB_lt hs (by omega)) (crcB_lt hs (by omega)) (fun x hx => hl x (by simp [hx])) h'
    have e2 := crcB_inj hs hs hv hb e
    apply hne
    show v = b
    have e3 : s ^^^ (s ^^^ v) = s ^^^ (s ^^^ b) := by rw [e2]
    rwa [← Nat.xor_assoc, ← Nat.xor_assoc, Nat.xor_self, Nat.zero_xor, Nat.zero_xor] at e3
  | b :: r, s, k + 1, v, hs, hl, hv, hk, hne => by
    have hb := hl b (by simp)
    exact crcL_set r (crcB s b) k v (crcB_lt hs (by omega)) (fun x hx => hl x (by simp [hx])) hv (by simpa using hk) (by simpa using hne)
theorem crcOf_set (l : List Nat) (k v : Nat) (hl : AllB l) (hv : v < 256) (hk : k < l.length) (hne : v ≠ l[k]?.getD 0) : crcOf (l.set k v) ≠ crcOf l := by
  intro h
  apply crcL_set l 4294967295 k v (by decide) hl hv hk hne
  unfold crcOf at h
  have e3 : 4294967295 ^^^ (4294967295 ^^^ crcL 4294967295 (l.set k v)) = 4294967295 ^^^ (4294967295 ^^^ crcL 4294967295 l) := by rw [h]
  rwa [← Nat.xor_assoc, ← Nat.xor_assoc, Nat.xor_self, Nat.zero_xor, Nat.zero_xor] at e3
theorem crcOf_lt {l : List Nat} (h : AllB l) : crcOf l < 4294967296 := xor32 (by decide) (crcL_lt (by decide) l h)
/-- A number's lowest k bytes, the lowest first. -/
def low : Nat → Nat → List Nat
  | 0, _ => []
  | k + 1, x => x % 256 :: low k (x / 256)
/-- The number of such bytes. -/
def num : List Nat → Nat
  | [] => 0
  | b :: r => b + 256 * num r
theorem low_len : ∀ k x, (low k x).length = k
  | 0, _ => rfl
  | k + 1, x => by simp [low, low_len k]
theorem low_all : ∀ k x, AllB (low k x)
  | 0, _ => fun _ h => by simp [low] at h
  | k + 1, x => fun y h => by
    simp only [low, List.mem_cons] at h
    rcases h with rfl | h
    · omega
    · exact low_all k _ y h
theorem low_at : ∀ k x i, i < k → (low k x)[i]?.getD 0 = x / 2 ^ (8 * i) % 256
  | 0, _, _, h => by omega
  | k + 1, x, 0, _ => by simp [low]
  | k + 1, x, i + 1, h => by
    have e := low_at k (x / 256) i (by omega)
    show (low k (x / 256))[i]?.getD 0 = _
    rw [e, Nat.div_div_eq_div_mul]
    congr 2
    rw [show 8 * (i + 1) = 8 + 8 * i by omega, Nat.pow_add]
theorem low_zero : ∀ k, low k 0 = List.replicate k 0
  | 0 => rfl
  | k + 1 => by rw [low, low_zero k, List.replicate_succ]
theorem pow8 (k : Nat) : 2 ^ (8 * (k + 1)) = 256 * 2 ^ (8 * k) := by rw [show 8 * (k + 1) = 8 + 8 * k by omega, Nat.pow_add]
theorem num_lt : ∀ l, AllB l → num l < 2 ^ (8 * l.length)
  | [], _ => by decide
  | b :: r, h => by
    have h1 := h b (by simp)
    have h2 := num_lt r (fun x hx => h x (by simp [hx]))
    rw [List.length_cons, pow8]
    show b + 256 * num r < _
    omega
theorem num_low : ∀ k x, x < 2 ^ (8 * k) → num (low k x) = x
  | 0, x, h => by show 0 = x; simp at h; omega
  | k + 1, x, h => by
    rw [pow8] at h
    have e := num_low k (x / 256) (by omega)
    show x % 256 + 256 * num (low k (x / 256)) = x
    rw [e]; omega
theorem low_num : ∀ l, AllB l → low l.length (num l) = l
  | [], _ => rfl
  | b :: r, h => by
    have h1 := h b (by simp)
    have h2 := low_num r (fun x hx => h x (by simp [hx]))
    show (b + 256 * num r) % 256 :: low r.length ((b + 256 * num r) / 256) = _
    rw [show (b + 256 * num r) % 256 = b by omega, show (b + 256 * num r) / 256 = num r by omega, h2]
theorem num_snoc : ∀ l b, num (l ++ [b]) = num l + b * 2 ^ (8 * l.length)
  | [], b => by simp [num]
  | a :: r, b => by
    show a + 256 * num (r ++ [b]) = a + 256 * num r + _
    rw [num_snoc r b, List.length_cons, pow8, Nat.mul_left_comm]
    omega
theorem num_or (l : List Nat) (b : Nat) (h : AllB l) : num l ||| b * 2 ^ (8 * l.length) = num (l ++ [b]) := by
  rw [num_snoc, Nat.or_comm, Nat.mul_comm b, ← Nat.two_pow_add_eq_or_of_lt (num_lt l h)]
  omega
theorem low_inj {k x y : Nat} (hx : x < 2 ^ (8 * k)) (hy : y < 2 ^ (8 * k)) (h : low k x = low k y) : x = y := by
  rw [← num_low k x hx, ← num_low k y hy, h]
/-- One more byte of a number. -/
theorem low_snoc : ∀ k x, low (k + 1) x = low k x ++ [x / 2 ^ (8 * k) % 256]
  | 0, x => by simp [low]
  | k + 1, x => by
    show x % 256 :: low (k + 1) (x / 256) = x % 256 :: (low k (x / 256) ++ _)
    rw [low_snoc k, Nat.div_div_eq_div_mul, pow8]
/-- A page's first sixteen bytes. -/
def headL (kind lba seq len : Nat) : List Nat := [165, kind] ++ (low 4 lba ++ (low 8 seq ++ low 2 len))
/-- .. its bytes from 20 on. -/
def restL (n : Nat) (data : List Nat) : List Nat := data ++ (List.replicate (n - 21 - data.length) 0 ++ [90])
/-- .. with that sum. -/
def bodyL (n sum kind lba seq : Nat) (data : List Nat) : List Nat := headL kind lba seq data.length ++ (low 4 sum ++ restL n data)
/-- THE PAGE of a frame. -/
def packL (n kind lba seq : Nat) (data : List Nat) : List Nat := bodyL n (crcOf (bodyL n 0 kind lba seq data)) kind lba seq data
/-- A frame that may be. -/
structure FOk (n kind lba seq len : Nat) : Prop where
  n0 : 24 ≤ n
  n1 : n ≤ 4096
  k0 : 1 ≤ kind
  k1 : kind ≤ 3
  l1 : lba ≤ 4294967295
  s1 : seq ≤ 4611686018427387904
  d1 : len + 21 ≤ n
theorem headL_len (kind lba seq len : Nat) : (headL kind lba seq len).length = 16 := by simp [headL, low_len]
theorem restL_len (n : Nat) (data : List Nat) (h : data.length + 21 ≤ n) : (restL n data).length = n - 20 := by simp [restL]; omega
theorem bodyL_len (n sum kind lba seq : Nat) (data : List Nat) (h : data.length + 21 ≤ n) : (bodyL n sum kind lba seq data).length = n := by
  unfold bodyL
  rw [List.length_append, List.length_append, headL_len, low_len, restL_len n data h]
  omega
theorem packL_len (n kind lba seq : Nat) (data : List Nat) (h : data.length + 21 ≤ n) : (packL n kind lba seq data).length = n := bodyL_len n _ kind lba seq data h
theorem AllB.app {a b : List Nat} (ha : AllB a) (hb : AllB b) : AllB (a ++ b) := fun x hx => by
  rcases List.mem_append.1 hx with h | h
  · exact ha x h
  · exact hb x h
theorem bodyL_all (n sum kind lba seq : Nat) (data : List Nat) (hk : kind < 256) (hd : AllB data) : AllB (bodyL n sum kind lba seq data) := by
  unfold bodyL headL restL
  refine AllB.app (AllB.app (fun x hx => ?_) (AllB.app (low_all _ _) (AllB.app (low_all _ _) (low_all _ _)))) (AllB.app (low_all _ _) (AllB.app hd (AllB.app (fun x hx => ?_) (fun x hx => ?_))))
  · simp at hx; omega
  · simp at hx; omega
  · simp at hx; omega
theorem packL_all (n kind lba seq : Nat) (data : List Nat) (hk : kind < 256) (hd : AllB data) : AllB (packL n kind lba seq data) := bodyL_all n _ kind lba seq data hk hd
/-- What a page tells. -/
def cutL (p : List Nat) (a k : Nat) : List Nat := (p.drop a).take k
def kindP (p : List Nat) : Nat := p[1]?.getD 0
def lbaP (p : List Nat) : Nat := num (cutL p 2 4)
def seqP (p : List Nat) : Nat := num (cutL p 6 8)
def longP (p : List Nat) : Nat := num (cutL p 14 2)
def dataP (p : List Nat) : List Nat := cutL p 20 (longP p)
def sumP (p : List Nat) : List Nat := cutL p 16 4
/-- .. with four 0 in place of the sum. -/
def bareP (p : List Nat) : List Nat := p.take 16 ++ (low 4 0 ++ p.drop 20)
theorem low2 (x : Nat) : low 2 x = [x % 256, x / 256 % 256] := rfl
theorem low4 (x : Nat) : low 4 x = [x % 256, x / 256 % 256, x / 256 / 256 % 256, x / 256 / 256 / 256 % 256] := rfl
theorem low8 (x : Nat) : low 8 x = [x % 256, x / 256 % 256, x / 256 / 256 % 256, x / 256 / 256 / 256 % 256, x / 256 / 256 / 256 / 256 % 256, x / 256 / 256 / 256 / 256 / 256 % 256, x / 256 / 256 / 256 / 256 / 256 / 256 % 256, x / 256 / 256 / 256 / 256 / 256 / 256 / 256 % 256] := rfl
theorem body_kind (n sum kind lba seq : Nat) (data : List Nat) : kindP (bodyL n sum kind lba seq data) = kind := by
  simp [kindP, bodyL, headL]
theorem body_lbaL (n sum kind lba seq : Nat) (data : List Nat) : cutL (bodyL n sum kind lba seq data) 2 4 = low 4 lba := by
  simp [cutL, bodyL, headL, low_len]
theorem body_seqL (n sum kind lba seq : Nat) (data : List Nat) : cutL (bodyL n sum kind lba seq data) 6 8 = low 8 seq := by
  unfold cutL bodyL headL
  rw [low4, low8, low2]
  rfl
theorem body_longL (n sum kind lba seq : Nat) (data : List Nat) : cutL (bodyL n sum kind lba seq data) 14 2 = low 2 data.length := by
  unfold cutL bodyL headL
  rw [low4, low8, low2]
  rfl
theorem body_sumL (n sum kind lba seq : Nat) (data : List Nat) : sumP (bodyL n sum kind lba seq data) = low 4 sum := by
  unfold sumP cutL bodyL
  rw [List.drop_append_of_le_length (by rw [headL_len]; omega), List.drop_of_length_le (by rw [headL_len]; omega), List.nil_append, List.take_append_of_le_length (by rw [low_len]; omega), List.take_of_length_le (by rw [low_len]; omega)]
theorem body_rest (n sum kind lba seq : Nat) (data : List Nat) : (bodyL n sum kind lba seq data).drop 20 = restL n data := by
  unfold bodyL
  rw [← List.append_assoc, List.drop_append_of_le_length (by rw [List.length_append, headL_len, low_len]; omega), List.drop_of_length_le (by rw [List.length_append, headL_len, low_len]; omega), List.nil_append]
theorem body_head (n sum kind lba seq : Nat) (data : List Nat) : (bodyL n sum kind lba seq data).take 16 = headL kind lba seq data.length := by
  unfold bodyL
  rw [List.take_append_of_le_length (by rw [headL_len]; omega), List.take_of_length_le (by rw [headL_len]; omega)]
theorem body_bare (n sum kind lba seq : Nat) (data : List Nat) : bareP (bodyL n sum kind lba seq data) = bodyL n 0 kind lba seq data := by
  unfold bareP
  rw [body_head, body_rest]
  rfl
theorem pack_sum (n kind lba seq : Nat) (data : List Nat) : sumP (packL n kind lba seq data) = low 4 (crcOf (bareP (packL n kind lba seq data))) := by
  unfold packL
  rw [body_sumL, body_bare]
theorem pack_fields {n kind lba seq : Nat} {data : List Nat} (h : FOk n kind lba seq data.length) :
    kindP (packL n kind lba seq data) = kind ∧ lbaP (packL n kind lba seq data) = lba ∧ seqP (packL n kind lba seq data) = seq ∧ longP (packL n kind lba seq data) = data.length ∧ dataP (packL n kind lba seq data) = data := by
  have e4 : longP (packL n kind lba seq data) = data.length := by
    unfold longP packL
    rw [body_longL]
    exact num_low 2 _ (by have := h.d1; have := h.n1; show _ < 65536; omega)
  refine ⟨body_kind .., ?_, ?_, e4, ?_⟩
  · unfold lbaP packL
    rw [body_lbaL]
    exact num_low 4 _ (by have := h.l1; show _ < 4294967296; omega)
  · unfold seqP packL
    rw [body_seqL]
    exact num_low 8 _ (by have := h.s1; show _ < 18446744073709551616; omega)
  · unfold dataP
    rw [e4]
    unfold cutL packL
    rw [body_rest]
    unfold restL
    rw [List.take_append_of_le_length (by omega), List.take_of_length_le (by omega)]
/-- WHAT PACK SAYS of some frame. -/
def ValidP (p : List Nat) : Prop := FOk p.length (kindP p) (lbaP p) (seqP p) (longP p) ∧ packL p.length (kindP p) (lbaP p) (seqP p) (dataP p) = p
theorem valid_pack {n kind lba seq : Nat} {data : List Nat} (h : FOk n kind lba seq data.length) : ValidP (packL n kind lba seq data) := by
  obtain ⟨e1, e2, e3, e4, e5⟩ := pack_fields h
  unfold ValidP
  rw [e1, e2, e3, e4, e5, packL_len n kind lba seq data h.d1]
  exact ⟨h, rfl⟩
/-- Unlike frames have unlike pages. -/
theorem pack_inj {n kind lba seq kind' lba' seq' : Nat} {data data' : List Nat} (h : FOk n kind lba seq data.length) (h' : FOk n kind' lba' seq' data'.length) (e : packL n kind lba seq data = packL n kind' lba' seq' data') :
    kind = kind' ∧ lba = lba' ∧ seq = seq' ∧ data = data' := by
  obtain ⟨e1, e2, e3, _, e5⟩ := pack_fields h
  obtain ⟨f1, f2, f3, _, f5⟩ := pack_fields h'
  rw [e] at e1 e2 e3 e5
  exact ⟨e1.symm.trans f1, e2.symm.trans f2, e3.symm.trans f3, e5.symm.trans f5⟩
/-- All its bytes, one at least, are 255. -/
def ErasedP (p : List Nat) : Prop := 0 < p.length ∧ ∀ i, i < p.length → p[i]?.getD 0 = 255
theorem pack_first (n kind lba seq : Nat) (data : List Nat) : (packL n kind lba seq data)[0]?.getD 0 = 165 := by simp [packL, bodyL, headL]
theorem pack_last {n kind lba seq : Nat} {data : List Nat} (h : data.length + 21 ≤ n) : (packL n kind lba seq data)[n - 1]?.getD 0 = 90 := by
  have e : packL n kind lba seq data = (headL kind lba seq data.length ++ (low 4 (crcOf (bodyL n 0 kind lba seq data)) ++ (data ++ List.replicate (n - 21 - data.length) 0))) ++ [90] := by
    simp [packL, bodyL, restL]
  have hl : (headL kind lba seq data.length ++ (low 4 (crcOf (bodyL n 0 kind lba seq data)) ++ (data ++ List.replicate (n - 21 - data.length) 0))).length = n - 1 := by
    simp [headL_len, low_len]; omega
  rw [e, List.getElem?_append_right (by omega), hl]
  simp
theorem valid_first {p : List Nat} (h : ValidP p) : p[0]?.getD 0 = 165 := by
  have := pack_first p.length (kindP p) (lbaP p) (seqP p) (dataP p)
  rwa [h.2] at this
theorem dataP_len {p : List Nat} (h : longP p + 21 ≤ p.length) : (dataP p).length = longP p := by
  unfold dataP cutL
  rw [List.length_take, List.length_drop]
  omega
theorem valid_last {p : List Nat} (h : ValidP p) : p[p.length - 1]?.getD 0 = 90 := by
  have := pack_last (n := p.length) (kind := kindP p) (lba := lbaP p) (seq := seqP p) (data := dataP p) (by rw [dataP_len h.1.d1]; exact h.1.d1)
  rwa [h.2] at this
theorem valid_sum {p : List Nat} (h : ValidP p) : sumP p = low 4 (crcOf (bareP p)) := by
  have := pack_sum p.length (kindP p) (lbaP p) (seqP p) (dataP p)
  rwa [h.2] at this
theorem not_erased {p : List Nat} (h : p[0]?.getD 0 = 165) : ¬ ErasedP p := fun e => by
  have := e.2 0 e.1
  rw [h] at this
  cases this
/-- A page whose second part was never written. -/
def tornL (p : List Nat) (k : Nat) : List Nat := p.take k ++ List.replicate (p.length - k) 255
theorem tornL_len (p : List Nat) (k : Nat) (h : k ≤ p.length) : (tornL p k).length = p.length := by simp [tornL]; omega
theorem torn_broken {p : List Nat} {k : Nat} (h1 : k < p.length) : ¬ ValidP (tornL p k) := by
  intro h
  have e := valid_last h
  rw [tornL_len p k (by omega)] at e
  unfold tornL at e
  rw [List.getElem?_append_right (by rw [List.length_take]; omega), List.getElem?_replicate, if_pos (by rw [List.length_take]; omega)] at e
  cases e
theorem torn_first {p : List Nat} {k : Nat} (h0 : 0 < k) (h1 : k < p.length) : (tornL p k)[0]?.getD 0 = p[0]?.getD 0 := by
  unfold tornL
  rw [List.getElem?_append_left (by rw [List.length_take]; omega), List.getElem?_take, if_pos h0]
theorem torn_erased {p : List Nat} (h : 0 < p.length) : ErasedP (tornL p 0) := by
  refine ⟨by rw [tornL_len p 0 (by omega)]; exact h, fun i hi => ?_⟩
  rw [tornL_len p 0 (by omega)] at hi
  unfold tornL
  rw [List.take_zero, List.nil_append, List.getElem?_replicate, if_pos (by omega)]
  rfl
theorem cutL_set_out {p : List Nat} {j v a k : Nat} (h : j < a ∨ a + k ≤ j) : cutL (p.set j v) a k = cutL p a k := by
  apply List.ext_getElem?
  intro i
  unfold cutL
  rw [List.getElem?_take, List.getElem?_take]
  split
  · rw [List.getElem?_drop, List.getElem?_drop, List.getElem?_set_ne (by omega)]
  · rfl
theorem bareP_len {p : List Nat} (h : 20 ≤ p.length) : (bareP p).length = p.length := by
  unfold bareP
  rw [List.length_append, List.length_append, List.length_take, List.length_drop, low_len]
  omega
theorem bareP_at {p : List Nat} (h : 20 ≤ p.length) (i : Nat) : (bareP p)[i]? = if 16 ≤ i ∧ i < 20 then some 0 else p[i]? := by
  unfold bareP
  have hl : (p.take 16).length = 16 := by rw [List.length_take]; omega
  by_cases h1 : i < 16
  · rw [List.getElem?_append_left (by omega), List.getElem?_take, if_pos h1, if_neg (by omega)]
  · rw [List.getElem?_append_right (by omega), hl, low_zero]
    by_cases h2 : i < 20
    · rw [if_pos (by omega), List.getElem?_append_left (by rw [List.length_replicate]; omega), List.getElem?_replicate, if_pos (by omega)]
    · rw [if_neg (by omega), List.getElem?_append_right (by rw [List.length_replicate]; omega), List.length_replicate, List.getElem?_drop]
      congr 1
      omega
theorem bareP_set_in {p : List Nat} {j v : Nat} (h : 20 ≤ p.length) (hj : 16 ≤ j ∧ j < 20) : bareP (p.set j v) = bareP p := by
  apply List.ext_getElem?
  intro i
  rw [bareP_at h, bareP_at (by rw [List.length_set]; exact h)]
  split
  · rfl
  · rw [List.getElem?_set_ne (by omega)]
theorem bareP_set_out {p : List Nat} {j v : Nat} (h : 20 ≤ p.length) (hj : ¬ (16 ≤ j ∧ j < 20)) : bareP (p.set j v) = (bareP p).set j v := by
  apply List.ext_getElem?
  intro i
  rw [bareP_at (by rw [List.length_set]; exact h), List.getElem?_set, List.getElem?_set, bareP_len h, bareP_at h]
  by_cases hi : j = i
  · subst hi
    rw [if_neg hj, if_pos rfl, if_pos rfl]
  · rw [if_neg hi, if_neg hi]
theorem bareP_all {p : List Nat} (h : AllB p) : AllB (bareP p) := AllB.app (h.take 16) (AllB.app (low_all _ _) (fun x hx => h x (List.mem_of_mem_drop hx)))
/-- ONE BYTE THAT IS ANOTHER ONE: no frame. -/
theorem set_broken {p : List Nat} {j v : Nat} (hp : ValidP p) (ha : AllB p) (hj : j < p.length) (hv : v < 256) (hne : v ≠ p[j]?.getD 0) : ¬ ValidP (p.set j v) := by
  intro hq
  have s1 := valid_sum hp
  have s2 := valid_sum hq
  have h20 : 20 ≤ p.length := by have := hp.1.n0; omega
  by_cases h : 16 ≤ j ∧ j < 20
  · rw [bareP_set_in h20 h, ← s1] at s2
    unfold sumP cutL at s2
    have e : ((p.set j v).drop 16).take 4 = (p.drop 16).take 4 := s2
    have e2 : (((p.set j v).drop 16).take 4)[j - 16]?.getD 0 = ((p.drop 16).take 4)[j - 16]?.getD 0 := by rw [e]
    rw [List.getElem?_take, List.getElem?_take, if_pos (by omega), if_pos (by omega), List.getElem?_drop, List.getElem?_drop, show 16 + (j - 16) = j by omega, List.getElem?_set_self hj] at e2
    exact hne e2
  · have e : sumP (p.set j v) = sumP p := cutL_set_out (by omega)
    rw [e, s1, bareP_set_out h20 h] at s2
    have hb := bareP_all ha
    have hb2 : AllB ((bareP p).set j v) := fun x hx => by
      rcases List.mem_or_eq_of_mem_set hx with hx | rfl
      · exact hb x hx
      · exact hv
    have e2 := low_inj (k := 4) (crcOf_lt hb) (crcOf_lt hb2) s2
    refine crcOf_set (bareP p) j v hb hv (by rw [bareP_len h20]; exact hj) ?_ e2.symm
    rw [bareP_at h20, if_neg h]
    exact hne
/-- One bit of them is turned. -/
def turnB (bs : List Nat) (j b : Nat) : List Nat := bs.set j (bs[j]?.getD 0 ^^^ 2 ^ b)
theorem turnB_len (bs : List Nat) (j b : Nat) : (turnB bs j b).length = bs.length := by simp [turnB]
theorem bit8_lt {b : Nat} (h : b < 8) : 2 ^ b < 256 := Nat.pow_lt_pow_of_lt (a := 2) (m := 8) (by decide) h
theorem turn_broken {p : List Nat} {j b : Nat} (hp : ValidP p) (ha : AllB p) (hj : j < p.length) (hb : b < 8) : ¬ ValidP (turnB p j b) := by
  have h1 := ha.at j
  refine set_broken hp ha hj (Nat.xor_lt_two_pow (n := 8) h1 (bit8_lt hb)) (fun e => ?_)
  have e2 : p[j]?.getD 0 ^^^ (p[j]?.getD 0 ^^^ 2 ^ b) = p[j]?.getD 0 ^^^ p[j]?.getD 0 := by rw [e]
  rw [← Nat.xor_assoc, Nat.xor_self, Nat.zero_xor] at e2
  have := Nat.two_pow_pos b
  omega
theorem turnB_all {p : List Nat} {j b : Nat} (ha : AllB p) (hb : b < 8) : AllB (turnB p j b) := fun x hx => by
  rcases List.mem_or_eq_of_mem_set hx with hx | rfl
  · exact ha x hx
  · exact Nat.xor_lt_two_pow (n := 8) (ha.at j) (bit8_lt hb)
def erasedB (p : List Nat) : Bool := p.length != 0 && p.all (· == 255)
theorem erasedB_iff (p : List Nat) : erasedB p = true ↔ ErasedP p := by
  unfold erasedB ErasedP
  simp only [Bool.and_eq_true, bne_iff_ne, ne_eq, List.all_eq_true, beq_iff_eq]
  constructor
  · rintro ⟨h1, h2⟩
    refine ⟨by omega, fun i hi => ?_⟩
    rw [List.getElem?_eq_getElem hi]
    exact h2 _ (List.getElem_mem hi)
  · rintro ⟨h1, h2⟩
    refine ⟨by omega, fun x hx => ?_⟩
    obtain ⟨i, hi, rfl⟩ := List.mem_iff_getElem.1 hx
    have := h2 i hi
    rw [List.getElem?_eq_getElem hi] at this
    exact this
def validB (p : List Nat) : Bool := decide (24 ≤ p.length) && decide (p.length ≤ 4096) && decide (1 ≤ kindP p) && decide (kindP p ≤ 3) && decide (lbaP p ≤ 4294967295) && decide (seqP p ≤ 4611686018427387904) && decide (longP p + 21 ≤ p.length) && decide (packL p.length (kindP p) (lbaP p) (seqP p) (dataP p) = p)
theorem validB_iff (p : List Nat) : validB p = true ↔ ValidP p := by
  unfold validB ValidP
  simp only [Bool.and_eq_true, decide_eq_true_eq]
  constructor
  · rintro ⟨⟨⟨⟨⟨⟨⟨a, b⟩, c⟩, d⟩, e⟩, f⟩, g⟩, h⟩
    exact ⟨⟨a, b, c, d, e, f, g⟩, h⟩
  · rintro ⟨⟨a, b, c, d, e, f, g⟩, h⟩
    exact ⟨⟨⟨⟨⟨⟨⟨a, b⟩, c⟩, d⟩, e⟩, f⟩, g⟩, h⟩
/-- Erased (1), valid (2), broken (3). -/
def stP (p : List Nat) : Nat := if erasedB p then 1 else if validB p then 2 else 3
def tellB (p : List Nat) : Bool := !erasedB p && validB p
def kdP (p : List Nat) : Nat := if tellB p then kindP p else 0
def lbP (p : List Nat) : Nat := if tellB p then lbaP p else 0
def sqP (p : List Nat) : Nat := if tellB p then seqP p else 0
theorem tell_erased {p : List Nat} (h : ErasedP p) : stP p = 1 ∧ kdP p = 0 ∧ lbP p = 0 ∧ sqP p = 0 := by
  have e := (erasedB_iff p).2 h
  simp [stP, kdP, lbP, sqP, tellB, e]
theorem tell_valid {p : List Nat} (h : ¬ ErasedP p) (hv : ValidP p) : stP p = 2 ∧ kdP p = kindP p ∧ lbP p = lbaP p ∧ sqP p = seqP p := by
  have e : erasedB p = false := by cases hb : erasedB p with | false => rfl | true => exact absurd ((erasedB_iff p).1 hb) h
  have v := (validB_iff p).2 hv
  simp [stP, kdP, lbP, sqP, tellB, e, v]
theorem tell_broken {p : List Nat} (h : ¬ ErasedP p) (hv : ¬ ValidP p) : stP p = 3 ∧ kdP p = 0 ∧ lbP p = 0 ∧ sqP p = 0 := by
  have e : erasedB p = false := by cases hb : erasedB p with | false => rfl | true => exact absurd ((erasedB_iff p).1 hb) h
  have v : validB p = false := by cases hb : validB p with | false => rfl | true => exact absurd ((validB_iff p).1 hb) hv
  simp [stP, kdP, lbP, sqP, tellB, e, v]
end Go.Proofs.YtobpjijdebnaoaaDoorM

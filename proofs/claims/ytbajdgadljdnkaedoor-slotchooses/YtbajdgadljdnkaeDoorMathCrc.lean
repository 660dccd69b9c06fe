/-
  Plain mathematics of the check sum of 32 bits: one bit's step is linear and one to one; nothing of the program is named here.
-/
namespace Go.Proofs.YtbajdgadljdnkaeDoor

/-- One bit's step. -/
def crcT (x : Nat) : Nat := if x % 2 = 1 then (x / 2) ^^^ 3988292384 else x / 2
/-- So many steps. -/
def crcN : Nat → Nat → Nat
  | 0, x => x
  | n + 1, x => crcT (crcN n x)
/-- One byte's step. -/
def crcB (s b : Nat) : Nat := crcN 8 (s ^^^ b)
/-- A list's. -/
def crcL (s : Nat) (l : List Nat) : Nat := l.foldl crcB s
def crcOf (l : List Nat) : Nat := 4294967295 ^^^ crcL 4294967295 l

theorem crcT_lt {x : Nat} (h : x < 4294967296) : crcT x < 4294967296 := by
  unfold crcT
  split
  · exact Nat.xor_lt_two_pow (n := 32) (by omega) (by decide)
  · omega
theorem crcN_lt {x : Nat} (h : x < 4294967296) : ∀ n, crcN n x < 4294967296
  | 0 => h
  | n + 1 => crcT_lt (crcN_lt h n)
theorem xor32 {a b : Nat} (ha : a < 4294967296) (hb : b < 4294967296) : a ^^^ b < 4294967296 := Nat.xor_lt_two_pow (n := 32) ha hb
theorem crcB_lt {s b : Nat} (h : s < 4294967296) (hb : b < 4294967296) : crcB s b < 4294967296 := crcN_lt (xor32 h hb) 8

theorem xor_div2 (a b : Nat) : (a ^^^ b) / 2 = a / 2 ^^^ b / 2 := by
  apply Nat.eq_of_testBit_eq
  intro i
  simp [Nat.testBit_div_two, Nat.testBit_xor]
theorem xor_mod2 (a b : Nat) : (a ^^^ b) % 2 = (a % 2 + b % 2) % 2 := by
  have h := Nat.xor_mod_two_pow (a := a) (b := b) (n := 1)
  rw [Nat.pow_one] at h
  rw [h]
  rcases Nat.mod_two_eq_zero_or_one a with ha | ha <;> rcases Nat.mod_two_eq_zero_or_one b with hb | hb <;> rw [ha, hb] <;> rfl
theorem crcT_xor (a b : Nat) : crcT (a ^^^ b) = crcT a ^^^ crcT b := by
  unfold crcT
  rw [xor_mod2, xor_div2]
  rcases Nat.mod_two_eq_zero_or_one a with ha | ha <;> rcases Nat.mod_two_eq_zero_or_one b with hb | hb <;> simp [ha, hb]
  · rw [Nat.xor_assoc]
  · rw [Nat.xor_assoc, Nat.xor_comm (b / 2), Nat.xor_assoc]
  · rw [Nat.xor_assoc, ← Nat.xor_assoc 3988292384, Nat.xor_comm 3988292384 (b / 2), Nat.xor_assoc, Nat.xor_self, Nat.xor_zero]
theorem crcN_xor (a b : Nat) : ∀ n, crcN n (a ^^^ b) = crcN n a ^^^ crcN n b
  | 0 => rfl
  | n + 1 => by simp only [crcN]; rw [crcN_xor a b n, crcT_xor]
theorem xor_eq_zero {a b : Nat} (h : a ^^^ b = 0) : a = b := by
  have h2 : a ^^^ b ^^^ b = 0 ^^^ b := by rw [h]
  rw [Nat.xor_assoc, Nat.xor_self, Nat.xor_zero, Nat.zero_xor] at h2
  exact h2
theorem crcT_zero {x : Nat} (h : x < 4294967296) (h0 : crcT x = 0) : x = 0 := by
  unfold crcT at h0
  split at h0
  · have := xor_eq_zero h0; omega
  · omega
theorem crcN_zero {x : Nat} (h : x < 4294967296) : ∀ n, crcN n x = 0 → x = 0
  | 0, h0 => h0
  | n + 1, h0 => crcN_zero h n (crcT_zero (crcN_lt h n) h0)
theorem crcN_inj {a b : Nat} (ha : a < 4294967296) (hb : b < 4294967296) (n : Nat) (h : crcN n a = crcN n b) : a = b := by
  apply xor_eq_zero
  apply crcN_zero (xor32 ha hb) n
  rw [crcN_xor, h, Nat.xor_self]
theorem crcB_inj {s t a b : Nat} (hs : s < 4294967296) (ht : t < 4294967296) (ha : a < 256) (hb : b < 256) (h : crcB s a = crcB t b) : s ^^^ a = t ^^^ b :=
  crcN_inj (xor32 hs (by omega)) (xor32 ht (by omega)) 8 h

/-- Bytes. -/
def AllB (l : List Nat) : Prop := ∀ x ∈ l, x < 256
theorem crcL_lt {s : Nat} (hs : s < 4294967296) : ∀ l : List Nat, AllB l → crcL s l < 4294967296 := by
  intro l
  induction l generalizing s with
  | nil => intro _; exact hs
  | cons b r ih => intro h; exact ih (crcB_lt hs (by have := h b (by simp); omega)) (fun x hx => h x (by simp [hx]))
theorem crcL_snoc (s : Nat) (l : List Nat) (b : Nat) : crcL s (l ++ [b]) = crcB (crcL s l) b := by simp [crcL, List.foldl_append]
theorem AllB.take {l : List Nat} (h : AllB l) (k : Nat) : AllB (l.take k) := fun x hx => h x (List.mem_of_mem_take hx)
theorem AllB.at {l : List Nat} (h : AllB l) (k : Nat) : l[k]?.getD 0 < 256 := by
  by_cases hk : k < l.length
  · rw [List.getElem?_eq_getElem hk]; exact h _ (List.getElem_mem _)
  · rw [List.getElem?_eq_none (by omega)]; decide
theorem take_snocN (l : List Nat) (k : Nat) (h : k < l.length) : l.take (k + 1) = l.take k ++ [l[k]?.getD 0] := by
  rw [List.take_succ_eq_append_getElem h, List.getElem?_eq_getElem h]; rfl

/-- Three states that are the sum of three. -/
theorem crcB_three (s t u a b c : Nat) : crcB (s ^^^ t ^^^ u) (a ^^^ b ^^^ c) = crcB s a ^^^ crcB t b ^^^ crcB u c := by
  unfold crcB
  rw [← crcN_xor, ← crcN_xor]
  congr 1
  apply Nat.eq_of_testBit_eq
  intro i
  simp only [Nat.testBit_xor]
  cases s.testBit i <;> cases t.testBit i <;> cases u.testBit i <;> cases a.testBit i <;> cases b.testBit i <;> cases c.testBit i <;> rfl
/-- The exclusive or of three lists, as far as all reach. -/
def xor3 : List Nat → List Nat → List Nat → List Nat
  | a :: x, b :: y, c :: z => (a ^^^ b ^^^ c) :: xor3 x y z
  | _, _, _ => []
theorem crcL_three : ∀ (x y z : List Nat) (s t u : Nat), x.length = y.length → y.length = z.length → crcL (s ^^^ t ^^^ u) (xor3 x y z) = crcL s x ^^^ crcL t y ^^^ crcL u z
  | [], [], [], _, _, _, _, _ => rfl
  | a :: x, b :: y, c :: z, s, t, u, h1, h2 => by
    have ih := crcL_three x y z (crcB s a) (crcB t b) (crcB u c) (by simpa using h1) (by simpa using h2)
    show crcL (crcB (s ^^^ t ^^^ u) (a ^^^ b ^^^ c)) (xor3 x y z) = _
    rw [crcB_three]
    exact ih
theorem crcOf_three (x y z : List Nat) (h1 : x.length = y.length) (h2 : y.length = z.length) : crcOf (xor3 x y z) = crcOf x ^^^ crcOf y ^^^ crcOf z := by
  have h := crcL_three x y z 4294967295 4294967295 4294967295 h1 h2
  rw [Nat.xor_self, Nat.zero_xor] at h
  unfold crcOf
  rw [h]
  apply Nat.eq_of_testBit_eq
  intro i
  simp only [Nat.testBit_xor]
  cases (4294967295 : Nat).testBit i <;> cases (crcL 4294967295 x).testBit i <;> cases (crcL 4294967295 y).testBit i <;> cases (crcL 4294967295 z).testBit i <;> rfl
theorem crcL_inj : ∀ (l : List Nat) (s t : Nat), s < 4294967296 → t < 4294967296 → AllB l → crcL s l = crcL t l → s = t
  | [], _, _, _, _, _, h => h
  | b :: r, s, t, hs, ht, hl, h => by
    have hb := hl b (by simp)
    have e := crcL_inj r (crcB s b) (crcB t b) (crcB_lt hs (by omega)) (crcB_lt ht (by omega)) (fun x hx => hl x (by simp [hx])) h
    have e2 := crcB_inj hs ht hb hb e
    have e3 : s ^^^ b ^^^ b = t ^^^ b ^^^ b := by rw [e2]
    rwa [Nat.xor_assoc, Nat.xor_assoc, Nat.xor_self, Nat.xor_zero, Nat.xor_zero] at e3
/-- One byte that is another one is told. -/
theorem crcL_set : ∀ (l : List Nat) (s k v : Nat), s < 4294967296 → AllB l → v < 256 → k < l.length → v ≠ l[k]?.getD 0 → crcL s (l.set k v) ≠ crcL s l
  | [], _, _, _, _, _, _, hk, _ => by simp at hk
  | b :: r, s, 0, v, hs, hl, hv, _, hne => by
    intro h
    have hb := hl b (by simp)
    have h' : crcL (crcB s v) r = crcL (crcB s b) r := h
    have e := crcL_inj r _ _ (crcB_lt hs (by omega)) (crcB_lt hs (by omega)) (fun x hx => hl x (by simp [hx])) h'
    have e2 := crcB_inj hs hs hv hb e
    apply hne
    show v = b
    have e3 : s ^^^ (s ^^^ v) = s ^^^ (s ^^^ b) := by rw [e2]
    rwa [← Nat.xor_assoc, ← Nat.xor_assoc, Nat.xor_self, Nat.zero_xor, Nat.zero_xor] at e3
  | b :: r, s, k + 1, v, hs, hl, hv, hk, hne => by
    have hb := hl b (by simp)
    exact crcL_set r (crcB s b) k v (crcB_lt hs (by omega)) (fun x hx => hl x (by simp [hx])) hv (by simpa using hk) (by simpa using hne)
theorem crcOf_set (l : List Nat) (k v : Nat) (hl : AllB l) (hv : v < 256) (hk : k < l.length) (hne : v ≠ l[k]?.getD 0) : crcOf (l.set k v) ≠ crcOf l := by
  intro h
  apply crcL_set l 4294967295 k v (by decide) hl hv hk hne
  unfold crcOf at h
  have e3 : 4294967295 ^^^ (4294967295 ^^^ crcL 4294967295 (l.set k v)) = 4294967295 ^^^ (4294967295 ^^^ crcL 4294967295 l) := by rw [h]
  rwa [← Nat.xor_assoc, ← Nat.xor_assoc, Nat.xor_self, Nat.zero_xor, Nat.zero_xor] at e3
theorem crcOf_lt {l : List Nat} (h : AllB l) : crcOf l < 4294967296 := xor32 (by decide) (crcL_lt (by decide) l h)

end Go.Proofs.YtbajdgadljdnkaeDoor

/-
  Plain mathematics of records: a number by seven digits at a time, a batch, a record; reading them; what is read is just what was written. Nothing of the program is named here.
-/
import Derived.Test.YtalmcjkaheofpaeDoorMathCrc
namespace Go.Proofs.YtalmcjkaheofpaeDoor

/-- A number's lowest k bytes, the lowest first. -/
def low : Nat → Nat → List Nat
  | 0, _ => []
  | k + 1, x => x % 256 :: low k (x / 256)
theorem low_len : ∀ k x, (low k x).length = k
  | 0, _ => rfl
  | k + 1, x => by simp [low, low_len k]
theorem low_all : ∀ k x, AllB (low k x)
  | 0, _ => fun _ h => by simp [low] at h
  | k + 1, x => fun y h => by
    simp only [low, List.mem_cons] at h
    rcases h with rfl | h
    · omega
    · exact low_all k _ y h
theorem pow8 (k : Nat) : 2 ^ (8 * (k + 1)) = 256 * 2 ^ (8 * k) := by rw [show 8 * (k + 1) = 8 + 8 * k by omega, Nat.pow_add]
theorem pow7 (k : Nat) : 2 ^ (7 * (k + 1)) = 128 * 2 ^ (7 * k) := by rw [show 7 * (k + 1) = 7 + 7 * k by omega, Nat.pow_add]
theorem low_snoc : ∀ k x, low (k + 1) x = low k x ++ [x / 2 ^ (8 * k) % 256]
  | 0, x => by simp [low]
  | k + 1, x => by
    show x % 256 :: low (k + 1) (x / 256) = x % 256 :: (low k (x / 256) ++ _)
    rw [low_snoc k, Nat.div_div_eq_div_mul, pow8]
theorem low_at : ∀ k x i, i < k → (low k x)[i]?.getD 0 = x / 2 ^ (8 * i) % 256
  | 0, _, _, h => by omega
  | k + 1, x, 0, _ => by simp [low]
  | k + 1, x, i + 1, h => by
    have e := low_at k (x / 256) i (by omega)
    show (low k (x / 256))[i]?.getD 0 = _
    rw [e, Nat.div_div_eq_div_mul]
    congr 2
    rw [show 8 * (i + 1) = 8 + 8 * i by omega, Nat.pow_add]
theorem AllB.app {a b : List Nat} (h : AllB a) (k : AllB b) : AllB (a ++ b) := fun x hx => by
  rcases List.mem_append.1 hx with hx | hx
  · exact h x hx
  · exact k x hx
theorem AllB.drop {l : List Nat} (h : AllB l) (k : Nat) : AllB (l.drop k) := fun x hx => h x (List.mem_of_mem_drop hx)

/-- A NUMBER as bytes. -/
def sev (n : Nat) : List Nat := if n < 128 then [n] else (n % 128 + 128) :: sev (n / 128)
theorem sev_small {n : Nat} (h : n < 128) : sev n = [n] := by rw [sev, if_pos h]
theorem sev_big {n : Nat} (h : ¬ n < 128) : sev n = (n % 128 + 128) :: sev (n / 128) := by rw [sev, if_neg h]
theorem sev_all (n : Nat) : AllB (sev n) := by
  induction n using Nat.strongRecOn with
  | _ n ih =>
    by_cases h : n < 128
    · rw [sev_small h]; intro x hx; simp at hx; omega
    · rw [sev_big h]
      intro x hx
      rcases List.mem_cons.1 hx with rfl | hx
      · omega
      · exact ih (n / 128) (by omega) x hx
theorem sev_pos (n : Nat) : 1 ≤ (sev n).length := by
  by_cases h : n < 128
  · rw [sev_small h]; simp
  · rw [sev_big h]; simp
theorem sev_len : ∀ k n, n < 2 ^ (7 * (k + 1)) → (sev n).length ≤ k + 1
  | 0, n, h => by rw [sev_small (by simpa using h)]; simp
  | k + 1, n, h => by
    by_cases h1 : n < 128
    · rw [sev_small h1]; simp
    · rw [sev_big h1, List.length_cons]
      rw [pow7] at h
      have := sev_len k (n / 128) (by omega)
      omega
/-- The greatest number. -/
abbrev mx : Nat := 4611686018427387904
theorem sev_nine {n : Nat} (h : n ≤ mx) : (sev n).length ≤ 9 := sev_len 8 n (by unfold mx at h; omega)
/-- READING A NUMBER: f bytes at most, i are read, acc is what they say. -/
def rnumF : Nat → Nat → Nat → List Nat → Option (Nat × Nat)
  | 0, _, _, _ => none
  | _ + 1, _, _, [] => none
  | f + 1, i, acc, b :: r =>
    if 128 ≤ b then rnumF f (i + 1) (acc + b % 128 * 2 ^ (7 * i)) r
    else if (b = 0 ∧ 0 < i) ∨ mx < acc + b % 128 * 2 ^ (7 * i) then none
    else some (acc + b % 128 * 2 ^ (7 * i), i + 1)
def rnum (s : List Nat) : Option (Nat × Nat) := rnumF 9 0 0 s
theorem rnumF_sev (n : Nat) : ∀ (f i acc : Nat) (r : List Nat), (sev n).length ≤ f → (0 < n ∨ i = 0) → acc + n * 2 ^ (7 * i) ≤ mx → rnumF f i acc (sev n ++ r) = some (acc + n * 2 ^ (7 * i), i + (sev n).length) := by
  induction n using Nat.strongRecOn with
  | _ n ih =>
    intro f i acc r hf hi hm
    obtain ⟨f, rfl⟩ : ∃ g, f = g + 1 := ⟨f - 1, by have := sev_pos n; omega⟩
    by_cases h : n < 128
    · rw [sev_small h]
      have e : n % 128 = n := by omega
      show (if 128 ≤ n then _ else if (n = 0 ∧ 0 < i) ∨ mx < acc + n % 128 * 2 ^ (7 * i) then none else _) = _
      rw [if_neg (by omega), e, if_neg (by omega)]
      rfl
    · rw [sev_big h] at hf ⊢
      rw [List.length_cons] at hf
      show (if 128 ≤ n % 128 + 128 then rnumF f (i + 1) (acc + (n % 128 + 128) % 128 * 2 ^ (7 * i)) (sev (n / 128) ++ r) else _) = _
      rw [if_pos (by omega), show (n % 128 + 128) % 128 = n % 128 by omega]
      have e : acc + n % 128 * 2 ^ (7 * i) + n / 128 * 2 ^ (7 * (i + 1)) = acc + n * 2 ^ (7 * i) := by
        rw [pow7, Nat.add_assoc]
        congr 1
        generalize 2 ^ (7 * i) = P
        rw [← Nat.mul_assoc, ← Nat.add_mul]
        congr 1
        omega
      rw [ih (n / 128) (by omega) f (i + 1) _ r (by omega) (Or.inl (by omega)) (by rw [e]; exact hm), e, List.length_cons, Nat.add_assoc, Nat.add_comm 1]
theorem rnum_sev {n : Nat} (h : n ≤ mx) (r : List Nat) : rnum (sev n ++ r) = some (n, (sev n).length) := by
  have := rnumF_sev n 9 0 0 r (sev_nine h) (Or.inr rfl) (by simpa using h)
  simpa [rnum] using this
theorem rnumF_back : ∀ (f i acc : Nat) (s : List Nat) (v k : Nat), AllB s → rnumF f i acc s = some (v, k) → ∃ m, v = acc + m * 2 ^ (7 * i) ∧ k = i + (sev m).length ∧ (sev m).length ≤ s.length ∧ s.take (sev m).length = sev m ∧ (m = 0 → i = 0) ∧ v ≤ mx
  | 0, _, _, _, _, _, _, h => by simp [rnumF] at h
  | _ + 1, _, _, [], _, _, _, h => by simp [rnumF] at h
  | f + 1, i, acc, b :: r, v, k, ha, h => by
    have hb := ha b (by simp)
    unfold rnumF at h
    split at h
    · next h1 =>
      obtain ⟨m, e1, e2, e3, e4, e5, e6⟩ := rnumF_back f (i + 1) _ r v k (fun x hx => ha x (by simp [hx])) h
      have hm : m ≠ 0 := fun e => by have := e5 e; omega
      have hs : sev (b % 128 + m * 128) = b :: sev m := by
        rw [sev_big (by omega), show (b % 128 + m * 128) % 128 + 128 = b by omega, show (b % 128 + m * 128) / 128 = m by omega]
      refine ⟨b % 128 + m * 128, ?_, ?_, ?_, ?_, ?_, e6⟩
      · rw [e1, pow7, Nat.add_mul, Nat.mul_assoc, Nat.add_assoc]
      · rw [hs, List.length_cons, e2]; omega
      · rw [hs, List.length_cons, List.length_cons]; omega
      · rw [hs, List.length_cons, List.take_succ_cons, e4]
      · omega
    · next h1 =>
      split at h
      · cases h
      · next h2 =>
        have h' := Option.some.inj h
        have e1 : acc + b % 128 * 2 ^ (7 * i) = v := congrArg Prod.fst h'
        have e2 : i + 1 = k := congrArg Prod.snd h'
        have e : b % 128 = b := by omega
        rw [e] at e1 h2
        refine ⟨b, e1.symm, ?_, ?_, ?_, ?_, ?_⟩
        · rw [sev_small (by omega)]; exact e2.symm
        · rw [sev_small (by omega)]; simp
        · rw [sev_small (by omega)]; simp
        · intro hb0
          by_cases hi : i = 0
          · exact hi
          · exact absurd (Or.inl ⟨hb0, by omega⟩) h2
        · omega
theorem rnum_back {s : List Nat} {v k : Nat} (ha : AllB s) (h : rnum s = some (v, k)) : v ≤ mx ∧ k = (sev v).length ∧ k ≤ s.length ∧ s.take k = sev v := by
  obtain ⟨m, e1, e2, e3, e4, _, e6⟩ := rnumF_back 9 0 0 s v k ha h
  have : m = v := by simpa using e1.symm
  subst this
  have e2' : k = (sev m).length := by omega
  rw [e2']
  exact ⟨e6, rfl, e3, e4⟩

/-- AN ENTRY. -/
structure En where
  k : Int
  a : Int
  b : Int
/-- .. of noughts. -/
def en0 : En := ⟨0, 0, 0⟩
/-- A number that may be. -/
abbrev NumOk (n : Int) : Prop := 0 ≤ n ∧ n ≤ 4611686018427387904
abbrev EnOk (e : En) : Prop := NumOk e.k ∧ NumOk e.a ∧ NumOk e.b
def enL (e : En) : List Nat := sev e.k.toNat ++ (sev e.a.toNat ++ sev e.b.toNat)
def ensL (l : List En) : List Nat := (l.map enL).flatten
def bodyL (l : List En) : List Nat := sev l.length ++ ensL l
/-- A BATCH as bytes. -/
def batL (l : List En) : List Nat := bodyL l ++ low 4 (crcOf (bodyL l))
/-- A RECORD as bytes. -/
def recL (l : List (List En)) : List Nat := (l.map batL).flatten
/-- A batch that may be. -/
abbrev BatOk (l : List En) : Prop := l.length ≤ 64 ∧ ∀ e ∈ l, EnOk e
abbrev RecOk (l : List (List En)) : Prop := ∀ b ∈ l, BatOk b
/-- WHAT IS WRONG: 0 nothing, 1 ErrRange, 3 ErrFull. -/
def faultB (l : List En) : Nat := if 64 < l.length then 3 else if ∀ e ∈ l, EnOk e then 0 else 1
def faultR : List (List En) → Nat
  | [] => 0
  | b :: r => if faultB b = 0 then faultR r else faultB b
theorem faultB_ok {l : List En} : faultB l = 0 ↔ BatOk l := by
  unfold faultB BatOk
  split
  · constructor
    · intro h; simp at h
    · intro h; omega
  · split
    · next h1 h2 => exact ⟨fun _ => ⟨by omega, h2⟩, fun _ => rfl⟩
    · next h1 h2 => exact ⟨fun h => by simp at h, fun h => absurd h.2 h2⟩
theorem faultR_ok : ∀ {l : List (List En)}, faultR l = 0 ↔ RecOk l
  | [] => by simp [faultR, RecOk]
  | b :: r => by
    unfold faultR RecOk
    simp only [List.mem_cons, forall_eq_or_imp]
    split
    · next h => rw [faultR_ok]; exact ⟨fun k => ⟨faultB_ok.1 h, k⟩, fun k => k.2⟩
    · next h => exact ⟨fun k => absurd k h, fun k => absurd (faultB_ok.2 k.1) h⟩
theorem faultR_take {l : List (List En)} {i : Nat} (hi : i < l.length) (h : ∀ j, j < i → faultB (l[j]?.getD []) = 0) (hf : faultB (l[i]?.getD []) ≠ 0) : faultR l = faultB (l[i]?.getD []) := by
  induction l generalizing i with
  | nil => simp at hi
  | cons b r ih =>
    unfold faultR
    cases i with
    | zero =>
      have e : ((b :: r)[0]?.getD []) = b := rfl
      rw [e] at hf ⊢
      rw [if_neg hf]
    | succ i =>
      have e0 : faultB b = 0 := h 0 (by omega)
      rw [if_pos e0]
      exact ih (by simpa using hi) (fun j hj => h (j + 1) (by omega)) hf
theorem faultR_all {l : List (List En)} (h : ∀ j, j < l.length → faultB (l[j]?.getD []) = 0) : faultR l = 0 := by
  rw [faultR_ok]
  intro b hb
  obtain ⟨j, hj, e⟩ := List.getElem_of_mem hb
  have := h j hj
  rw [List.getElem?_eq_getElem hj] at this
  rw [← faultB_ok, ← e]
  exact this

/-- READING AN ENTRY. -/
def rent (s : List Nat) : Option (En × Nat) :=
  match rnum s with
  | none => none
  | some (x, i) => match rnum (s.drop i) with
    | none => none
    | some (y, j) => match rnum (s.drop (i + j)) with
      | none => none
      | some (z, l) => some (⟨x, y, z⟩, i + j + l)
/-- .. so many entries. -/
def rents : Nat → List Nat → Option (List En × Nat)
  | 0, _ => some ([], 0)
  | c + 1, s => match rents c s with
    | none => none
    | some (es, u) => match rent (s.drop u) with
      | none => none
      | some (e, k) => some (es ++ [e], u + k)
/-- .. a batch. -/
def rbat (s : List Nat) : Option (List En × Nat) :=
  match rnum s with
  | none => none
  | some (c, i) => if 64 < c then none else match rents c (s.drop i) with
    | none => none
    | some (es, u) => if (s.drop (i + u)).take 4 = low 4 (crcOf (s.take (i + u))) then some (es, i + u + 4) else none
theorem drop_app {a b r : List Nat} {k : Nat} (h : k = a.length) : (a ++ (b ++ r)).drop k = b ++ r := by subst h; exact List.drop_left
theorem take_join {s : List Nat} {i j : Nat} {a b : List Nat} (h1 : s.take i = a) (h2 : (s.drop i).take j = b) : s.take (i + j) = a ++ b := by rw [List.take_add, h1, h2]
theorem rent_enL {e : En} (h : EnOk e) (r : List Nat) : rent (enL e ++ r) = some (e, (enL e).length) := by
  obtain ⟨⟨h1, h2⟩, ⟨h3, h4⟩, h5, h6⟩ := h
  unfold rent enL
  rw [List.append_assoc, List.append_assoc, rnum_sev (by unfold mx; omega)]
  simp only []
  rw [List.drop_left, rnum_sev (by unfold mx; omega)]
  simp only []
  rw [← List.append_assoc, ← List.length_append, List.drop_left, rnum_sev (by unfold mx; omega)]
  simp only [List.length_append]
  obtain ⟨k, a, b⟩ := e
  simp only at h1 h3 h5
  congr 2
  · simp only [Int.toNat_of_nonneg h1, Int.toNat_of_nonneg h3, Int.toNat_of_nonneg h5]
  · omega
theorem rent_back {s : List Nat} {e : En} {k : Nat} (ha : AllB s) (h : rent s = some (e, k)) : EnOk e ∧ k = (enL e).length ∧ k ≤ s.length ∧ s.take k = enL e := by
  unfold rent at h
  split at h
  · cases h
  next x i hx =>
  split at h
  · cases h
  next y j hy =>
  split at h
  · cases h
  next z l hz =>
  have h' := Option.some.inj h
  have e1 : (⟨x, y, z⟩ : En) = e := congrArg Prod.fst h'
  have e2 : i + j + l = k := congrArg Prod.snd h'
  subst e1 e2
  obtain ⟨p1, p2, p3, p4⟩ := rnum_back ha hx
  obtain ⟨q1, q2, q3, q4⟩ := rnum_back (ha.drop i) hy
  obtain ⟨r1, r2, r3, r4⟩ := rnum_back (ha.drop (i + j)) hz
  rw [List.length_drop] at q3 r3
  unfold mx at p1 q1 r1
  refine ⟨⟨⟨by show (0 : Int) ≤ (x : Int); omega, by show (x : Int) ≤ _; omega⟩, ⟨by show (0 : Int) ≤ (y : Int); omega, by show (y : Int) ≤ _; omega⟩, by show (0 : Int) ≤ (z : Int); omega, by show (z : Int) ≤ _; omega⟩, ?_, by omega, ?_⟩
  · unfold enL
    simp only [List.length_append, Int.toNat_natCast]
    omega
  · unfold enL
    simp only [Int.toNat_natCast]
    rw [take_join (take_join p4 q4) r4, List.append_assoc]
theorem ensL_snoc (l : List En) (e : En) : ensL (l ++ [e]) = ensL l ++ enL e := by simp [ensL]
theorem rents_ensL : ∀ (c : Nat) (es : List En) (r : List Nat), es.length = c → (∀ e ∈ es, EnOk e) → rents c (ensL es ++ r) = some (es, (ensL es).length)
  | 0, es, r, hl, _ => by
    obtain rfl := List.eq_nil_of_length_eq_zero hl
    rfl
  | c + 1, es, r, hl, h => by
    obtain ⟨xs, e, rfl⟩ : ∃ xs e, es = xs ++ [e] := ⟨es.dropLast, es.getLast (fun h => by simp [h] at hl), (List.dropLast_concat_getLast _).symm⟩
    rw [List.length_append] at hl
    unfold rents
    rw [ensL_snoc, List.append_assoc, rents_ensL c xs (enL e ++ r) (by simpa using hl) (fun x hx => h x (by simp [hx]))]
    simp only []
    rw [List.drop_left, rent_enL (h e (by simp))]
    simp only [List.length_append]
theorem rents_back : ∀ (c : Nat) (s : List Nat) (es : List En) (k : Nat), AllB s → rents c s = some (es, k) → es.length = c ∧ (∀ e ∈ es, EnOk e) ∧ k = (ensL es).length ∧ k ≤ s.length ∧ s.take k = ensL es
  | 0, s, es, k, _, h => by
    have h' := Option.some.inj h
    have e1 : [] = es := congrArg Prod.fst h'
    have e2 : 0 = k := congrArg Prod.snd h'
    subst e1 e2
    simp [ensL]
  | c + 1, s, es, k, ha, h => by
    unfold rents at h
    split at h
    · cases h
    next xs u hx =>
    split at h
    · cases h
    next e l he =>
    have h' := Option.some.inj h
    have e1 : xs ++ [e] = es := congrArg Prod.fst h'
    have e2 : u + l = k := congrArg Prod.snd h'
    subst e1 e2
    obtain ⟨p0, p1, p2, p3, p4⟩ := rents_back c s xs u ha hx
    obtain ⟨q1, q2, q3, q4⟩ := rent_back (ha.drop u) he
    rw [List.length_drop] at q3
    refine ⟨by simp [p0], ?_, by rw [ensL_snoc, List.length_append]; omega, by omega, by rw [ensL_snoc, take_join p4 q4]⟩
    intro x hx
    rcases List.mem_append.1 hx with hx | hx
    · exact p1 x hx
    · simp at hx; subst hx; exact q1
theorem rents_none {c d : Nat} {s : List Nat} (h : rents c s = none) (hd : c ≤ d) : rents d s = none := by
  induction d with
  | zero => have : c = 0 := by omega
            subst this; exact h
  | succ d ih =>
    by_cases e : c = d + 1
    · subst e; exact h
    · unfold rents; rw [ih (by omega)]
theorem ensL_all : ∀ l : List En, AllB (ensL l)
  | [] => fun x h => by simp [ensL] at h
  | e :: r => by
    show AllB (enL e ++ ensL r)
    exact ((sev_all _).app ((sev_all _).app (sev_all _))).app (ensL_all r)
theorem bodyL_all (l : List En) : AllB (bodyL l) := (sev_all _).app (ensL_all l)
theorem batL_all (l : List En) : AllB (batL l) := (bodyL_all l).app (low_all _ _)
theorem recL_all : ∀ l : List (List En), AllB (recL l)
  | [] => fun x h => by simp [recL] at h
  | b :: r => (batL_all b).app (recL_all r)
theorem rbat_batL {es : List En} (h : BatOk es) (r : List Nat) : rbat (batL es ++ r) = some (es, (batL es).length) := by
  have hl : es.length ≤ mx := by have := h.1; unfold mx; omega
  unfold rbat batL
  have e0 : bodyL es ++ low 4 (crcOf (bodyL es)) ++ r = sev es.length ++ (ensL es ++ (low 4 (crcOf (bodyL es)) ++ r)) := by simp [bodyL, List.append_assoc]
  rw [e0, rnum_sev hl]
  simp only []
  rw [if_neg (by have := h.1; omega), List.drop_left, rents_ensL _ _ _ rfl h.2]
  simp only []
  have e1 : sev es.length ++ (ensL es ++ (low 4 (crcOf (bodyL es)) ++ r)) = bodyL es ++ (low 4 (crcOf (bodyL es)) ++ r) := by simp [bodyL, List.append_assoc]
  have e2 : (sev es.length).length + (ensL es).length = (bodyL es).length := by simp [bodyL]
  rw [e1, e2, List.drop_left, List.take_left, List.take_append_of_le_length (by rw [low_len]; omega), List.take_of_length_le (by rw [low_len]; omega), if_pos rfl]
  simp [low_len]
theorem rbat_back {s : List Nat} {es : List En} {k : Nat} (ha : AllB s) (h : rbat s = some (es, k)) : BatOk es ∧ k = (batL es).length ∧ k ≤ s.length ∧ s.take k = batL es := by
  unfold rbat at h
  split at h
  · cases h
  next c i hc =>
  split at h
  · cases h
  next h64 =>
  split at h
  · cases h
  next xs u hx =>
  split at h
  case isFalse => cases h
  next hcrc =>
  have h' := Option.some.inj h
  have e1 : xs = es := congrArg Prod.fst h'
  have e2 : i + u + 4 = k := congrArg Prod.snd h'
  subst e1 e2
  obtain ⟨p1, p2, p3, p4⟩ := rnum_back ha hc
  obtain ⟨q0, q1, q2, q3, q4⟩ := rents_back c _ xs u (ha.drop i) hx
  rw [List.length_drop] at q3
  have hb : s.take (i + u) = bodyL xs := by unfold bodyL; rw [q0]; exact take_join p4 q4
  rw [hb] at hcrc
  have hl := congrArg List.length hcrc
  rw [low_len, List.length_take, List.length_drop] at hl
  have hbl : (bodyL xs).length = i + u := by rw [← hb, List.length_take]; omega
  refine ⟨⟨by omega, q1⟩, ?_, by omega, take_join hb hcrc⟩
  unfold batL
  rw [List.length_append, low_len, hbl]
theorem rbat_nil : rbat [] = none := rfl
/-- .. a batch but its check. -/
def rhead (s : List Nat) : Option (List En × Nat) :=
  match rnum s with
  | none => none
  | some (c, i) => if 64 < c then none else match rents c (s.drop i) with
    | none => none
    | some (es, u) => some (es, i + u)
theorem rbat_head (s : List Nat) : rbat s = match rhead s with
    | none => none
    | some (es, u) => if (s.drop u).take 4 = low 4 (crcOf (s.take u)) then some (es, u + 4) else none := by
  unfold rbat rhead
  cases rnum s with
  | none => rfl
  | some q =>
    obtain ⟨c, i⟩ := q
    simp only []
    by_cases h : 64 < c
    · rw [if_pos h, if_pos h]
    · rw [if_neg h, if_neg h]
      cases rents c (s.drop i) with
      | none => rfl
      | some q => rfl
theorem rhead_none0 {s : List Nat} (h : rnum s = none) : rhead s = none := by unfold rhead; rw [h]
theorem rhead_none1 {s : List Nat} {c i : Nat} (h : rnum s = some (c, i)) (hc : 64 < c) : rhead s = none := by unfold rhead; rw [h]; exact if_pos hc
theorem rhead_none2 {s : List Nat} {c i : Nat} (h : rnum s = some (c, i)) (hc : ¬ 64 < c) (hr : rents c (s.drop i) = none) : rhead s = none := by unfold rhead; rw [h]; simp only []; rw [if_neg hc, hr]
theorem rhead_some {s : List Nat} {c i u : Nat} {es : List En} (h : rnum s = some (c, i)) (hc : ¬ 64 < c) (hr : rents c (s.drop i) = some (es, u)) : rhead s = some (es, i + u) := by unfold rhead; rw [h]; simp only []; rw [if_neg hc, hr]
theorem rents_succ {c u k : Nat} {s : List Nat} {es : List En} {e : En} (h : rents c s = some (es, u)) (he : rent (s.drop u) = some (e, k)) : rents (c + 1) s = some (es ++ [e], u + k) := by unfold rents; rw [h]; simp only []; rw [he]
theorem rents_fail {c u : Nat} {s : List Nat} {es : List En} (h : rents c s = some (es, u)) (he : rent (s.drop u) = none) : rents (c + 1) s = none := by unfold rents; rw [h]; simp only []; rw [he]
theorem rent_none0 {s : List Nat} (h : rnum s = none) : rent s = none := by unfold rent; rw [h]
theorem rent_none1 {s : List Nat} {x i : Nat} (h : rnum s = some (x, i)) (h2 : rnum (s.drop i) = none) : rent s = none := by unfold rent; rw [h]; simp only []; rw [h2]
theorem rent_none2 {s : List Nat} {x i y j : Nat} (h : rnum s = some (x, i)) (h2 : rnum (s.drop i) = some (y, j)) (h3 : rnum (s.drop (i + j)) = none) : rent s = none := by unfold rent; rw [h]; simp only []; rw [h2]; simp only []; rw [h3]
theorem rent_some {s : List Nat} {x i y j z l : Nat} (h : rnum s = some (x, i)) (h2 : rnum (s.drop i) = some (y, j)) (h3 : rnum (s.drop (i + j)) = some (z, l)) : rent s = some (⟨x, y, z⟩, i + j + l) := by unfold rent; rw [h]; simp only []; rw [h2]; simp only []; rw [h3]
theorem batL_pos (l : List En) : 5 ≤ (batL l).length := by
  unfold batL bodyL
  rw [List.length_append, List.length_append, low_len]
  have := sev_pos l.length
  omega
/-- What breaks off is no batch. -/
theorem rbat_cut {es : List En} (h : BatOk es) (r : List Nat) {j : Nat} (hj : j < (batL es).length) : rbat ((batL es ++ r).take j) = none := by
  rw [List.take_append_of_le_length (by omega)]
  cases hx : rbat ((batL es).take j) with
  | none => rfl
  | some p =>
    obtain ⟨xs, k⟩ := p
    obtain ⟨p1, p2, p3, p4⟩ := rbat_back ((batL_all es).take j) hx
    rw [List.length_take] at p3
    rw [List.take_take, Nat.min_eq_left (by omega)] at p4
    have e : batL es = batL xs ++ (batL es).drop k := by rw [← p4, List.take_append_drop]
    have a := rbat_batL h []
    rw [List.append_nil, e, rbat_batL p1] at a
    have a' := Option.some.inj a
    have a2 := congrArg Prod.snd a'
    rw [← e] at a2
    simp only at a2
    omega

/-- SO MANY BATCHES READ. -/
def rdN (s : List Nat) : Nat → Option (List (List En) × Nat)
  | 0 => some ([], 0)
  | n + 1 => match rdN s n with
    | none => none
    | some (d, u) => match rbat (s.drop u) with
      | none => none
      | some (b, k) => some (d ++ [b], u + k)
/-- AS FAR AS IT IS READ. -/
def Rd (s : List Nat) (d : List (List En)) (u : Nat) : Prop := rdN s d.length = some (d, u)
theorem Rd.nil {s : List Nat} : Rd s [] 0 := rfl
theorem Rd.snoc {s : List Nat} {d : List (List En)} {u : Nat} {b : List En} {k : Nat} (h : Rd s d u) (hb : rbat (s.drop u) = some (b, k)) : Rd s (d ++ [b]) (u + k) := by
  have h' : rdN s d.length = some (d, u) := h
  show rdN s (d ++ [b]).length = _
  rw [List.length_append, List.length_singleton]
  unfold rdN
  rw [h']
  simp only []
  rw [hb]
theorem rdN_len {s : List Nat} : ∀ {n : Nat} {d : List (List En)} {u : Nat}, rdN s n = some (d, u) → d.length = n
  | 0, d, u, h => by
    have e1 : [] = d := congrArg Prod.fst (Option.some.inj h)
    rw [← e1]; rfl
  | n + 1, d, u, h => by
    unfold rdN at h
    split at h
    · cases h
    next d' u' hd =>
    split at h
    · cases h
    next b k hb =>
    have e1 : d' ++ [b] = d := congrArg Prod.fst (Option.some.inj h)
    rw [← e1, List.length_append, List.length_singleton, rdN_len hd]
theorem Rd.ind {s : List Nat} {P : List (List En) → Nat → Prop} (h0 : P [] 0) (h1 : ∀ d u b k, Rd s d u → rbat (s.drop u) = some (b, k) → P d u → P (d ++ [b]) (u + k)) : ∀ (n : Nat) (d : List (List En)) (u : Nat), rdN s n = some (d, u) → P d u
  | 0, d, u, h => by
    have e1 : [] = d := congrArg Prod.fst (Option.some.inj h)
    have e2 : 0 = u := congrArg Prod.snd (Option.some.inj h)
    subst e1 e2
    exact h0
  | n + 1, d, u, h => by
    unfold rdN at h
    split at h
    · cases h
    next d' u' hd =>
    split at h
    · cases h
    next b k hb =>
    have e1 : d' ++ [b] = d := congrArg Prod.fst (Option.some.inj h)
    have e2 : u' + k = u := congrArg Prod.snd (Option.some.inj h)
    subst e1 e2
    exact h1 d' u' b k (by show rdN s d'.length = _; rw [rdN_len hd]; exact hd) hb (Rd.ind h0 h1 n d' u' hd)
/-- .. to its end. -/
def Fin (s : List Nat) (d : List (List En)) (u : Nat) : Prop := Rd s d u ∧ rbat (s.drop u) = none
theorem recL_snoc (l : List (List En)) (b : List En) : recL (l ++ [b]) = recL l ++ batL b := by simp [recL]
theorem Rd.back {s : List Nat} {d : List (List En)} {u : Nat} (ha : AllB s) (h : Rd s d u) : u ≤ s.length ∧ s.take u = recL d ∧ RecOk d ∧ u = (recL d).length ∧ 5 * d.length ≤ u := by
  refine Rd.ind (s := s) (P := fun d u => u ≤ s.length ∧ s.take u = recL d ∧ RecOk d ∧ u = (recL d).length ∧ 5 * d.length ≤ u) ⟨by omega, by simp [recL], by simp [RecOk], by simp [recL], by simp⟩ ?_ _ d u h
  rintro d u b k _ h2 ⟨p1, p2, p3, p4, p5⟩
  obtain ⟨q1, q2, q3, q4⟩ := rbat_back (ha.drop _) h2
  rw [List.length_drop] at q3
  refine ⟨by omega, by rw [recL_snoc]; exact take_join p2 q4, ?_, by rw [recL_snoc, List.length_append]; omega, ?_⟩
  · intro x hx
    rcases List.mem_append.1 hx with hx | hx
    · exact p3 x hx
    · simp at hx; subst hx; exact q1
  · rw [List.length_append, List.length_singleton]
    have := batL_pos b
    omega
theorem Rd.same {s : List Nat} {d : List (List En)} {u : Nat} {d' : List (List En)} {u' : Nat} (h : Rd s d u) (h' : Rd s d' u') (hl : d.length = d'.length) : d = d' ∧ u = u' := by
  have h1 : rdN s d.length = some (d, u) := h
  have h2 : rdN s d'.length = some (d', u') := h'
  rw [hl, h2] at h1
  have e := Option.some.inj h1
  exact ⟨(congrArg Prod.fst e).symm, (congrArg Prod.snd e).symm⟩
theorem Rd.upto {s : List Nat} {d : List (List En)} {u : Nat} (h : Rd s d u) : ∀ n, n < d.length → ∃ v b k, Rd s (d.take n) v ∧ rbat (s.drop v) = some (b, k) := by
  refine Rd.ind (s := s) (P := fun d u => ∀ n, n < d.length → ∃ v b k, Rd s (d.take n) v ∧ rbat (s.drop v) = some (b, k)) (fun n hn => by simp at hn) ?_ _ d u h
  intro d u b k h1 h2 ih n hn
  by_cases h : n < d.length
  · obtain ⟨v, b', k', p1, p2⟩ := ih n h
    exact ⟨v, b', k', by rw [List.take_append_of_le_length (by omega)]; exact p1, p2⟩
  · rw [List.length_append, List.length_singleton] at hn
    have : n = d.length := by omega
    subst this
    exact ⟨u, b, k, by rw [List.take_left]; exact h1, h2⟩
theorem Fin.same {s : List Nat} {d : List (List En)} {u : Nat} {d' : List (List En)} {u' : Nat} (h : Fin s d u) (h' : Fin s d' u') : d = d' ∧ u = u' := by
  rcases Nat.lt_trichotomy d.length d'.length with hl | hl | hl
  · obtain ⟨v, b, k, p1, p2⟩ := h'.1.upto _ hl
    obtain ⟨_, rfl⟩ := h.1.same p1 (by rw [List.length_take]; omega)
    rw [h.2] at p2
    cases p2
  · exact h.1.same h'.1 hl
  · obtain ⟨v, b, k, p1, p2⟩ := h.1.upto _ hl
    obtain ⟨_, rfl⟩ := h'.1.same p1 (by rw [List.length_take]; omega)
    rw [h'.2] at p2
    cases p2
theorem recL_app (a b : List (List En)) : recL (a ++ b) = recL a ++ recL b := by simp [recL]
theorem recL_cons (b : List En) (r : List (List En)) : recL (b :: r) = batL b ++ recL r := rfl
theorem RecOk.take {l : List (List En)} (h : RecOk l) (j : Nat) : RecOk (l.take j) := fun b hb => h b (List.mem_of_mem_take hb)
theorem getD_lt {α : Type} {l : List α} {d : α} {j : Nat} (h : j < l.length) : l[j]?.getD d = l[j] := by rw [List.getElem?_eq_getElem h]; rfl
theorem take_snocB {α : Type} (l : List α) (k : Nat) (d : α) (h : k < l.length) : l.take (k + 1) = l.take k ++ [l[k]?.getD d] := by
  rw [List.take_succ_eq_append_getElem h, getD_lt h]
theorem recL_split (l : List (List En)) (j : Nat) (hj : j < l.length) : recL l = recL (l.take j) ++ (batL (l[j]?.getD []) ++ recL (l.drop (j + 1))) := by
  rw [← recL_cons, ← recL_app, getD_lt hj, ← List.drop_eq_getElem_cons hj, List.take_append_drop]
theorem Rd.of_take {l : List (List En)} (h : RecOk l) (k : Nat) : ∀ j, j ≤ l.length → (recL (l.take j)).length ≤ k → Rd ((recL l).take k) (l.take j) (recL (l.take j)).length
  | 0, _, _ => by simpa [recL] using Rd.nil
  | j + 1, hj, hk => by
    rw [take_snocB l j [] (by omega), recL_snoc, List.length_append] at hk ⊢
    have ih := Rd.of_take h k j (by omega) (by omega)
    refine ih.snoc ?_
    rw [List.drop_take, recL_split l j (by omega), List.drop_left, List.take_append, List.take_of_length_le (by omega)]
    exact rbat_batL (h _ (by rw [getD_lt (show j < l.length by omega)]; exact List.getElem_mem _)) _
/-- OF ANY BEGINNING OF A RECORD some of the first batches are read, and no others. -/
theorem fin_of_take {l : List (List En)} (h : RecOk l) {k : Nat} (hk : k ≤ (recL l).length) :
    ∃ j, j ≤ l.length ∧ Fin ((recL l).take k) (l.take j) (recL (l.take j)).length ∧ (recL (l.take j)).length ≤ k ∧ (j = l.length → k = (recL l).length) ∧ (j < l.length → k < (recL (l.take (j + 1))).length) := by
  have go : ∀ j, j ≤ l.length → (recL (l.take j)).length ≤ k ∨ ∃ i, i < j ∧ (recL (l.take i)).length ≤ k ∧ k < (recL (l.take (i + 1))).length := by
    intro j
    induction j with
    | zero => intro _; exact Or.inl (by simp [recL])
    | succ j ih =>
      intro hj
      rcases ih (by omega) with a | ⟨i, a, b⟩
      · by_cases hh : (recL (l.take (j + 1))).length ≤ k
        · exact Or.inl hh
        · exact Or.inr ⟨j, by omega, a, by omega⟩
      · exact Or.inr ⟨i, by omega, b⟩
  rcases go l.length (Nat.le_refl _) with a | ⟨i, a, b, c⟩
  · have e : k = (recL l).length := by rw [List.take_length] at a; omega
    refine ⟨l.length, Nat.le_refl _, ⟨Rd.of_take h k _ (Nat.le_refl _) a, ?_⟩, a, fun _ => e, fun x => by omega⟩
    rw [List.take_length, List.drop_eq_nil_of_le (by rw [List.length_take]; omega)]
    exact rbat_nil
  · refine ⟨i, by omega, ⟨Rd.of_take h k i (by omega) b, ?_⟩, b, fun x => by omega, fun _ => c⟩
    rw [List.drop_take, recL_split l i (by omega), List.drop_left]
    rw [take_snocB l i [] (by omega), recL_snoc, List.length_append] at c
    exact rbat_cut (h _ (by rw [getD_lt (show i < l.length by omega)]; exact List.getElem_mem _)) _ (by omega)
/-- A RECORD IS READ WHOLE. -/
theorem fin_whole {l : List (List En)} (h : RecOk l) : Fin (recL l) l (recL l).length := by
  obtain ⟨j, h1, h2, h3, h4, h5⟩ := fin_of_take h (Nat.le_refl _)
  have : j = l.length := by
    by_cases e : j < l.length
    · have := h5 e
      have e2 : recL l = recL (l.take (j + 1)) ++ recL (l.drop (j + 1)) := by rw [← recL_app, List.take_append_drop]
      rw [e2, List.length_append] at this
      omega
    · omega
  subst this
  rw [List.take_length, List.take_length] at h2
  exact h2
theorem enL_len {e : En} (h : EnOk e) : (enL e).length ≤ 27 := by
  obtain ⟨⟨h1, h2⟩, ⟨h3, h4⟩, h5, h6⟩ := h
  unfold enL
  have a := sev_nine (n := e.k.toNat) (by unfold mx; omega)
  have b := sev_nine (n := e.a.toNat) (by unfold mx; omega)
  have c := sev_nine (n := e.b.toNat) (by unfold mx; omega)
  simp only [List.length_append]
  omega
theorem ensL_len : ∀ {l : List En}, (∀ e ∈ l, EnOk e) → (ensL l).length ≤ 27 * l.length
  | [], _ => by simp [ensL]
  | e :: r, h => by
    show (enL e ++ ensL r).length ≤ _
    have a := enL_len (h e (by simp))
    have b := ensL_len (l := r) (fun x hx => h x (by simp [hx]))
    rw [List.length_append, List.length_cons]
    omega
/-- How many entries there are. -/
def manyE (l : List (List En)) : Nat := (l.map List.length).sum
theorem batL_len {l : List En} (h : BatOk l) : (batL l).length ≤ 27 * l.length + 5 := by
  unfold batL bodyL
  have a := ensL_len h.2
  have b := sev_len 0 l.length (by have := h.1; omega)
  rw [List.length_append, List.length_append, low_len]
  omega
theorem recL_len : ∀ {l : List (List En)}, RecOk l → (recL l).length ≤ 27 * manyE l + 5 * l.length
  | [], _ => by simp [recL]
  | b :: r, h => by
    have a := batL_len (h b (by simp))
    have c := recL_len (l := r) (fun x hx => h x (by simp [hx]))
    rw [recL_cons, List.length_append, List.length_cons]
    have : manyE (b :: r) = b.length + manyE r := by simp [manyE]
    omega
end Go.Proofs.YtalmcjkaheofpaeDoor

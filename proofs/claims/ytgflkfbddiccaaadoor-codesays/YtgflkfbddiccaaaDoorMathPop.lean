/-
  Plain mathematics: the sums side by side by which package math/bits counts the bits of a word of 64 bits give their number. Nothing of the program is named here.
-/
import Derived.Test.YtgflkfbddiccaaaDoorMathHam
namespace Go.Proofs.YtgflkfbddiccaaaDoor

/-- A number of its bytes, the least first. -/
def join : List Nat → Nat
  | [] => 0
  | b :: r => 256 * join r + b
def msk (c : Nat) : Nat → Nat
  | 0 => 0
  | n + 1 => 256 * msk c n + c
theorem bytes_of : ∀ n x, x < 256 ^ n → ∃ l : List Nat, l.length = n ∧ AllB l ∧ join l = x
  | 0, x, h => ⟨[], rfl, fun _ h => by simp at h, by simp [join] at h ⊢; omega⟩
  | n + 1, x, h => by
    obtain ⟨l, h1, h2, h3⟩ := bytes_of n (x / 256) (by rw [Nat.pow_succ] at h; omega)
    refine ⟨x % 256 :: l, by simp [h1], fun y hy => ?_, by simp [join, h3]; omega⟩
    rcases List.mem_cons.1 hy with rfl | hy
    · omega
    · exact h2 y hy
theorem and_lane (q r M m : Nat) (hr : r < 256) (hm : m < 256) : (256 * q + r) &&& (256 * M + m) = 256 * (q &&& M) + (r &&& m) := by
  have h1 := Nat.and_div_two_pow (a := 256 * q + r) (b := 256 * M + m) (n := 8)
  have h2 := Nat.and_mod_two_pow (a := 256 * q + r) (b := 256 * M + m) (n := 8)
  have e : 2 ^ 8 = 256 := rfl
  rw [e] at h1 h2
  have a1 : (256 * q + r) / 256 = q := by omega
  have a2 : (256 * q + r) % 256 = r := by omega
  have a3 : (256 * M + m) / 256 = M := by omega
  have a4 : (256 * M + m) % 256 = m := by omega
  rw [a1, a3] at h1
  rw [a2, a4] at h2
  omega
def g1 (r : Nat) : Nat := (r / 2 &&& 85) + (r &&& 85)
def g2 (r : Nat) : Nat := (r / 4 &&& 51) + (r &&& 51)
def g3 (r : Nat) : Nat := (r / 16 + r) % 16
theorem low1 : ∀ (b : Fin 2) (s : Fin 128), (128 * b.val + s.val) &&& 85 = s.val &&& 85 := by decide +kernel
theorem low2 : ∀ (b : Fin 4) (s : Fin 64), (64 * b.val + s.val) &&& 51 = s.val &&& 51 := by decide +kernel
theorem step1 : ∀ l : List Nat, AllB l → (join l / 2 &&& msk 85 l.length) + (join l &&& msk 85 l.length) = join (l.map g1)
  | [], _ => by simp [join, msk]
  | r :: l, h => by
    have hr : r < 256 := h r (by simp)
    have ih := step1 l (fun x hx => h x (by simp [hx]))
    have e1 : (256 * join l + r) / 2 = 256 * (join l / 2) + (128 * (join l % 2) + r / 2) := by omega
    have e2 := low1 ⟨join l % 2, by omega⟩ ⟨r / 2, by omega⟩
    simp only at e2
    simp only [join, msk, List.length_cons, List.map_cons]
    rw [e1, and_lane _ _ _ _ (by omega) (by decide), and_lane _ _ _ _ hr (by decide), e2, ← ih]
    unfold g1
    omega
theorem step2 : ∀ l : List Nat, AllB l → (join l / 4 &&& msk 51 l.length) + (join l &&& msk 51 l.length) = join (l.map g2)
  | [], _ => by simp [join, msk]
  | r :: l, h => by
    have hr : r < 256 := h r (by simp)
    have ih := step2 l (fun x hx => h x (by simp [hx]))
    have e1 : (256 * join l + r) / 4 = 256 * (join l / 4) + (64 * (join l % 4) + r / 4) := by omega
    have e2 := low2 ⟨join l % 4, by omega⟩ ⟨r / 4, by omega⟩
    simp only at e2
    simp only [join, msk, List.length_cons, List.map_cons]
    rw [e1, and_lane _ _ _ _ (by omega) (by decide), and_lane _ _ _ _ hr (by decide), e2, ← ih]
    unfold g2
    omega
def Half (l : List Nat) : Prop := ∀ x ∈ l, x ≤ 68 ∧ x % 16 ≤ 4
theorem join_low {l : List Nat} (h : Half l) : join l % 16 ≤ 4 := by
  cases l with
  | nil => simp [join]
  | cons r l => have := h r (by simp); simp only [join]; omega
theorem and15 (x : Nat) : x &&& 15 = x % 16 := Nat.and_two_pow_sub_one_eq_mod x 4
theorem step3 : ∀ l : List Nat, Half l → (join l / 16 + join l) &&& msk 15 l.length = join (l.map g3)
  | [], _ => by simp [join, msk]
  | r :: l, h => by
    have hr := h r (by simp)
    have hl : Half l := fun x hx => h x (by simp [hx])
    have ih := step3 l hl
    have hq := join_low hl
    have e1 : (256 * join l + r) / 16 + (256 * join l + r) = 256 * (join l / 16 + join l) + (16 * (join l % 16) + r / 16 + r) := by omega
    simp only [join, msk, List.length_cons, List.map_cons]
    rw [e1, and_lane _ _ _ _ (by omega) (by decide), ih, and15]
    unfold g3
    omega
theorem g1_lt : ∀ r : Fin 256, g1 r.val < 256 := by decide +kernel
theorem g2_half : ∀ r : Fin 256, g2 (g1 r.val) ≤ 68 ∧ g2 (g1 r.val) % 16 ≤ 4 := by decide +kernel
theorem g123 : ∀ r : Fin 256, g3 (g2 (g1 r.val)) = pop 8 r.val := by decide +kernel

theorem pop_over (n x q : Nat) : pop n (x + 2 ^ n * q) = pop n x := by
  induction n generalizing x with
  | zero => rfl
  | succ n ih =>
    simp only [pop]
    have e1 : (x + 2 ^ (n + 1) * q) % 2 = x % 2 := by rw [Nat.pow_succ, Nat.mul_comm (2 ^ n) 2, Nat.mul_assoc]; omega
    have e2 : (x + 2 ^ (n + 1) * q) / 2 = x / 2 + 2 ^ n * q := by rw [Nat.pow_succ, Nat.mul_comm (2 ^ n) 2, Nat.mul_assoc]; omega
    rw [e1, e2, ih]
theorem pop_add (m x : Nat) : ∀ n, pop (m + n) x = pop m x + pop n (x / 2 ^ m)
  | 0 => rfl
  | n + 1 => by
    rw [← Nat.add_assoc, pop_snoc, pop_add m x n, pop_snoc n (x / 2 ^ m), Nat.div_div_eq_div_mul, ← Nat.pow_add]
    omega
theorem pop_join (n r q : Nat) (hr : r < 256) : pop (8 + n) (256 * q + r) = pop 8 r + pop n q := by
  rw [pop_add]
  have e1 : 256 * q + r = r + 2 ^ 8 * q := by omega
  have e2 : (256 * q + r) / 2 ^ 8 = q := by omega
  rw [e2, e1, pop_over]

theorem div_of {n m A B : Nat} (h : n = m * A + B) (hB : B < m) : n / m = A := by
  rw [h, Nat.mul_add_div (by omega), Nat.div_eq_of_lt hB, Nat.add_zero]
theorem mod_of {n q r : Nat} (h : n = 128 * q + r) (hr : r < 128) : n % 128 = r := by omega
theorem mask85 : msk 85 8 = 6148914691236517205 := by decide +kernel
theorem mask51 : msk 51 8 = 3689348814741910323 := by decide +kernel
theorem mask15 : msk 15 8 = 1085102592571150095 := by decide +kernel

/-- The road of math/bits.OnesCount64, with each number on the way. -/
theorem ones_road (x : Nat) (hx : x < 18446744073709551616) : ∃ y1 y2 y3 : Nat, (x / 2 &&& 6148914691236517205) + (x &&& 6148914691236517205) = y1 ∧
    (y1 / 4 &&& 3689348814741910323) + (y1 &&& 3689348814741910323) = y2 ∧ (y2 / 16 + y2) &&& 1085102592571150095 = y3 ∧ y1 < 18446744073709551616 ∧ y2 < 5764607523034234880 ∧
    y3 < 651061555542690057 ∧ (y3 + y3 / 256 + (y3 + y3 / 256) / 65536 + (y3 + y3 / 256 + (y3 + y3 / 256) / 65536) / 4294967296) % 128 = pop 64 x := by
  obtain ⟨l, hl, hb, rfl⟩ := bytes_of 8 x hx
  have s1 := step1 l hb
  have hb1 : AllB (l.map g1) := by
    intro y hy
    obtain ⟨r, hr, rfl⟩ := List.mem_map.1 hy
    exact g1_lt ⟨r, hb r hr⟩
  have s2 := step2 (l.map g1) hb1
  have hb2 : Half ((l.map g1).map g2) := by
    intro y hy
    obtain ⟨z, hz, rfl⟩ := List.mem_map.1 hy
    obtain ⟨r, hr, rfl⟩ := List.mem_map.1 hz
    exact g2_half ⟨r, hb r hr⟩
  have s3 := step3 ((l.map g1).map g2) hb2
  simp only [List.length_map, hl] at s1 s2 s3
  rw [mask85] at s1
  rw [mask51] at s2
  rw [mask15] at s3
  refine ⟨_, _, _, s1, s2, s3, ?_⟩
  match l, hl with
  | [b0, b1, b2, b3, b4, b5, b6, b7], _ =>
    clear s1 s2 s3
    have c : ∀ b ∈ [b0, b1, b2, b3, b4, b5, b6, b7], g1 b < 256 ∧ (g2 (g1 b) ≤ 68) ∧ g3 (g2 (g1 b)) = pop 8 b := fun b h =>
      ⟨g1_lt ⟨b, hb b h⟩, (g2_half ⟨b, hb b h⟩).1, g123 ⟨b, hb b h⟩⟩
    have c0 := c b0 (by simp); have c1 := c b1 (by simp); have c2 := c b2 (by simp); have c3 := c b3 (by simp)
    have c4 := c b4 (by simp); have c5 := c b5 (by simp); have c6 := c b6 (by simp); have c7 := c b7 (by simp)
    have d0 := hb b0 (by simp); have d1 := hb b1 (by simp); have d2 := hb b2 (by simp); have d3 := hb b3 (by simp)
    have d4 := hb b4 (by simp); have d5 := hb b5 (by simp); have d6 := hb b6 (by simp); have d7 := hb b7 (by simp)
    clear c hb hb1 hb2 hx
    have P : pop 64 (join [b0, b1, b2, b3, b4, b5, b6, b7]) = pop 8 b0 + (pop 8 b1 + (pop 8 b2 + (pop 8 b3 + (pop 8 b4 + (pop 8 b5 + (pop 8 b6 + (pop 8 b7 + 0))))))) := by
      have z : pop 0 0 = 0 := rfl
      rw [← z]
      simp only [join]
      rw [← pop_join 0 b7 0 d7, ← pop_join 8 b6 _ d6, ← pop_join 16 b5 _ d5, ← pop_join 24 b4 _ d4, ← pop_join 32 b3 _ d3, ← pop_join 40 b2 _ d2, ← pop_join 48 b1 _ d1, ← pop_join 56 b0 _ d0]
    have q0 := pop_le 8 b0; have q1 := pop_le 8 b1; have q2 := pop_le 8 b2; have q3 := pop_le 8 b3
    have q4 := pop_le 8 b4; have q5 := pop_le 8 b5; have q6 := pop_le 8 b6; have q7 := pop_le 8 b7
    rw [P]
    simp only [List.map_cons, List.map_nil, c0.2.2, c1.2.2, c2.2.2, c3.2.2, c4.2.2, c5.2.2, c6.2.2, c7.2.2]
    generalize pop 8 b0 = p0 at *; generalize pop 8 b1 = p1 at *; generalize pop 8 b2 = p2 at *; generalize pop 8 b3 = p3 at *
    generalize pop 8 b4 = p4 at *; generalize pop 8 b5 = p5 at *; generalize pop 8 b6 = p6 at *; generalize pop 8 b7 = p7 at *
    generalize g2 (g1 b0) = r0 at *; generalize g2 (g1 b1) = r1 at *; generalize g2 (g1 b2) = r2 at *; generalize g2 (g1 b3) = r3 at *
    generalize g2 (g1 b4) = r4 at *; generalize g2 (g1 b5) = r5 at *; generalize g2 (g1 b6) = r6 at *; generalize g2 (g1 b7) = r7 at *
    simp only [join]
    refine ⟨by omega, by omega, by omega, ?_⟩
    rw [div_of (n := 256 * (256 * (256 * (256 * (256 * (256 * (256 * (256 * 0 + p7) + p6) + p5) + p4) + p3) + p2) + p1) + p0) (m := 256) (A := 256 * (256 * (256 * (256 * (256 * (256 * (256 * 0 + p7) + p6) + p5) + p4) + p3) + p2) + p1) (B := p0) rfl (by omega)]
    rw [div_of (m := 65536) (A := 256 * (256 * (256 * (256 * (256 * p7 + (p6 + p7)) + (p5 + p6)) + (p4 + p5)) + (p3 + p4)) + (p2 + p3)) (B := 256 * (p1 + p2) + (p0 + p1)) (by omega) (by omega)]
    rw [div_of (m := 4294967296) (A := 256 * (256 * (256 * p7 + (p6 + p7)) + (p5 + p6 + p7)) + (p4 + p5 + (p6 + p7))) (B := 256 * (256 * (256 * (p3 + p4 + (p5 + p6)) + (p2 + p3 + (p4 + p5))) + (p1 + p2 + (p3 + p4))) + (p0 + p1 + (p2 + p3))) (by omega) (by omega)]
    exact mod_of (q := 2 * (256 * (256 * (256 * (256 * (256 * (256 * p7 + (p6 + p7)) + (p5 + p6 + p7)) + (p4 + p5 + (p6 + p7))) + (p3 + p4 + (p5 + p6) + p7)) + (p2 + p3 + (p4 + p5) + (p6 + p7))) + (p1 + p2 + (p3 + p4) + (p5 + p6 + p7)))) (by omega) (by omega)

end Go.Proofs.YtgflkfbddiccaaaDoor

/-
  What the law MemApart gives: true, whatever the numbers and the bytes.
-/
import Derived.Test.YtgeigfgmokikcaiNumbersWalk
namespace Go.Proofs.Ytgeigfgmokikcai
open Go.RowKit
set_option linter.unusedVariables false

/-- Bytes that came in. -/
structure BIn (w : World) (a : Option Addr) (cap : Nat) (l : List Nat) : Prop where
  lies : Lies w a l
  all : AllB l
  big : l.length ≤ 140737488355328
  nil : a = none → cap = 0
  cap : l.length ≤ cap
theorem BIn.below {w w' : World} {a : Option Addr} {cap : Nat} {l : List Nat} (h : BIn w a cap l) (hb : Below w.heap.size w w') : BIn w' a cap l := ⟨h.lies.below hb, h.all, h.big, h.nil, h.cap⟩
theorem bytes_same (a a2 : Option Addr) (xs : List Nat) (cap cap2 : Nat) (w : World) (hm : xs.length ≤ 140737488355328) (hc : Lies w a xs) (hc2 : Lies w a2 xs) :
    Calls Try.prog 8 #[.slice a xs.length cap, .slice a2 xs.length cap2] w fun e w' => e = .returned (.bool true) ∧ Below w.heap.size w w' := by
  have := bytes_any a a2 xs xs cap cap2 w hm hm hc hc2
  rw [decide_eq_true rfl] at this
  exact this
theorem apart_bad (n a b : Int) (xa ya : Option Addr) (xl xc yl yc : Nat) (w : World) (h : n < 0 ∨ 16384 < n) :
    Calls Try.prog 3 #[.int .i64 n, .int .i64 a, .slice xa xl xc, .int .i64 b, .slice ya yl yc] w fun e w' => e = .returned (.bool true) ∧ Below w.heap.size w w' := by
  have HP := new_bad n w h
  rcases h with h | h
  · go_enter Try.func3, Try.ntmps3
    go_wp2_with fail
    refine HP.mono ?_
    rintro e w' ⟨rfl, rfl⟩
    clear HP
    go_wp2
    go_ret
    exact ⟨rfl, Below.refl _ _⟩
  · have h0 : ¬ n < 0 := by omega
    go_enter Try.func3, Try.ntmps3
    go_wp2_with fail
    refine HP.mono ?_
    rintro e w' ⟨rfl, rfl⟩
    clear HP
    go_wp2
    go_ret
    exact ⟨rfl, Below.refl _ _⟩
set_option maxRecDepth 20000 in
set_option maxHeartbeats 800000 in
/-- The first Write was refused. -/
theorem apart_no (n : Nat) (a b : Int) (xa ya : Option Addr) (xl xc yl yc : Nat) (w : World) (h : n ≤ 16384) (hi : -9223372036854775808 ≤ a ∧ a ≤ 9223372036854775807) (hf : ¬ fits n a (xl : Nat)) :
    Calls Try.prog 3 #[.int .i64 (n : Nat), .int .i64 a, .slice xa xl xc, .int .i64 b, .slice ya yl yc] w fun e w' => e = .returned (.bool true) ∧ Below w.heap.size w w' := by
  have HN : Hid (Calls Try.prog 5 #[.int .i64 n] w fun e w' => NewPost w w' e n) := new_yes n w h
  have HW : Hid (∀ wz mb hb, MW wz mb hb (List.replicate n 0) → Calls Try.prog 6 #[.pointer (some ⟨mb, 0, none⟩), .int .i64 a, .slice xa xl xc] wz fun e w' => e = .returned (.iface 37 (.int .i64 1)) ∧ wz = w') := fun wz mb hb hm => write_no mb hb _ a xa xl xc wz hm (by rw [List.length_replicate]; exact hf) hi
  clear h hf hi
  go_enter Try.func3, Try.ntmps3
  go_wp2_with fail
  refine HN.out.mono ?_
  rintro e w1 ⟨mb, hb, rfl, hm, b1, _, _⟩
  have HB : Hid (MW w1 mb hb (List.replicate n 0) ∧ Below w.heap.size w w1) := ⟨hm, b1⟩
  clear hm b1 HN
  go_wp2_with fail
  refine (HW.out w1 mb hb HB.out.1).mono ?_
  rintro e w2 ⟨rfl, rfl⟩
  clear HW
  go_wp2
  go_ret
  exact ⟨rfl, HB.out.2⟩
/-- Whether what is written second lies elsewhere. -/
abbrev elsewhere (a : Nat) (xl : Nat) (b : Int) (yl : Nat) : Prop := (a : Int) + xl ≤ b ∨ (0 ≤ b ∧ b ≤ (a : Int) - yl)
/-- What any Write that lies elsewhere leaves. -/
theorem write_far (mb hb : Nat) (l : List Nat) (a n : Nat) (b : Int) (ya : Option Addr) (ys : List Nat) (yc : Nat) (w : World) (h : MW w mb hb l) (hI : BIn w ya yc ys) (hb2 : -9223372036854775808 ≤ b ∧ b ≤ 9223372036854775807) (hf : a + n ≤ l.length) (he : elsewhere a n b ys.length) :
    Calls Try.prog 6 #[.pointer (some ⟨mb, 0, none⟩), .int .i64 b, .slice ya ys.length yc] w fun e w' => (∃ v, e = .returned v) ∧ ∃ l', MW w' mb hb l' ∧ l'.length = l.length ∧ cut l' a n = cut l a n ∧ Keep (fun b => b = hb) w w' := by
  by_cases h2 : fits l.length b (ys.length : Nat)
  · obtain ⟨k, rfl, hk⟩ := fits_nat h2
    refine (write_yes mb hb l k ya ys yc w h hI.lies hI.all hk).mono ?_
    rintro e w' ⟨rfl, m1, k1⟩
    refine ⟨⟨_, rfl⟩, _, m1, lay_len hk, lay_far hk hf ?_, k1⟩
    unfold elsewhere at he
    omega
  · refine (write_no mb hb l b ya ys.length yc w h h2 hb2).mono ?_
    rintro e w' ⟨rfl, rfl⟩
    exact ⟨⟨_, rfl⟩, l, h, rfl, rfl, Keep.refl _ _⟩
set_option maxRecDepth 20000 in
set_option maxHeartbeats 1600000 in
theorem apart_yes (n a : Nat) (b : Int) (xa ya : Option Addr) (xs ys : List Nat) (xc yc : Nat) (w : World) (h : n ≤ 16384) (hf : a + xs.length ≤ n) (hX : BIn w xa xc xs) (hY : BIn w ya yc ys) (hb2 : -9223372036854775808 ≤ b ∧ b ≤ 9223372036854775807) :
    Calls Try.prog 3 #[.int .i64 (n : Nat), .int .i64 (a : Nat), .slice xa xs.length xc, .int .i64 b, .slice ya ys.length yc] w fun e w' => e = .returned (.bool true) ∧ Below w.heap.size w w' := by
  have HN : Hid (Calls Try.prog 5 #[.int .i64 n] w fun e w' => NewPost w w' e n) := new_yes n w h
  have HIn : Hid (∀ wz, Below w.heap.size w wz → BIn wz xa xc xs ∧ BIn wz ya yc ys) := fun wz hz => ⟨hX.below hz, hY.below hz⟩
  have HW : Hid (∀ wz mb hb, Below w.heap.size w wz → MW wz mb hb (List.replicate n 0) → Calls Try.prog 6 #[.pointer (some ⟨mb, 0, none⟩), .int .i64 (a : Nat), .slice xa xs.length xc] wz fun e w' => e = .returned .nilIface ∧ (∃ l, MW w' mb hb l ∧ a + xs.length ≤ l.length ∧ cut l a xs.length = xs) ∧ Keep (fun b => b = hb) wz w') := fun wz mb hb hz hm => by
    have hl : a + xs.length ≤ (List.replicate n 0).length := by rw [List.length_replicate]; exact hf
    refine (write_yes mb hb _ a xa xs xc wz hm (HIn.out wz hz).1.lies hX.all hl).mono ?_
    rintro e w' ⟨rfl, m1, k1⟩
    exact ⟨rfl, ⟨_, m1, by rw [lay_len hl]; exact hl, lay_cut hl⟩, k1⟩
  have HR : Hid (∀ wz mb hb l, MW wz mb hb l → a + xs.length ≤ l.length → cut l a xs.length = xs → Calls Try.prog 7 #[.pointer (some ⟨mb, 0, none⟩), .int .i64 (a : Nat), .int .i64 (xs.length : Nat)] wz fun e w' => ∃ a1 c1, e = .returned (.tuple #[.slice a1 xs.length c1, .nilIface]) ∧ Lies w' a1 xs ∧ Below wz.heap.size wz w') := fun wz mb hb l hm hl hc => by
    refine (read_yes mb hb l a xs.length wz hm hl).mono ?_
    rintro e w' ⟨a1, c1, rfl, o1, b1⟩
    rw [hc] at o1 ⊢
    exact ⟨a1, c1, rfl, o1.lies, b1⟩
  have HBy : Hid (∀ wz a1 c1, Below w.heap.size w wz → Lies wz a1 xs → Calls Try.prog 8 #[.slice a1 xs.length c1, .slice xa xs.length xc] wz fun e w' => e = .returned (.bool true) ∧ Below wz.heap.size wz w') := fun wz a1 c1 hz hl => bytes_same a1 xa xs c1 xc wz hX.big hl (HIn.out wz hz).1.lies
  have HF : Hid (∀ wz mb hb l, Below w.heap.size w wz → MW wz mb hb l → a + xs.length ≤ l.length → cut l a xs.length = xs → elsewhere a xs.length b ys.length → Calls Try.prog 6 #[.pointer (some ⟨mb, 0, none⟩), .int .i64 b, .slice ya ys.length yc] wz fun e w' => (∃ v, e = .returned v) ∧ (∃ l', MW w' mb hb l' ∧ a + xs.length ≤ l'.length ∧ cut l' a xs.length = xs) ∧ Keep (fun b => b = hb) wz w') := fun wz mb hb l hz hm hl hc he => by
    refine (write_far mb hb l a xs.length b ya ys yc wz hm (HIn.out wz hz).2 hb2 hl he).mono ?_
    rintro e w' ⟨hv, l', m1, e1, e2, k1⟩
    exact ⟨hv, ⟨l', m1, by rw [e1]; exact hl, e2.trans hc⟩, k1⟩
  have hal : (a : Int) + ((xs.length : Nat) : Int) ≤ 16384 := by omega
  have hyl : ((ys.length : Nat) : Int) ≤ 140737488355328 := by have := hY.big; omega
  generalize xs.length = XL at *
  generalize ys.length = YL at *
  clear h hf hX hY
  go_enter Try.func3, Try.ntmps3
  go_wp2_with fail
  refine HN.out.mono ?_
  rintro e w1 ⟨mb, hb, rfl, hm, b1, g1, g2⟩
  have HB1 : Hid (MW w1 mb hb (List.replicate n 0) ∧ Below w.heap.size w w1 ∧ w.heap.size ≤ hb) := ⟨hm, b1, g2⟩
  clear hm b1 HN g1 g2
  go_wp2_with fail
  refine (HW.out w1 mb hb HB1.out.2.1 HB1.out.1).mono ?_
  rintro e w2 ⟨rfl, ⟨l, m2, m3, m4⟩, k2⟩
  have HB2 : Hid (MW w2 mb hb l ∧ a + XL ≤ l.length ∧ cut l a XL = xs ∧ Below w.heap.size w w2 ∧ w.heap.size ≤ hb) := ⟨m2, m3, m4, HB1.out.2.1.trans (k2.below HB1.out.2.1.size (fun k hk => by rw [hk]; exact HB1.out.2.2)), HB1.out.2.2⟩
  clear m2 m3 m4 k2 HB1 HW
  go_wp2_with fail
  refine (HR.out w2 mb hb l HB2.out.1 HB2.out.2.1 HB2.out.2.2.1).mono ?_
  rintro e w3 ⟨a1, c1, rfl, l1, b3⟩
  have HB3 : Hid (MW w3 mb hb l ∧ a + XL ≤ l.length ∧ cut l a XL = xs ∧ Below w.heap.size w w3 ∧ w.heap.size ≤ hb) := ⟨HB2.out.1.below b3, HB2.out.2.1, HB2.out.2.2.1, HB2.out.2.2.2.1.trans (b3.mono HB2.out.2.2.2.1.size), HB2.out.2.2.2.2⟩
  clear b3 HB2
  go_wp2_with fail
  refine (HBy.out w3 a1 c1 HB3.out.2.2.2.1 l1).mono ?_
  rintro e w4 ⟨rfl, b4⟩
  have HB4 : Hid (MW w4 mb hb l ∧ a + XL ≤ l.length ∧ cut l a XL = xs ∧ Below w.heap.size w w4 ∧ w.heap.size ≤ hb) := ⟨HB3.out.1.below b4, HB3.out.2.1, HB3.out.2.2.1, HB3.out.2.2.2.1.trans (b4.mono HB3.out.2.2.2.1.size), HB3.out.2.2.2.2⟩
  clear b4 HB3 l1
  by_cases he : elsewhere a XL b YL
  · have HL : Hid (Calls Try.prog 6 #[.pointer (some ⟨mb, 0, none⟩), .int .i64 b, .slice ya YL yc] w4 fun e w' => (∃ v, e = .returned v) ∧ (∃ l', MW w' mb hb l' ∧ a + XL ≤ l'.length ∧ cut l' a XL = xs) ∧ Keep (fun b => b = hb) w4 w') := HF.out w4 mb hb l HB4.out.2.2.2.1 HB4.out.1 HB4.out.2.1 HB4.out.2.2.1 he
    clear HF
    have tail : Hid (∀ w5, (∃ l', MW w5 mb hb l' ∧ a + XL ≤ l'.length ∧ cut l' a XL = xs) ∧ Keep (fun b => b = hb) w4 w5 → Below w.heap.size w w5) := fun w5 hz => HB4.out.2.2.2.1.trans (hz.2.below HB4.out.2.2.2.1.size (fun k hk => by rw [hk]; exact HB4.out.2.2.2.2))
    clear HB4
    have he2 := he
    clear he
    rcases he2 with h1 | ⟨h1, h2⟩
    · go_wp2_with fail
      refine HL.out.mono ?_
      rintro e w5 ⟨⟨v, rfl⟩, ⟨l5, m5, m6, m7⟩, k5⟩
      have B5 : Hid (Below w.heap.size w w5) := tail.out w5 ⟨⟨l5, m5, m6, m7⟩, k5⟩
      have HR5 := HR.out w5 mb hb l5 m5 m6 m7
      clear HL tail m5 m6 m7 k5
      go_wp2_with fail
      refine HR5.mono ?_
      rintro e w6 ⟨a6, c6, rfl, l6, b6⟩
      have B6 : Hid (Below w.heap.size w w6) := B5.out.trans (b6.mono B5.out.size)
      clear HR5 B5 b6
      go_wp2_with fail
      refine (HBy.out w6 a6 c6 B6.out l6).mono ?_
      rintro e w7 ⟨rfl, b7⟩
      have B7 : Hid (Below w.heap.size w w7) := B6.out.trans (b7.mono B6.out.size)
      clear B6 b7 l6
      go_wp2
      go_ret
      exact ⟨rfl, B7.out⟩
    · by_cases h3 : (a : Int) + (XL : Int) ≤ b
      · go_wp2_with fail
        refine HL.out.mono ?_
        rintro e w5 ⟨⟨v, rfl⟩, ⟨l5, m5, m6, m7⟩, k5⟩
        have B5 : Hid (Below w.heap.size w w5) := tail.out w5 ⟨⟨l5, m5, m6, m7⟩, k5⟩
        have HR5 := HR.out w5 mb hb l5 m5 m6 m7
        clear HL tail m5 m6 m7 k5
        go_wp2_with fail
        refine HR5.mono ?_
        rintro e w6 ⟨a6, c6, rfl, l6, b6⟩
        have B6 : Hid (Below w.heap.size w w6) := B5.out.trans (b6.mono B5.out.size)
        clear HR5 B5 b6
        go_wp2_with fail
        refine (HBy.out w6 a6 c6 B6.out l6).mono ?_
        rintro e w7 ⟨rfl, b7⟩
        have B7 : Hid (Below w.heap.size w w7) := B6.out.trans (b7.mono B6.out.size)
        clear B6 b7 l6
        go_wp2
        go_ret
        exact ⟨rfl, B7.out⟩
      · go_wp2_with fail
        refine HL.out.mono ?_
        rintro e w5 ⟨⟨v, rfl⟩, ⟨l5, m5, m6, m7⟩, k5⟩
        have B5 : Hid (Below w.heap.size w w5) := tail.out w5 ⟨⟨l5, m5, m6, m7⟩, k5⟩
        have HR5 := HR.out w5 mb hb l5 m5 m6 m7
        clear HL tail m5 m6 m7 k5
        go_wp2_with fail
        refine HR5.mono ?_
        rintro e w6 ⟨a6, c6, rfl, l6, b6⟩
        have B6 : Hid (Below w.heap.size w w6) := B5.out.trans (b6.mono B5.out.size)
        clear HR5 B5 b6
        go_wp2_with fail
        refine (HBy.out w6 a6 c6 B6.out l6).mono ?_
        rintro e w7 ⟨rfl, b7⟩
        have B7 : Hid (Below w.heap.size w w7) := B6.out.trans (b7.mono B6.out.size)
        clear B6 b7 l6
        go_wp2
        go_ret
        exact ⟨rfl, B7.out⟩
  · have hN1 : ¬ (a : Int) + (XL : Int) ≤ b := fun e => he (Or.inl e)
    by_cases h0 : 0 ≤ b
    · have hN2 : ¬ b ≤ (a : Int) - (YL : Int) := fun e => he (Or.inr ⟨h0, e⟩)
      clear he HF HR HBy
      go_wp2
      go_ret
      exact ⟨rfl, HB4.out.2.2.2.1⟩
    · clear he HF HR HBy
      go_wp2
      go_ret
      exact ⟨rfl, HB4.out.2.2.2.1⟩
theorem apart_any (n a b : Int) (xa ya : Option Addr) (xs ys : List Nat) (xc yc : Nat) (w : World) (hi : -9223372036854775808 ≤ a ∧ a ≤ 9223372036854775807) (hX : BIn w xa xc xs) (hY : BIn w ya yc ys) (hb2 : -9223372036854775808 ≤ b ∧ b ≤ 9223372036854775807) :
    Calls Try.prog 3 #[.int .i64 n, .int .i64 a, .slice xa xs.length xc, .int .i64 b, .slice ya ys.length yc] w fun e w' => e = .returned (.bool true) ∧ Below w.heap.size w w' := by
  by_cases h : n < 0 ∨ 16384 < n
  · exact apart_bad n a b xa ya _ xc _ yc w h
  · obtain ⟨m, rfl⟩ := Int.eq_ofNat_of_zero_le (show 0 ≤ n by omega)
    by_cases hf : fits m a (xs.length : Nat)
    · obtain ⟨k, rfl, hk⟩ := fits_nat hf
      exact apart_yes m k b xa ya xs ys xc yc w (by omega) hk hX hY hb2
    · exact apart_no m a b xa ya _ xc _ yc w (by omega) hi hf
end Go.Proofs.Ytgeigfgmokikcai

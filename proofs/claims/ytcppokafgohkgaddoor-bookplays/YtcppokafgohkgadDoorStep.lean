/-
  What the call of granarylaw1.bookStep gives: true, and both books go on alike.
-/
import Derived.Test.YtcppokafgohkgadDoorRef
namespace Go.Proofs.YtcppokafgohkgadDoor
open Go.RowKit
set_option linter.unusedVariables false

/-- WHAT LIES THERE BETWEEN TWO CALLS: both books of one state. -/
structure PS (L P B bb ab ob rb g cap : Nat) (w wr : World) (s : Bk) : Prop where
  bs : BS L P B bb ab ob w wr s
  ra : RA L P wr rb g cap s.pa
  ge : B ≤ rb ∧ B ≤ g
  ne : rb ≠ ab ∧ rb ≠ ob ∧ g ≠ bb ∧ g ≠ ab ∧ g ≠ ob
/-- .. inside of one, with the call itself in a block of its own. -/
structure PH (L P B bb ab ob rb g cap nb : Nat) (x y : Int) (w wr : World) (s : Bk) (f : Nat → Int) : Prop where
  bs : BS L P B bb ab ob w wr s
  ra : RA L P wr rb g cap f
  k1 : wr.cell? ⟨nb, 1, none⟩ = some (.int .i64 x)
  k2 : wr.cell? ⟨nb, 2, none⟩ = some (.int .i64 y)
  ge : B ≤ rb ∧ B ≤ g
  ne : rb ≠ ab ∧ rb ≠ ob ∧ g ≠ bb ∧ g ≠ ab ∧ g ≠ ob
  nn : nb ≠ ab ∧ nb ≠ ob ∧ nb ≠ g
section
variable {L P B bb ab ob rb g cap nb : Nat} {x y : Int} {w wr w' : World} {s s' : Bk} {f f' : Nat → Int}
theorem PS.box (h : PS L P B bb ab ob rb g cap w wr s) (kd x y : Int) : PH L P B bb ab ob rb g cap wr.heap.size x y w (wr.alloc (.cells #[.int .i64 kd, .int .i64 x, .int .i64 y] 48)) s s.pa := by
  have hb : Below wr.heap.size wr (wr.alloc (.cells #[.int .i64 kd, .int .i64 x, .int .i64 y] 48)) := (Below.refl _ _).alloc (Nat.le_refl _) _
  have l1 := h.bs.bo.bw.lt
  have l2 := h.ra.lt
  exact ⟨h.bs.below hb, h.ra.keep (S := fun _ => False) (Keep.of_below hb) id id, by simp, by simp, h.ge, h.ne, by omega⟩
theorem PH.prog (h : PH L P B bb ab ob rb g cap nb x y w wr s f) (hb : BO L P w' bb ab ob s') (hk : Keep (BT ab ob) wr w') : PH L P B bb ab ob rb g cap nb x y w w' s' f := by
  have hn := h.nn
  have he := h.ne
  have n0 : ¬ BT ab ob nb := fun e => by rcases e with e | e <;> omega
  have n1 : ¬ BT ab ob rb := fun e => by rcases e with e | e <;> omega
  have n2 : ¬ BT ab ob g := fun e => by rcases e with e | e <;> omega
  have l := World.block_lt_of_cell? wr _ h.k1
  exact ⟨h.bs.step hb hk, h.ra.keep hk n1 n2, by rw [hk.cell (p := ⟨nb, 1, none⟩) l n0]; exact h.k1, by rw [hk.cell (p := ⟨nb, 2, none⟩) l n0]; exact h.k2, h.ge, he, hn⟩
theorem PH.ref (h : PH L P B bb ab ob rb g cap nb x y w wr s f) (hr : RA L P w' rb g cap f') (hk : Keep (fun b => b = g) wr w') : PH L P B bb ab ob rb g cap nb x y w w' s f' := by
  have hn := h.nn
  have he := h.ne
  have l := World.block_lt_of_cell? wr _ h.k1
  exact ⟨h.bs.keep hk (fun b e => by
    have e : b = g := e
    subst e
    exact ⟨h.ge.2, fun e2 => by rcases e2 with e2 | e2 | e2 <;> omega⟩), hr, by rw [hk.cell (p := ⟨nb, 1, none⟩) l (fun e => hn.2.2 e)]; exact h.k1, by rw [hk.cell (p := ⟨nb, 2, none⟩) l (fun e => hn.2.2 e)]; exact h.k2, h.ge, he, hn⟩
theorem PH.below (h : PH L P B bb ab ob rb g cap nb x y w wr s f) (hb : Below wr.heap.size wr w') : PH L P B bb ab ob rb g cap nb x y w w' s f := by
  have l := World.block_lt_of_cell? wr _ h.k1
  exact ⟨h.bs.below hb, h.ra.keep (S := fun _ => False) (Keep.of_below hb) id id, by rw [hb.cell (p := ⟨nb, 1, none⟩) l]; exact h.k1, by rw [hb.cell (p := ⟨nb, 2, none⟩) l]; exact h.k2, h.ge, h.ne, h.nn⟩
theorem PH.done (h : PH L P B bb ab ob rb g cap nb x y w wr s s.pa) : PS L P B bb ab ob rb g cap w wr s := ⟨h.bs, h.ra, h.ge, h.ne⟩
end
/-- What a step is to give. -/
def Steps (L P B bb ab ob rb g cap : Nat) (w wr : World) (kd x y : Int) : Prop :=
  Calls Tryd.prog 18 #[.pointer (some ⟨bb, 0, none⟩), .pointer (some ⟨rb, 0, none⟩), .agg #[.int .i64 kd, .int .i64 x, .int .i64 y]] wr fun e w' => e = .returned (.bool true) ∧ ∃ s', PS L P B bb ab ob rb g cap w w' s'
set_option maxRecDepth 100000 in
set_option maxHeartbeats 4000000 in
theorem step1 {L P B bb ab ob rb g cap : Nat} {w wr : World} {s : Bk} (h : PS L P B bb ab ob rb g cap w wr s) (hE : ∀ w', Below B w w' → EType w') (x y : Int) : Steps L P B bb ab ob rb g cap w wr 1 x y := by
  have HE : Hid (∀ w', Below B w w' → EType w') := hE
  have HN : Hid (PH L P B bb ab ob rb g cap wr.heap.size x y w (wr.alloc (.cells #[.int .i64 1, .int .i64 x, .int .i64 y] 48)) s s.pa) := h.box 1 x y
  have HI : Hid (Inv L P s) := h.bs.bo.inv
  clear h hE
  unfold Steps
  go_enter Tryd.func18, Tryd.ntmps18
  go_wp2_with fail
  generalize wr.alloc (.cells #[.int .i64 1, .int .i64 x, .int .i64 y] 48) = wa at HN ⊢
  generalize wr.heap.size = nb at *
  have HS : Hid (Calls Tryd.prog 19 #[.pointer (some ⟨bb, 0, none⟩), .int .i64 x, .int .i64 y] wa fun e w' => e = .returned (errI (setF L P s x y).1) ∧ BO L P w' bb ab ob (setF L P s x y).2 ∧ Keep (BT ab ob) wa w') := set_any HN.out.bs.bo x y
  have HRS : Hid (∀ W, RA L P W rb g cap s.pa → Calls Tryd.prog 31 #[.pointer (some ⟨rb, 0, none⟩), .int .i64 x, .int .i64 y] W fun e w' => e = .returned (.int .i64 ((setF L P s x y).1 : Nat)) ∧ RA L P w' rb g cap (setF L P s x y).2.pa ∧ Keep (fun b => b = g) W w') := fun W hW => rset_any hW HI.out x y
  clear HI
  generalize setF L P s x y = r at *
  obtain ⟨ec, s2⟩ := r
  refine HS.out.mono ?_
  rintro e w2 ⟨rfl, h2, hk2⟩
  have H2 : Hid (PH L P B bb ab ob rb g cap nb x y w w2 s2 s.pa) := HN.out.prog h2 hk2
  clear h2 hk2 HS HN
  have k1 := H2.out.k1
  have k2 := H2.out.k2
  have HER : Hid (∀ W, PH L P B bb ab ob rb g cap nb x y w W s2 s2.pa → Calls Tryd.prog 14 #[errI ec, .int .i64 (ec : Int)] W fun ev w' => ev = .returned (.bool true) ∧ Below W.heap.size W w') := fun W hW => same_err ec W (HE.out W hW.bs.bel)
  go_wp2_with fail
  refine (HRS.out _ H2.out.ra).mono ?_
  rintro e w3 ⟨rfl, h3, hk3⟩
  have H3 : Hid (PH L P B bb ab ob rb g cap nb x y w w3 s2 s2.pa) := H2.out.ref h3 hk3
  clear h3 hk3 HRS H2 k1 k2
  go_wp2_with fail
  refine (HER.out _ H3.out).mono ?_
  rintro e w4 ⟨rfl, hb4⟩
  have H4 : Hid (PS L P B bb ab ob rb g cap w w4 s2) := (H3.out.below hb4).done
  clear hb4 H3 HER
  go_wp2
  go_ret
  exact ⟨rfl, _, H4.out⟩
end Go.Proofs.YtcppokafgohkgadDoor

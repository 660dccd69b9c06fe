/-
  The document's buffer: how it lies; what the calls of Find and Add give.
-/
import Derived.Test.YtphacdnepjpmoafDoorLaw
namespace Go.Proofs.YtphacdnepjpmoafDoor
open Go.RowKit
set_option linter.unusedVariables false

/-- THE DOCUMENT's BUFFER has the items M. -/
structure RF (w : World) (rb most : Nat) (ia : Option Addr) (icap : Nat) (M : List RN) : Prop where
  bk : w.heap[rb]? = some (.cells #[.int .i64 most, .slice ia M.length icap] 42 (0, 0))
  row : RowAt 71 w ia M
  lc : M.length ≤ icap
  cm : icap ≤ 9223372036854775807
theorem RF.below {w w' : World} {rb most icap : Nat} {ia : Option Addr} {M : List RN} (h : RF w rb most ia icap M) (hb : Below w.heap.size w w') : RF w' rb most ia icap M := ⟨(hb.block rb (heap_lt h.bk)).trans h.bk, h.row.below hb, h.lc, h.cm⟩
theorem RF.apart {B : Nat} {w w' : World} {rb most icap : Nat} {ia : Option Addr} {M : List RN} (h : RF w rb most ia icap M) (hb : Apart B w w') : RF w' rb most ia icap M := ⟨(hb.oth rb _ _ _ h.bk (by decide) (by decide)).trans h.bk, h.row.apart hb (by decide) (by decide), h.lc, h.cm⟩
theorem RF.c0 {w : World} {rb most icap : Nat} {ia : Option Addr} {M : List RN} (h : RF w rb most ia icap M) : w.cell? ⟨rb, 0, none⟩ = some (.int .i64 most) := (ptr_at h.bk).trans rfl
theorem RF.c1 {w : World} {rb most icap : Nat} {ia : Option Addr} {M : List RN} (h : RF w rb most ia icap M) : w.cell? ⟨rb, 1, none⟩ = some (.slice ia M.length icap) := (ptr_at h.bk).trans rfl
def lbaR (M : List RN) (i : Nat) : Int := (M[i]?.getD rn0).it.lba
/-- WHERE AN LBA's ITEM STANDS (-1: nowhere). -/
def Idx (M : List RN) (l z : Int) : Prop := (z = -1 ∧ (∀ i, i < M.length → lbaR M i ≠ l)) ∨ ∃ i : Nat, z = (i : Int) ∧ i < M.length ∧ lbaR M i = l
theorem lbaR_map (M : List RN) (i : Nat) (h : i < M.length) : (M.map (·.it))[i]? = some (M[i]?.getD rn0).it := by
  rw [List.getElem?_map, List.getElem?_eq_getElem h]; rfl
theorem nodup_at {l : List Int} (h : l.Nodup) {i j : Nat} {x : Int} (hij : i < j) (h1 : l[i]? = some x) (h2 : l[j]? = some x) : False := by
  obtain ⟨a1, e1⟩ := List.getElem?_eq_some_iff.1 h1
  obtain ⟨a2, e2⟩ := List.getElem?_eq_some_iff.1 h2
  exact (List.pairwise_iff_getElem.1 h i j a1 a2 hij) (e1.trans e2.symm)
theorem Idx.fnd {M : List RN} {l z : Int} (h : Idx M l z) (hn : ((M.map (·.it)).map (·.lba)).Nodup) : (z = -1 ∧ fnd (M.map (·.it)) l = none) ∨ ∃ i : Nat, z = (i : Int) ∧ i < M.length ∧ fnd (M.map (·.it)) l = some (M[i]?.getD rn0).it := by
  rcases h with ⟨h1, h2⟩ | ⟨i, h1, h2, h3⟩
  · refine Or.inl ⟨h1, ?_⟩
    unfold YtphacdnepjpmoafDoor.fnd
    rw [List.find?_eq_none]
    intro x hx
    obtain ⟨i, hi, e⟩ := List.getElem_of_mem hx
    rw [List.length_map] at hi
    have := h2 i hi
    have e2 := lbaR_map M i hi
    rw [List.getElem?_eq_getElem (by rw [List.length_map]; exact hi), e] at e2
    unfold lbaR at this
    rw [← Option.some.inj e2] at this
    simpa using this
  · refine Or.inr ⟨i, h1, h2, ?_⟩
    have hm : (M[i]?.getD rn0).it ∈ M.map (·.it) := List.mem_of_getElem? (lbaR_map M i h2)
    cases hf : YtphacdnepjpmoafDoor.fnd (M.map (·.it)) l with
    | none =>
      have := fnd_none hf
      unfold has at this
      rw [List.any_eq_false] at this
      have h4 := this _ hm
      unfold lbaR at h3
      simp [h3] at h4
    | some x =>
      obtain ⟨q1, q2⟩ := fnd_some hf
      obtain ⟨j, hj, e⟩ := List.getElem_of_mem q1
      rw [List.length_map] at hj
      have ej := lbaR_map M j hj
      rw [List.getElem?_eq_getElem (by rw [List.length_map]; exact hj), e] at ej
      have hij : j = i := by
        have g1 : ((M.map (·.it)).map (·.lba))[j]? = some l := by rw [List.getElem?_map, lbaR_map M j hj, ← Option.some.inj ej, Option.map_some, q2]
        have g2 : ((M.map (·.it)).map (·.lba))[i]? = some l := by rw [List.getElem?_map, lbaR_map M i h2, Option.map_some]; unfold lbaR at h3; rw [h3]
        rcases Nat.lt_trichotomy j i with hlt | he | hgt
        · exact (nodup_at hn hlt g1 g2).elim
        · exact he
        · exact (nodup_at hn hgt g2 g1).elim
      rw [hij] at ej
      rw [ej]
theorem Idx.iff {M : List RN} {l z : Int} (h : Idx M l z) (hn : ((M.map (·.it)).map (·.lba)).Nodup) (i : Nat) (hi : i < M.length) : (i : Int) = z ↔ lbaR M i = l := by
  rcases h with ⟨h1, h2⟩ | ⟨j, h1, h2, h3⟩
  · exact ⟨fun e => by omega, fun e => absurd e (h2 i hi)⟩
  · refine ⟨fun e => by have : i = j := by omega
                        rw [this]; exact h3, fun e => ?_⟩
    have g1 : ((M.map (·.it)).map (·.lba))[j]? = some l := by rw [List.getElem?_map, lbaR_map M j h2, Option.map_some]; unfold lbaR at h3; rw [h3]
    have g2 : ((M.map (·.it)).map (·.lba))[i]? = some l := by rw [List.getElem?_map, lbaR_map M i hi, Option.map_some]; unfold lbaR at e; rw [e]
    rcases Nat.lt_trichotomy j i with hlt | he | hgt
    · exact (nodup_at hn hlt g1 g2).elim
    · omega
    · exact (nodup_at hn hgt g2 g1).elim
set_option maxRecDepth 20000 in
set_option maxHeartbeats 1600000 in
theorem find_any {w : World} {rb most icap : Nat} {ia : Option Addr} {M : List RN} (h : RF w rb most ia icap M) (l : Int) :
    Calls Tryd.prog 25 #[.pointer (some ⟨rb, 0, none⟩), .int .i64 l] w fun e w' => (∃ z, e = .returned (.int .i64 z) ∧ Idx M l z) ∧ Below w.heap.size w w' := by
  have HC : Hid (∀ wr, Below w.heap.size w wr → RF wr rb most ia icap M) := fun wr hb => h.below hb
  have hlen : M.length ≤ 9223372036854775807 := Nat.le_trans h.lc h.cm
  clear h
  go_enter Tryd.func25, Tryd.ntmps25
  go_wp2
  go_loopw [5] (fun j wr => ∃ k : Nat, k ≤ M.length ∧ j = .int .i64 k ∧ Hid (∀ i, i < k → lbaR M i ≠ l) ∧ Below w.heap.size w wr) (fun j _ => M.length - (intOf j).toNat)
  case atStart => exact ⟨0, by omega, rfl, (fun i h => by omega), Below.refl _ _⟩
  case round =>
    obtain ⟨k, hk, rfl, hno, hbr⟩ := hrel
    have hF := HC.out wr hbr
    have c1 := hF.c1
    by_cases hlt : k < M.length
    · obtain ⟨g, off, ha, d0, _, _⟩ := hF.row.at hlt
      clear hF HC
      rw [ha] at c1
      have HX : Hid (∀ X, lbaR M k = X → (X = l → Idx M l (k : Int)) ∧ (X ≠ l → ∀ i, i < k + 1 → lbaR M i ≠ l)) := by
        rintro X rfl
        refine ⟨fun e => Or.inr ⟨k, rfl, hlt, e⟩, fun e i hi => ?_⟩
        by_cases h2 : i < k
        · exact hno.out i h2
        · have : i = k := by omega
          rw [this]; exact e
      have HX2 := HX.out _ rfl
      have HX3 : Hid ((lbaR M k = l → Idx M l (k : Int)) ∧ (lbaR M k ≠ l → ∀ i, i < k + 1 → lbaR M i ≠ l)) := HX2
      clear HX HX2
      have d0' : wr.cell? ⟨g, off + k * 3, none⟩ = some (.int .i64 (lbaR M k)) := d0
      clear d0
      generalize lbaR M k = X at *
      by_cases hX : X = l
      · have hi := HX3.out.1 hX
        have HI : Hid (Idx M l (k : Int)) := hi
        have t1 : (X == l) = true := by simp [hX]
        clear HX3 hi hno hX
        go_wp2
        go_ret
        exact ⟨⟨_, rfl, HI.out⟩, hbr⟩
      · have t1 : (X == l) = false := by rw [beq_eq_false_iff_ne]; exact hX
        have HI : Hid (∀ i, i < k + 1 → lbaR M i ≠ l) := HX3.out.2 hX
        clear HX3 hno hX
        go_wp2
        go_roundw
        case rel => exact ⟨k + 1, by omega, by go_num, HI, hbr⟩
        case measure => simp [intOf]; omega
    · obtain rfl : k = M.length := by omega
      have HI : Hid (Idx M l (-1)) := Or.inl ⟨rfl, hno.out⟩
      clear hF HC hno
      go_wp2
      go_ret
      exact ⟨⟨_, rfl, HI.out⟩, hbr⟩
end Go.Proofs.YtphacdnepjpmoafDoor

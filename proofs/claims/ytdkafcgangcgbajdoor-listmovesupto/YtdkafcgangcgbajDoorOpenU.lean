/-
  What the arguments give the walks where the reading is of so much bulk: bytes, and segments.
-/
import Derived.Test.YtdkafcgangcgbajDoorOpenE
import Derived.Test.YtdkafcgangcgbajDoorGather
namespace Go.Proofs.YtdkafcgangcgbajDoor
open Go.ChangeShapes Go.WideShapes Go.ChangeAt Go.RowKit

theorem cellsSg : Tryd.prog.cellsOf 38 = 2 := by kernel_rfl
theorem list2 {α : Type} {l : List α} (h : l.length = 2) : ∃ a b, l = [a, b] :=
  match l, h with
  | [a, b], _ => ⟨a, b, rfl⟩
theorem bulk_pos {H : Type} (d : DataW H) : 1 ≤ Rows.uptoBulk d := by
  cases d with
  | lit x => cases x <;> simp [Rows.uptoBulk]
  | nil => simp [Rows.uptoBulk]
  | ptr d => simp [Rows.uptoBulk]
  | slice es sp => simp [Rows.uptoBulk]
  | agg ps => simp [Rows.uptoBulk]
  | iface t d => simp [Rows.uptoBulk]
  | map en => simp [Rows.uptoBulk]
  | held h => simp [Rows.uptoBulk]
theorem bulk_row {H : Type} : ∀ (n : Nat) (D : Nat → DataW H), n ≤ Rows.uptoBulkAll ((List.range n).map D)
  | 0, _ => Nat.zero_le _
  | n + 1, D => by
    have h := bulk_row n (fun i => D (i + 1))
    have h1 := bulk_pos (D 0)
    rw [List.range_succ_eq_map, List.map_cons, List.map_map]
    show n + 1 ≤ Rows.uptoBulk (D 0) + Rows.uptoBulkAll ((List.range n).map (fun i => D (i + 1)))
    omega
theorem range_getD {α : Type} (n i : Nat) (f : Nat → α) (d : α) (h : i < n) : ((List.range n).map f)[i]?.getD d = f i := by
  rw [List.getElem?_map, List.getElem?_range h]; rfl
section
variable {H : Type} {enc : TypeId × Value → H} {W : World}
/-- WHAT THE WALK IS TOLD OF BYTES THAT CAME IN. -/
theorem bytes_openU {v : Value} {d : DataW H} {p : List MemPlace} (h : DataW.Trod enc Tryd.prog W 0 (fun _ => true) true 22 v d p) (hv : ∃ a len cap, v = .slice a len cap) (hk : Rows.uptoBulk d ≤ 1048576) :
    ∃ (a : Option Addr) (cap : Nat) (bs : List Nat), v = .slice a bs.length cap ∧ BIn W a cap bs ∧ bs.length ≤ 1048576 := by
  obtain ⟨a0, l0, c0, rfl⟩ := hv
  obtain ⟨fuel, hf⟩ := h
  have hbk : l0 + 1 ≤ Rows.uptoBulk d := by
    rcases Go.Deep.open_slice1 Tryd.underlying22 cells5 hf with ⟨hcs, hx⟩ | ⟨x', len, cap, m, n, V, D, Pl, hcs, _, hl, hm, hmm, hx, hel⟩
    · simp [Value.cells] at hcs
      have := bulk_pos d
      omega
    · simp [Value.cells] at hcs
      obtain ⟨_, rfl, _⟩ := hcs
      have e : d = (DataW.slice ((List.range l0).map D) ((List.range (m - l0)).map fun j => D (l0 + j)) : DataW H) := (Prod.ext_iff.1 hx).1
      have := bulk_row l0 D
      rw [e]
      simp only [Rows.uptoBulk]
      omega
  obtain ⟨a, cap, bs, hcs, h1, _⟩ := bytes_cells hf
  simp [Value.cells] at hcs
  obtain ⟨rfl, rfl, rfl⟩ := hcs
  exact ⟨_, _, bs, rfl, ⟨h1.1, h1.2.1, by omega, h1.2.2.1, h1.2.2.2⟩, by omega⟩
/-- .. of segments that came in. -/
theorem segs_openU {v : Value} {d : DataW H} {p : List MemPlace} (h : DataW.Trod enc Tryd.prog W 0 (fun _ => true) true 26 v d p) (hv : ∃ a len cap, v = .slice a len cap) (hk : Rows.uptoBulk d ≤ 1048576) :
    ∃ (a : Option Addr) (cap : Nat) (L : List Sg), v = .slice a L.length cap ∧ SL W a L ∧ OkS L ∧ (∀ k, k < L.length → -9223372036854775808 ≤ (gS L k).p) ∧ L.length ≤ 1048576 := by
  obtain ⟨a0, l0, c0, rfl⟩ := hv
  obtain ⟨fuel, hf⟩ := h
  rcases Go.Deep.open_slice Tryd.underlying26 hf with ⟨hcs, hx⟩ | ⟨x', len, cap, m, n, D, Pl, hcs, _, hl, hm, hmm, hx, hel⟩
  · simp [Value.cells] at hcs
    obtain ⟨rfl, rfl, rfl⟩ := hcs
    exact ⟨_, _, [], rfl, Or.inl rfl, fun k hk => by simp at hk, fun k hk => by simp at hk, by simp⟩
  · simp [Value.cells] at hcs
    obtain ⟨rfl, rfl, rfl⟩ := hcs
    have hbk : l0 + 1 ≤ Rows.uptoBulk d := by
      have e : d = (DataW.slice ((List.range l0).map D) ((List.range (m - l0)).map fun j => D (l0 + j)) : DataW H) := (Prod.ext_iff.1 hx).1
      have := bulk_row l0 D
      rw [e]
      simp only [Rows.uptoBulk]
      omega
    by_cases h0 : l0 = 0
    · subst h0
      exact ⟨_, _, [], rfl, Or.inl rfl, fun k hk => by simp at hk, fun k hk => by simp at hk, by simp⟩
    have hlm : l0 ≤ m := by rw [hmm]; split <;> omega
    rw [cellsSg] at hel
    obtain ⟨b, off, spot⟩ := x'
    have hspot : spot = none := by
      obtain ⟨cs', q1, q2⟩ := hel 0 (by omega)
      obtain ⟨_, q4, q5⟩ := World.cells?_some q1
      have q6 := q5 0 (by omega)
      rw [List.getElem?_eq_getElem (by omega)] at q6
      simpa [Addr.add] using World.cell?_spot q6
    subst hspot
    have hex : ∀ i, ∃ e : Sg, i < l0 → SgAt W b off i e ∧ (-9223372036854775808 ≤ e.p ∧ e.p ≤ 9223372036854775807) ∧ -9223372036854775808 ≤ e.n := by
      intro i
      by_cases hi : i < l0
      · obtain ⟨cs', q1, q2⟩ := hel i (by omega)
        obtain ⟨_, q4, q5⟩ := World.cells?_some q1
        obtain ⟨xs, n', _, _, _, hxl, hfs⟩ := DataW.trod_struct Tryd.underlying38 q2
        obtain ⟨c0, c1, rfl⟩ := list2 q4
        obtain ⟨y0, y1, rfl⟩ := list2 (l := xs) hxl
        have f0 := hfs 0 _ rfl
        have f1 := hfs 1 _ rfl
        simp [cells3] at f0 f1
        obtain ⟨n0, e0, _, w0⟩ := DataW.trod_int Tryd.underlying3 f0
        obtain ⟨n1, e1, _, w1⟩ := DataW.trod_int Tryd.underlying3 f1
        simp at e0 e1
        subst e0 e1
        have g0 := q5 0 (by omega)
        have g1 := q5 1 (by omega)
        simp [Go.WideShapes.add_plain] at g0 g1
        have b0 := bounds_i64 w0
        have b1 := bounds_i64 w1
        exact ⟨⟨n0, n1⟩, fun _ => ⟨⟨g0, g1⟩, by show _ ∧ _; omega, by show -9223372036854775808 ≤ n1; omega⟩⟩
      · exact ⟨sg0, fun h => absurd h hi⟩
    have hg : ∀ i, i < l0 → gS ((List.range l0).map (fun i => Classical.choose (hex i))) i = Classical.choose (hex i) := fun i hi => range_getD l0 i _ _ hi
    refine ⟨some ⟨b, off, none⟩, c0, (List.range l0).map (fun i => Classical.choose (hex i)), by rw [List.length_map, List.length_range], Or.inr ⟨b, off, rfl, fun i hi => ?_⟩, fun k hk => ?_, fun k hk => ?_, by rw [List.length_map, List.length_range]; omega⟩
    · rw [List.length_map, List.length_range] at hi
      rw [hg i hi]
      exact (Classical.choose_spec (hex i) hi).1
    · rw [List.length_map, List.length_range] at hk
      rw [hg k hk]
      exact ⟨(Classical.choose_spec (hex k) hk).2.1.2, (Classical.choose_spec (hex k) hk).2.2⟩
    · rw [List.length_map, List.length_range] at hk
      rw [hg k hk]
      exact (Classical.choose_spec (hex k) hk).2.1.1
end
end Go.Proofs.YtdkafcgangcgbajDoor

/-
  What the calls of the document's answers granaryref1.ofLow and OpenOf give: the number of some bytes; the frame and the state of a page.
-/
import Derived.Test.YtdkafcgangcgbagGreatDoorQ8
import Derived.Test.YtdkafcgangcgbagGreatDoorQ3
namespace Go.Proofs.YtdkafcgangcgbagGreatDoorQ
open Go.Proofs.YtdkafcgangcgbagGreatDoorM
open Go.RowKit
set_option linter.unusedVariables false

theorem beq_no {a b : Int} (h : a ≠ b) : (a == b) = false := beq_eq_false_iff_ne.2 h
theorem num_drop (l : List Nat) (j : Nat) (h : j < l.length) : num (l.drop j) = l[j]?.getD 0 + 256 * num (l.drop (j + 1)) := by
  rw [List.drop_eq_getElem_cons h, List.getElem?_eq_getElem h]
  rfl
theorem num_drop_le : ∀ (l : List Nat) (j : Nat), num (l.drop j) ≤ num l
  | [], j => by simp
  | b :: r, 0 => Nat.le_refl _
  | b :: r, j + 1 => by
    have := num_drop_le r j
    show num (r.drop j) ≤ b + 256 * num r
    omega
set_option maxHeartbeats 800000 in
theorem ofLow_any (b off : Nat) (bs : List Nat) (cap : Nat) (w : World) (hn : bs.length ≤ 8) (hA : AllB bs) (hlt0 : num bs < 9223372036854775808) (hc : ∀ i, i < bs.length → w.cell? ⟨b, off + i, none⟩ = some (.int .u8 ((bs[i]?.getD 0 : Nat) : Int))) :
    Calls (Al.progOf Tryz.prog) 19 #[.slice (some ⟨b, off, none⟩) bs.length cap] w fun e w' => e = .returned (.int .i64 (num bs : Nat)) ∧ w' = w := by
  have HD : Hid (num (bs.drop bs.length) = 0) := by rw [List.drop_length]; rfl
  have HLT : Hid (num bs < 9223372036854775808) := hlt0
  have HA8 : Hid (AllB bs) := hA
  clear hlt0 hA
  go_enter Al.func19, Tryz.ntmps19
  go_wp2
  go_loop [3, 4] (fun t i => ∃ (k : Nat) (z : Int), k ≤ bs.length ∧ z = (k : Int) - 1 ∧ i = .int .i64 z ∧ t = .int .i64 (num (bs.drop k) : Nat)) (fun _ i => (intOf i + 1).toNat)
  case atStart => exact ⟨bs.length, (bs.length : Int) - 1, Nat.le_refl _, rfl, rfl, by rw [HD.out]; rfl⟩
  case round =>
    obtain ⟨k, z, hk, hz, rfl, rfl⟩ := hrel
    cases k with
    | zero =>
      obtain rfl : z = -1 := by omega
      rw [List.drop_zero]
      clear hz hk hc
      go_wp2
      go_ret
      exact ⟨rfl, rfl⟩
    | succ j =>
      obtain rfl : z = (j : Int) := by omega
      have hck := hc j (by omega)
      have hzk := HA8.out.at j
      have hlt0 := HLT.out
      have e := num_drop bs j (by omega)
      have hle := num_drop_le bs j
      have HS : Hid (num (bs.drop j) = bs[j]?.getD 0 + 256 * num (bs.drop (j + 1))) := e
      have hV0 : ∀ a b c d : Nat, a = b + 256 * c → a ≤ d → d < 9223372036854775808 → c * 256 + b < 9223372036854775808 := fun a b c d h1 h2 h3 => by omega
      have hV := hV0 _ _ _ _ e hle hlt0
      clear hV0 e hle hlt0
      generalize num (bs.drop (j + 1)) = V at *
      generalize bs[j]?.getD 0 = B at *
      have hV1 : V * 256 < 9223372036854775808 := Nat.lt_of_le_of_lt (Nat.le_add_right (V * 256) B) hV
      clear hc HD hz
      go_wp2
      go_round
      case rel => exact ⟨j, (j : Int) - 1, by omega, rfl, rfl, val_int (by rw [HS.out]; omega)⟩
      case measure => first | (simp [intOf]; done) | (simp [intOf]; omega)

/-- The document's answer at no bytes. -/
theorem refOpen_nil (a : Option Addr) (cap : Nat) (w : World) :
    Calls (Al.progOf Tryz.prog) 10 #[.slice a 0 cap] w fun e w' => e = .returned (.tuple #[F0, .int .i64 3]) ∧ Below w.heap.size w w' := by
  have HB : Hid (∀ o, Below w.heap.size w (w.alloc o)) := fun o => alloc_below' w o
  go_enter Al.func10, Tryz.ntmps10
  go_wp2
  go_loop [5, 6] (fun t i => t = .bool false ∧ i = .int .i64 0) (fun _ _ => 0)
  case atStart => exact ⟨rfl, rfl⟩
  case round =>
    obtain ⟨rfl, rfl⟩ := hrel
    go_wp2_with fail
    refine bodyPost_ret (v := .tuple #[F0, .int .i64 3]) (by simp [results, Tryz.results10, go_sem]) rfl ?_
    exact ⟨rfl, HB.out _⟩
set_option maxHeartbeats 1600000 in
theorem refOpen_erased (b off : Nat) (p : List Nat) (cap : Nat) (w : World) (h0 : 0 < p.length) (hm : p.length ≤ 9223372036854775807) (hc : ∀ i, i < p.length → w.cell? ⟨b, off + i, none⟩ = some (.int .u8 ((p[i]?.getD 0 : Nat) : Int))) (hE : ErasedP p) :
    Calls (Al.progOf Tryz.prog) 10 #[.slice (some ⟨b, off, none⟩) p.length cap] w fun e w' => e = .returned (.tuple #[F0, .int .i64 1]) ∧ Below w.heap.size w w' := by
  have HB : Hid (∀ o, Below w.heap.size w (w.alloc o)) := fun o => alloc_below' w o
  have HC : Hid (∀ i, i < p.length → (w.alloc zeroF).cell? ⟨b, off + i, none⟩ = some (.int .u8 ((p[i]?.getD 0 : Nat) : Int))) := fun i hi => by
    rw [(HB.out _).cell (p := ⟨b, off + i, none⟩) (World.block_lt_of_cell? w _ (hc i hi))]
    exact hc i hi
  have HER : Hid (ErasedP p) := hE
  clear hE hc
  go_enter Al.func10, Tryz.ntmps10
  go_wp2
  go_loop [5, 6] (fun t i => ∃ (k : Nat) (r : Bool), k ≤ p.length ∧ i = .int .i64 k ∧ t = .bool r ∧ Hid (r = true ↔ (0 < p.length ∧ ∀ j, j < k → p[j]?.getD 0 = 255))) (fun _ i => p.length - (intOf i).toNat)
  case atStart => exact ⟨0, true, by omega, rfl, rfl, fun _ => ⟨h0, fun j h => by omega⟩, fun _ => rfl⟩
  case round =>
      obtain ⟨k, r, hk, rfl, rfl, hr⟩ := hrel
      by_cases hlt : k < p.length
      · have hck := HC.out k hlt
        cases r
        · have HN : Hid (false = true ↔ (0 < p.length ∧ ∀ j, j < k + 1 → p[j]?.getD 0 = 255)) := ⟨(fun e => by cases e), fun e => hr.out.2 ⟨e.1, fun j hj => e.2 j (by omega)⟩⟩
          clear hr hck
          go_wp2
          go_round
          case rel => exact ⟨k + 1, false, by omega, by go_num, rfl, HN.out⟩
          case measure => simp [intOf]; omega
        · by_cases h255 : p[k]?.getD 0 = 255
          · have HN : Hid (true = true ↔ (0 < p.length ∧ ∀ j, j < k + 1 → p[j]?.getD 0 = 255)) := ⟨fun _ => ⟨by omega, fun j hj => by
              by_cases e : j = k
              · subst e; exact h255
              · exact (hr.out.1 rfl).2 j (by omega)⟩, fun _ => rfl⟩
            rw [h255] at hck
            clear hr h255
            go_wp2
            go_round
            case rel => exact ⟨k + 1, true, by omega, by go_num, rfl, HN.out⟩
            case measure => simp [intOf]; omega
          · have HN : Hid (false = true ↔ (0 < p.length ∧ ∀ j, j < k + 1 → p[j]?.getD 0 = 255)) := ⟨(fun e => by cases e), fun e => absurd (e.2 k (by omega)) h255⟩
            generalize p[k]?.getD 0 = X at hck h255
            have hx : ((X : Int) == 255) = false := beq_no (by omega)
            clear hr h255
            go_wp2
            go_round
            case rel => exact ⟨k + 1, false, by omega, by go_num, rfl, HN.out⟩
            case measure => simp [intOf]; omega
      · obtain rfl : k = p.length := by omega
        obtain rfl : r = true := hr.out.2 ⟨by omega, HER.out.2⟩
        clear hr hlt hk
        go_wp2_with fail
        refine bodyPost_ret (v := .tuple #[F0, .int .i64 1]) (by simp [results, Tryz.results10, go_sem]) rfl ?_
        exact ⟨rfl, HB.out _⟩
set_option maxHeartbeats 1600000 in
theorem refOpen_size (b off : Nat) (p : List Nat) (cap : Nat) (w : World) (h0 : 0 < p.length) (hm : p.length ≤ 9223372036854775807) (hc : ∀ i, i < p.length → w.cell? ⟨b, off + i, none⟩ = some (.int .u8 ((p[i]?.getD 0 : Nat) : Int))) (hE : ¬ ErasedP p) (hsz : ¬ (24 ≤ p.length ∧ p.length ≤ 4096)) :
    Calls (Al.progOf Tryz.prog) 10 #[.slice (some ⟨b, off, none⟩) p.length cap] w fun e w' => e = .returned (.tuple #[F0, .int .i64 3]) ∧ Below w.heap.size w w' := by
  have HB : Hid (∀ o, Below w.heap.size w (w.alloc o)) := fun o => alloc_below' w o
  have HC : Hid (∀ i, i < p.length → (w.alloc zeroF).cell? ⟨b, off + i, none⟩ = some (.int .u8 ((p[i]?.getD 0 : Nat) : Int))) := fun i hi => by
    rw [(HB.out _).cell (p := ⟨b, off + i, none⟩) (World.block_lt_of_cell? w _ (hc i hi))]
    exact hc i hi
  have HER : Hid (¬ ErasedP p) := hE
  have HSZ : Hid (¬ (24 ≤ p.length ∧ p.length ≤ 4096)) := hsz
  clear hE hc hsz
  go_enter Al.func10, Tryz.ntmps10
  go_wp2
  go_loop [5, 6] (fun t i => ∃ (k : Nat) (r : Bool), k ≤ p.length ∧ i = .int .i64 k ∧ t = .bool r ∧ Hid (r = true ↔ (0 < p.length ∧ ∀ j, j < k → p[j]?.getD 0 = 255))) (fun _ i => p.length - (intOf i).toNat)
  case atStart => exact ⟨0, true, by omega, rfl, rfl, fun _ => ⟨h0, fun j h => by omega⟩, fun _ => rfl⟩
  case round =>
      obtain ⟨k, r, hk, rfl, rfl, hr⟩ := hrel
      by_cases hlt : k < p.length
      · have hck := HC.out k hlt
        cases r
        · have HN : Hid (false = true ↔ (0 < p.length ∧ ∀ j, j < k + 1 → p[j]?.getD 0 = 255)) := ⟨(fun e => by cases e), fun e => hr.out.2 ⟨e.1, fun j hj => e.2 j (by omega)⟩⟩
          clear hr hck
          go_wp2
          go_round
          case rel => exact ⟨k + 1, false, by omega, by go_num, rfl, HN.out⟩
          case measure => simp [intOf]; omega
        · by_cases h255 : p[k]?.getD 0 = 255
          · have HN : Hid (true = true ↔ (0 < p.length ∧ ∀ j, j < k + 1 → p[j]?.getD 0 = 255)) := ⟨fun _ => ⟨by omega, fun j hj => by
              by_cases e : j = k
              · subst e; exact h255
              · exact (hr.out.1 rfl).2 j (by omega)⟩, fun _ => rfl⟩
            rw [h255] at hck
            clear hr h255
            go_wp2
            go_round
            case rel => exact ⟨k + 1, true, by omega, by go_num, rfl, HN.out⟩
            case measure => simp [intOf]; omega
          · have HN : Hid (false = true ↔ (0 < p.length ∧ ∀ j, j < k + 1 → p[j]?.getD 0 = 255)) := ⟨(fun e => by cases e), fun e => absurd (e.2 k (by omega)) h255⟩
            generalize p[k]?.getD 0 = X at hck h255
            have hx : ((X : Int) == 255) = false := beq_no (by omega)
            clear hr h255
            go_wp2
            go_round
            case rel => exact ⟨k + 1, false, by omega, by go_num, rfl, HN.out⟩
            case measure => simp [intOf]; omega
      · obtain rfl : k = p.length := by omega
        obtain rfl : r = false := by
          cases r
          · rfl
          · exact absurd ⟨by omega, (hr.out.1 rfl).2⟩ HER.out
        clear hr hlt hk
        by_cases hs : p.length < 24
        · go_wp2_with fail
          refine bodyPost_ret (v := .tuple #[F0, .int .i64 3]) (by simp [results, Tryz.results10, go_sem]) rfl ?_
          exact ⟨rfl, HB.out _⟩
        · have hs2 : 4096 < p.length := by have := HSZ.out; omega
          go_wp2_with fail
          refine bodyPost_ret (v := .tuple #[F0, .int .i64 3]) (by simp [results, Tryz.results10, go_sem]) rfl ?_
          exact ⟨rfl, HB.out _⟩
set_option maxHeartbeats 1600000 in
theorem refOpen_top (b off : Nat) (p : List Nat) (cap : Nat) (w : World) (h0 : 0 < p.length) (hm : p.length ≤ 9223372036854775807) (hc : ∀ i, i < p.length → w.cell? ⟨b, off + i, none⟩ = some (.int .u8 ((p[i]?.getD 0 : Nat) : Int))) (hE : ¬ ErasedP p) (h24 : 24 ≤ p.length) (h4096 : p.length ≤ 4096) (ht : 127 < p[13]?.getD 0) :
    Calls (Al.progOf Tryz.prog) 10 #[.slice (some ⟨b, off, none⟩) p.length cap] w fun e w' => e = .returned (.tuple #[F0, .int .i64 3]) ∧ Below w.heap.size w w' := by
  have HB : Hid (∀ o, Below w.heap.size w (w.alloc o)) := fun o => alloc_below' w o
  have HC : Hid (∀ i, i < p.length → (w.alloc zeroF).cell? ⟨b, off + i, none⟩ = some (.int .u8 ((p[i]?.getD 0 : Nat) : Int))) := fun i hi => by
    rw [(HB.out _).cell (p := ⟨b, off + i, none⟩) (World.block_lt_of_cell? w _ (hc i hi))]
    exact hc i hi
  have HER : Hid (¬ ErasedP p) := hE
  have h13 := HC.out 13 (by omega)
  generalize p[13]?.getD 0 = X at h13 ht
  clear hE hc
  go_enter Al.func10, Tryz.ntmps10
  go_wp2
  go_loop [5, 6] (fun t i => ∃ (k : Nat) (r : Bool), k ≤ p.length ∧ i = .int .i64 k ∧ t = .bool r ∧ Hid (r = true ↔ (0 < p.length ∧ ∀ j, j < k → p[j]?.getD 0 = 255))) (fun _ i => p.length - (intOf i).toNat)
  case atStart => exact ⟨0, true, by omega, rfl, rfl, fun _ => ⟨h0, fun j h => by omega⟩, fun _ => rfl⟩
  case round =>
      obtain ⟨k, r, hk, rfl, rfl, hr⟩ := hrel
      by_cases hlt : k < p.length
      · have hck := HC.out k hlt
        cases r
        · have HN : Hid (false = true ↔ (0 < p.length ∧ ∀ j, j < k + 1 → p[j]?.getD 0 = 255)) := ⟨(fun e => by cases e), fun e => hr.out.2 ⟨e.1, fun j hj => e.2 j (by omega)⟩⟩
          clear hr hck
          go_wp2
          go_round
          case rel => exact ⟨k + 1, false, by omega, by go_num, rfl, HN.out⟩
          case measure => simp [intOf]; omega
        · by_cases h255 : p[k]?.getD 0 = 255
          · have HN : Hid (true = true ↔ (0 < p.length ∧ ∀ j, j < k + 1 → p[j]?.getD 0 = 255)) := ⟨fun _ => ⟨by omega, fun j hj => by
              by_cases e : j = k
              · subst e; exact h255
              · exact (hr.out.1 rfl).2 j (by omega)⟩, fun _ => rfl⟩
            rw [h255] at hck
            clear hr h255
            go_wp2
            go_round
            case rel => exact ⟨k + 1, true, by omega, by go_num, rfl, HN.out⟩
            case measure => simp [intOf]; omega
          · have HN : Hid (false = true ↔ (0 < p.length ∧ ∀ j, j < k + 1 → p[j]?.getD 0 = 255)) := ⟨(fun e => by cases e), fun e => absurd (e.2 k (by omega)) h255⟩
            generalize p[k]?.getD 0 = X at hck h255
            have hx : ((X : Int) == 255) = false := beq_no (by omega)
            clear hr h255
            go_wp2
            go_round
            case rel => exact ⟨k + 1, false, by omega, by go_num, rfl, HN.out⟩
            case measure => simp [intOf]; omega
      · obtain rfl : k = p.length := by omega
        obtain rfl : r = false := by
          cases r
          · rfl
          · exact absurd ⟨by omega, (hr.out.1 rfl).2⟩ HER.out
        clear hr hlt hk
        go_wp2_with fail
        refine bodyPost_ret (v := .tuple #[F0, .int .i64 3]) (by simp [results, Tryz.results10, go_sem]) rfl ?_
        exact ⟨rfl, HB.out _⟩
theorem seq_small {p : List Nat} (hA : AllB p) (h : 14 ≤ p.length) (ht : ¬ 127 < p[13]?.getD 0) : num (cutL p 6 8) < 9223372036854775808 := by
  have hl : (cutL p 6 8).length = 8 := cutL_len (by omega)
  have e : cutL p 6 8 = (cutL p 6 8).take 7 ++ [p[13]?.getD 0] := by
    have h1 := take_snocN (cutL p 6 8) 7 (by omega)
    have h2 : (cutL p 6 8)[7]?.getD 0 = p[13]?.getD 0 := by unfold cutL; rw [List.getElem?_take, if_pos (by omega), List.getElem?_drop]
    rw [h2, List.take_of_length_le (by omega)] at h1
    exact h1
  have h3 := num_lt ((cutL p 6 8).take 7) ((cutL_all hA).take 7)
  have h4 : ((cutL p 6 8).take 7).length = 7 := by rw [List.length_take]; omega
  rw [h4] at h3
  rw [e, num_snoc, h4]
  omega
theorem seq_great {p : List Nat} (h : 14 ≤ p.length) (ht : 127 < p[13]?.getD 0) : 9223372036854775808 ≤ seqP p := by
  have hl : (cutL p 6 8).length = 8 := cutL_len (by omega)
  have e : cutL p 6 8 = (cutL p 6 8).take 7 ++ [p[13]?.getD 0] := by
    have h1 := take_snocN (cutL p 6 8) 7 (by omega)
    have h2 : (cutL p 6 8)[7]?.getD 0 = p[13]?.getD 0 := by unfold cutL; rw [List.getElem?_take, if_pos (by omega), List.getElem?_drop]
    rw [h2, List.take_of_length_le (by omega)] at h1
    exact h1
  have h4 : ((cutL p 6 8).take 7).length = 7 := by rw [List.length_take]; omega
  unfold seqP
  rw [e, num_snoc, h4]
  omega
set_option maxHeartbeats 1600000 in
theorem refOpen_long (b off : Nat) (p : List Nat) (cap : Nat) (w : World) (h0 : 0 < p.length) (hm : p.length ≤ 9223372036854775807) (hc : ∀ i, i < p.length → w.cell? ⟨b, off + i, none⟩ = some (.int .u8 ((p[i]?.getD 0 : Nat) : Int))) (hE : ¬ ErasedP p) (hA : AllB p) (hcap : p.length ≤ cap) (h24 : 24 ≤ p.length) (h4096 : p.length ≤ 4096) (ht : ¬ 127 < p[13]?.getD 0) (h3 : ¬ longP p + 21 ≤ p.length) :
    Calls (Al.progOf Tryz.prog) 10 #[.slice (some ⟨b, off, none⟩) p.length cap] w fun e w' => e = .returned (.tuple #[F0, .int .i64 3]) ∧ Below w.heap.size w w' := by
  have HB : Hid (∀ o, Below w.heap.size w (w.alloc o)) := fun o => alloc_below' w o
  have HC : Hid (∀ i, i < p.length → (w.alloc zeroF).cell? ⟨b, off + i, none⟩ = some (.int .u8 ((p[i]?.getD 0 : Nat) : Int))) := fun i hi => by
    rw [(HB.out _).cell (p := ⟨b, off + i, none⟩) (World.block_lt_of_cell? w _ (hc i hi))]
    exact hc i hi
  have HER : Hid (¬ ErasedP p) := hE
  have h13 := HC.out 13 (by omega)
  have h1c := HC.out 1 (by omega)
  have hk8 := hA.at 1
  have HON : Hid (∀ wx, (∀ i, i < p.length → wx.cell? ⟨b, off + i, none⟩ = some (.int .u8 ((p[i]?.getD 0 : Nat) : Int))) → ∀ o k c, o + k ≤ p.length → k ≤ 8 → num (cutL p o k) < 9223372036854775808 → Calls (Al.progOf Tryz.prog) 19 #[.slice (some ⟨b, off + o, none⟩) k c] wx fun e w' => e = .returned (.int .i64 (num (cutL p o k) : Nat)) ∧ w' = wx) := fun wx hx o k c ho hk hl => by
    have := ofLow_any b (off + o) (cutL p o k) c wx (by rw [cutL_len ho]; omega) (cutL_all hA) hl (cut_cells hx o k ho)
    rw [cutL_len ho] at this
    exact this
  have HNB : Hid (num (cutL p 2 4) < 4294967296 ∧ num (cutL p 6 8) < 9223372036854775808 ∧ num (cutL p 14 2) < 65536) := by
    refine ⟨?_, ?_, ?_⟩
    · have := num_lt (cutL p 2 4) (cutL_all hA)
      rw [cutL_len (by omega)] at this
      exact this
    · exact seq_small hA (by omega) ht
    · have := num_lt (cutL p 14 2) (cutL_all hA)
      rw [cutL_len (by omega)] at this
      exact this
  have HC2 : Hid (∀ (ob : Obj), ∀ i, i < p.length → ((w.alloc zeroF).alloc ob).cell? ⟨b, off + i, none⟩ = some (.int .u8 ((p[i]?.getD 0 : Nat) : Int))) := fun ob i hi => by
    rw [(alloc_below' (w.alloc zeroF) ob).cell (p := ⟨b, off + i, none⟩) (World.block_lt_of_cell? _ _ (HC.out i hi))]
    exact HC.out i hi
  have HB2 : Hid (∀ ob, Below w.heap.size w ((w.alloc zeroF).alloc ob)) := fun ob => (HB.out _).trans ((alloc_below' _ ob).mono (HB.out zeroF).size)
  have hkP : p[1]?.getD 0 = kindP p := rfl
  rw [hkP] at h1c hk8
  generalize p[13]?.getD 0 = X at h13 ht
  have l6 : (6 : Int) ≤ (cap : Int) := by omega
  have l14 : (14 : Int) ≤ (cap : Int) := by omega
  have l16 : (16 : Int) ≤ (cap : Int) := by omega
  have n2 : ¬ cap = 2 := by omega
  have n6 : ¬ cap = 6 := by omega
  have n14 : ¬ cap = 14 := by omega
  have n20 : ¬ cap = 20 := by omega
  have l13 : (13 : Int) < (p.length : Int) := by omega
  have l1 : (1 : Int) < (p.length : Int) := by omega
  have hbl := HNB.out.1
  have hbs := HNB.out.2.1
  have hbd := HNB.out.2.2
  have hlg : (p.length : Int) - 21 < (num (cutL p 14 2) : Nat) := by
    have e : num (cutL p 14 2) = longP p := rfl
    rw [e]
    omega
  clear hE hc hA h3
  go_enter Al.func10, Tryz.ntmps10
  go_wp2
  go_loop [5, 6] (fun t i => ∃ (k : Nat) (r : Bool), k ≤ p.length ∧ i = .int .i64 k ∧ t = .bool r ∧ Hid (r = true ↔ (0 < p.length ∧ ∀ j, j < k → p[j]?.getD 0 = 255))) (fun _ i => p.length - (intOf i).toNat)
  case atStart => exact ⟨0, true, by omega, rfl, rfl, fun _ => ⟨h0, fun j h => by omega⟩, fun _ => rfl⟩
  case round =>
      obtain ⟨k, r, hk, rfl, rfl, hr⟩ := hrel
      by_cases hlt : k < p.length
      · have hck := HC.out k hlt
        cases r
        · have HN : Hid (false = true ↔ (0 < p.length ∧ ∀ j, j < k + 1 → p[j]?.getD 0 = 255)) := ⟨(fun e => by cases e), fun e => hr.out.2 ⟨e.1, fun j hj => e.2 j (by omega)⟩⟩
          clear hr hck
          go_wp2
          go_round
          case rel => exact ⟨k + 1, false, by omega, by go_num, rfl, HN.out⟩
          case measure => simp [intOf]; omega
        · by_cases h255 : p[k]?.getD 0 = 255
          · have HN : Hid (true = true ↔ (0 < p.length ∧ ∀ j, j < k + 1 → p[j]?.getD 0 = 255)) := ⟨fun _ => ⟨by omega, fun j hj => by
              by_cases e : j = k
              · subst e; exact h255
              · exact (hr.out.1 rfl).2 j (by omega)⟩, fun _ => rfl⟩
            rw [h255] at hck
            clear hr h255
            go_wp2
            go_round
            case rel => exact ⟨k + 1, true, by omega, by go_num, rfl, HN.out⟩
            case measure => simp [intOf]; omega
          · have HN : Hid (false = true ↔ (0 < p.length ∧ ∀ j, j < k + 1 → p[j]?.getD 0 = 255)) := ⟨(fun e => by cases e), fun e => absurd (e.2 k (by omega)) h255⟩
            generalize p[k]?.getD 0 = X at hck h255
            have hx : ((X : Int) == 255) = false := beq_no (by omega)
            clear hr h255
            go_wp2
            go_round
            case rel => exact ⟨k + 1, false, by omega, by go_num, rfl, HN.out⟩
            case measure => simp [intOf]; omega
      · obtain rfl : k = p.length := by omega
        obtain rfl : r = false := by
          cases r
          · rfl
          · exact absurd ⟨by omega, (hr.out.1 rfl).2⟩ HER.out
        clear hr hlt hk
        go_wp2_with fail
        refine (HON.out _ (HC2.out _) 2 4 _ (by omega) (by omega) (by omega)).mono ?_
        rintro e w1 ⟨rfl, rfl⟩
        go_wp2_with fail
        refine (HON.out _ (HC2.out _) 6 8 _ (by omega) (by omega) (by omega)).mono ?_
        rintro e w1 ⟨rfl, rfl⟩
        go_wp2_with fail
        refine (HON.out _ (HC2.out _) 14 2 _ (by omega) (by omega) (by omega)).mono ?_
        rintro e w1 ⟨rfl, rfl⟩
        go_wp2_with fail
        refine bodyPost_ret (v := .tuple #[F0, .int .i64 3]) (by simp [results, Tryz.results10, go_sem]) rfl ?_
        exact ⟨rfl, HB2.out _⟩
set_option maxHeartbeats 1600000 in
theorem refOpen_fault (b off : Nat) (p : List Nat) (cap : Nat) (w : World) (h0 : 0 < p.length) (hm : p.length ≤ 9223372036854775807) (hc : ∀ i, i < p.length → w.cell? ⟨b, off + i, none⟩ = some (.int .u8 ((p[i]?.getD 0 : Nat) : Int))) (hE : ¬ ErasedP p) (hA : AllB p) (hcap : p.length ≤ cap) (h24 : 24 ≤ p.length) (h4096 : p.length ≤ 4096) (ht : ¬ 127 < p[13]?.getD 0) (h3 : longP p + 21 ≤ p.length) (hF : ¬ FOk p.length (kindP p) (lbaP p) (seqP p) (longP p)) :
    Calls (Al.progOf Tryz.prog) 10 #[.slice (some ⟨b, off, none⟩) p.length cap] w fun e w' => e = .returned (.tuple #[F0, .int .i64 3]) ∧ Below w.heap.size w w' := by
  have HB : Hid (∀ o, Below w.heap.size w (w.alloc o)) := fun o => alloc_below' w o
  have HC : Hid (∀ i, i < p.length → (w.alloc zeroF).cell? ⟨b, off + i, none⟩ = some (.int .u8 ((p[i]?.getD 0 : Nat) : Int))) := fun i hi => by
    rw [(HB.out _).cell (p := ⟨b, off + i, none⟩) (World.block_lt_of_cell? w _ (hc i hi))]
    exact hc i hi
  have HER : Hid (¬ ErasedP p) := hE
  have h13 := HC.out 13 (by omega)
  have h1c := HC.out 1 (by omega)
  have hk8 := hA.at 1
  have HON : Hid (∀ wx, (∀ i, i < p.length → wx.cell? ⟨b, off + i, none⟩ = some (.int .u8 ((p[i]?.getD 0 : Nat) : Int))) → ∀ o k c, o + k ≤ p.length → k ≤ 8 → num (cutL p o k) < 9223372036854775808 → Calls (Al.progOf Tryz.prog) 19 #[.slice (some ⟨b, off + o, none⟩) k c] wx fun e w' => e = .returned (.int .i64 (num (cutL p o k) : Nat)) ∧ w' = wx) := fun wx hx o k c ho hk hl => by
    have := ofLow_any b (off + o) (cutL p o k) c wx (by rw [cutL_len ho]; omega) (cutL_all hA) hl (cut_cells hx o k ho)
    rw [cutL_len ho] at this
    exact this
  have HNB : Hid (num (cutL p 2 4) < 4294967296 ∧ num (cutL p 6 8) < 9223372036854775808 ∧ num (cutL p 14 2) < 65536) := by
    refine ⟨?_, ?_, ?_⟩
    · have := num_lt (cutL p 2 4) (cutL_all hA)
      rw [cutL_len (by omega)] at this
      exact this
    · exact seq_small hA (by omega) ht
    · have := num_lt (cutL p 14 2) (cutL_all hA)
      rw [cutL_len (by omega)] at this
      exact this
  have HC2 : Hid (∀ (ob : Obj), ∀ i, i < p.length → ((w.alloc zeroF).alloc ob).cell? ⟨b, off + i, none⟩ = some (.int .u8 ((p[i]?.getD 0 : Nat) : Int))) := fun ob i hi => by
    rw [(alloc_below' (w.alloc zeroF) ob).cell (p := ⟨b, off + i, none⟩) (World.block_lt_of_cell? _ _ (HC.out i hi))]
    exact HC.out i hi
  have HB2 : Hid (∀ ob, Below w.heap.size w ((w.alloc zeroF).alloc ob)) := fun ob => (HB.out _).trans ((alloc_below' _ ob).mono (HB.out zeroF).size)
  have hkP : p[1]?.getD 0 = kindP p := rfl
  rw [hkP] at h1c hk8
  generalize p[13]?.getD 0 = X at h13 ht
  have l6 : (6 : Int) ≤ (cap : Int) := by omega
  have l14 : (14 : Int) ≤ (cap : Int) := by omega
  have l16 : (16 : Int) ≤ (cap : Int) := by omega
  have n2 : ¬ cap = 2 := by omega
  have n6 : ¬ cap = 6 := by omega
  have n14 : ¬ cap = 14 := by omega
  have n20 : ¬ cap = 20 := by omega
  have l13 : (13 : Int) < (p.length : Int) := by omega
  have l1 : (1 : Int) < (p.length : Int) := by omega
  have hbl := HNB.out.1
  have hbs := HNB.out.2.1
  have hbd := HNB.out.2.2
  have hlg : ¬ (p.length : Int) - 21 < (num (cutL p 14 2) : Nat) := by
    have e : num (cutL p 14 2) = longP p := rfl
    rw [e]
    omega
  have HDL : Hid ((dataP p).length = longP p ∧ AllB (dataP p) ∧ (dataP p).length ≤ 1048576) := ⟨dataP_len h3, cutL_all hA, by rw [dataP_len h3]; omega⟩
  have HLD : Hid (∀ wx, (∀ i, i < p.length → wx.cell? ⟨b, off + i, none⟩ = some (.int .u8 ((p[i]?.getD 0 : Nat) : Int))) → Lies wx (some ⟨b, off + 20, none⟩) (dataP p)) := fun wx hx => Or.inr ⟨b, off + 20, rfl, cut_cells hx 20 (longP p) (by omega)⟩
  have HPA : Hid (AllB p) := hA
  have hFt : ∀ wx a1 d1, Calls (Al.progOf Tryz.prog) 20 #[.int .i64 p.length, FV (kindP p : Nat) (lbaP p : Nat) (seqP p : Nat) a1 (dataP p).length d1] wx fun e w' => e = .returned (.int .i64 1) ∧ Below wx.heap.size wx w' := fun wx a1 d1 => fault_range _ _ _ _ a1 _ d1 wx (fun hn => hF ⟨h24, h4096, by have := hn.2.1.1; omega, by have := hn.2.1.2; omega, by have := hn.2.2.1.2; omega, by have := hn.2.2.2.2; omega, h3⟩)
  clear hF
  have HEQ : Hid (num (cutL p 2 4) = lbaP p ∧ num (cutL p 6 8) = seqP p ∧ num (cutL p 14 2) = longP p) := ⟨rfl, rfl, rfl⟩
  have HON2 : Hid (∀ wx, (∀ i, i < p.length → wx.cell? ⟨b, off + i, none⟩ = some (.int .u8 ((p[i]?.getD 0 : Nat) : Int))) → (∀ c, Calls (Al.progOf Tryz.prog) 19 #[.slice (some ⟨b, off + 2, none⟩) 4 c] wx fun e w' => e = .returned (.int .i64 (lbaP p : Nat)) ∧ w' = wx) ∧ (∀ c, Calls (Al.progOf Tryz.prog) 19 #[.slice (some ⟨b, off + 6, none⟩) 8 c] wx fun e w' => e = .returned (.int .i64 (seqP p : Nat)) ∧ w' = wx) ∧ (∀ c, Calls (Al.progOf Tryz.prog) 19 #[.slice (some ⟨b, off + 14, none⟩) 2 c] wx fun e w' => e = .returned (.int .i64 (longP p : Nat)) ∧ w' = wx)) := fun wx hx =>
    ⟨fun c => HON.out wx hx 2 4 c (by omega) (by omega) (by omega), fun c => HON.out wx hx 6 8 c (by omega) (by omega) (by omega), fun c => HON.out wx hx 14 2 c (by omega) (by omega) (by omega)⟩
  rw [HEQ.out.1] at hbl
  rw [HEQ.out.2.1] at hbs
  rw [HEQ.out.2.2] at hbd hlg
  clear HON HEQ HNB hkP
  generalize kindP p = KK at *
  generalize lbaP p = LB at *
  generalize seqP p = SQ at *
  generalize dataP p = DT at *
  generalize longP p = LG at *
  have w20 : IntKind.i64.wrap (20 + (LG : Int)) = 20 + (LG : Int) := by rw [IntKind.wrap_i64]; omega
  have l20 : (20 : Int) ≤ 20 + (LG : Int) := by omega
  have m20 : 20 + (LG : Int) ≤ (cap : Int) := by omega
  have t20 : (20 + (LG : Int)).toNat = 20 + LG := by omega
  have HFB : Hid (Below (w.alloc zeroF).heap.size (w.alloc zeroF) ((w.alloc zeroF).alloc (.cells #[.int .i64 (KK : Nat), .int .i64 (LB : Nat), .int .i64 (SQ : Nat), .slice none 0 0] 38)) ∧ Below w.heap.size w ((w.alloc zeroF).alloc (.cells #[.int .i64 (KK : Nat), .int .i64 (LB : Nat), .int .i64 (SQ : Nat), .slice none 0 0] 38))) := ⟨alloc_below' _ _, HB2.out _⟩
  have HFH : Hid (((w.alloc zeroF).alloc (.cells #[.int .i64 (KK : Nat), .int .i64 (LB : Nat), .int .i64 (SQ : Nat), .slice none 0 0] 38)).heap[w.heap.size + 1]? = some (.cells #[.int .i64 (KK : Nat), .int .i64 (LB : Nat), .int .i64 (SQ : Nat), .slice none 0 0] 38 (0, 0))) := by
    have e := heap_alloc_new (w.alloc zeroF) (.cells #[.int .i64 (KK : Nat), .int .i64 (LB : Nat), .int .i64 (SQ : Nat), .slice none 0 0] 38)
    rw [show (w.alloc zeroF).heap.size = w.heap.size + 1 by simp] at e
    exact e
  clear hE hc hA h3
  go_enter Al.func10, Tryz.ntmps10
  go_wp2
  go_loop [5, 6] (fun t i => ∃ (k : Nat) (r : Bool), k ≤ p.length ∧ i = .int .i64 k ∧ t = .bool r ∧ Hid (r = true ↔ (0 < p.length ∧ ∀ j, j < k → p[j]?.getD 0 = 255))) (fun _ i => p.length - (intOf i).toNat)
  case atStart => exact ⟨0, true, by omega, rfl, rfl, fun _ => ⟨h0, fun j h => by omega⟩, fun _ => rfl⟩
  case round =>
      obtain ⟨k, r, hk, rfl, rfl, hr⟩ := hrel
      by_cases hlt : k < p.length
      · have hck := HC.out k hlt
        cases r
        · have HN : Hid (false = true ↔ (0 < p.length ∧ ∀ j, j < k + 1 → p[j]?.getD 0 = 255)) := ⟨(fun e => by cases e), fun e => hr.out.2 ⟨e.1, fun j hj => e.2 j (by omega)⟩⟩
          clear hr hck
          go_wp2
          go_round
          case rel => exact ⟨k + 1, false, by omega, by go_num, rfl, HN.out⟩
          case measure => simp [intOf]; omega
        · by_cases h255 : p[k]?.getD 0 = 255
          · have HN : Hid (true = true ↔ (0 < p.length ∧ ∀ j, j < k + 1 → p[j]?.getD 0 = 255)) := ⟨fun _ => ⟨by omega, fun j hj => by
              by_cases e : j = k
              · subst e; exact h255
              · exact (hr.out.1 rfl).2 j (by omega)⟩, fun _ => rfl⟩
            rw [h255] at hck
            clear hr h255
            go_wp2
            go_round
            case rel => exact ⟨k + 1, true, by omega, by go_num, rfl, HN.out⟩
            case measure => simp [intOf]; omega
          · have HN : Hid (false = true ↔ (0 < p.length ∧ ∀ j, j < k + 1 → p[j]?.getD 0 = 255)) := ⟨(fun e => by cases e), fun e => absurd (e.2 k (by omega)) h255⟩
            generalize p[k]?.getD 0 = X at hck h255
            have hx : ((X : Int) == 255) = false := beq_no (by omega)
            clear hr h255
            go_wp2
            go_round
            case rel => exact ⟨k + 1, false, by omega, by go_num, rfl, HN.out⟩
            case measure => simp [intOf]; omega
      · obtain rfl : k = p.length := by omega
        obtain rfl : r = false := by
          cases r
          · rfl
          · exact absurd ⟨by omega, (hr.out.1 rfl).2⟩ HER.out
        clear hr hlt hk
        go_wp2_with fail
        refine ((HON2.out _ (HC2.out _)).1 _).mono ?_
        rintro e w1 ⟨rfl, rfl⟩
        go_wp2_with fail
        refine ((HON2.out _ (HC2.out _)).2.1 _).mono ?_
        rintro e w1 ⟨rfl, rfl⟩
        go_wp2_with fail
        refine ((HON2.out _ (HC2.out _)).2.2 _).mono ?_
        rintro e w1 ⟨rfl, rfl⟩
        have HC3 := HC2.out (.cells #[.int .i64 (KK : Nat), .int .i64 (LB : Nat), .int .i64 (SQ : Nat), .slice none 0 0] 38)
        have HW0 : Hid (∀ i, i < p.length → ((w.alloc zeroF).alloc (.cells #[.int .i64 (KK : Nat), .int .i64 (LB : Nat), .int .i64 (SQ : Nat), .slice none 0 0] 38)).cell? ⟨b, off + i, none⟩ = some (.int .u8 ((p[i]?.getD 0 : Nat) : Int))) := HC3
        clear HC3 HC2 HON2 HC
        generalize (w.alloc zeroF).alloc (.cells #[.int .i64 (KK : Nat), .int .i64 (LB : Nat), .int .i64 (SQ : Nat), .slice none 0 0] 38) = wF at HFB HFH HW0 ⊢
        have HE0 : Hid (Below wF.heap.size wF (wF.alloc (.cells #[] 5))) := alloc_below' wF _
        have HLX : Hid (Lies (wF.alloc (.cells #[] 5)) (some ⟨b, off + 20, none⟩) DT) := (HLD.out _ HW0.out).below HE0.out
        go_wp2_with (at_builtin; refine app_step rfl (.tmp 65) (.tmp 69) rfl wF.heap.size (some ⟨wF.heap.size, 0, none⟩) 0 [] (by rfl) (own_new wF wF.heap.size [] (Nat.le_refl _) (by simp) _ rfl) (some ⟨b, off + 20, none⟩) (cap - 20) DT (by rw [HDL.out.1]; rfl) (fun e => by cases e) HLX.out DT rfl HDL.out.2.2 HE0.out.size ?_)
        intro a1 d1 w2 hO hK
        have H2 : Hid (Below wF.heap.size wF w2 ∧ OwnA w2 wF.heap.size a1 d1 DT) := ⟨HE0.out.trans (hK.below HE0.out.size (fun b hb => by obtain ⟨x, e, rfl⟩ := hb; cases e; exact Nat.le_refl _)), hO⟩
        have hh2 := (H2.out.1.block (w.heap.size + 1) (heap_lt HFH.out)).trans HFH.out
        have f3 : w2.frozen? ⟨w.heap.size + 1, 3, none⟩ = false := row_free hh2 3
        have x0 : w2.cell? ⟨w.heap.size + 1, 0, none⟩ = some (.int .i64 (KK : Nat)) := by simp [World.cell?, hh2]
        have x1 : w2.cell? ⟨w.heap.size + 1, 1, none⟩ = some (.int .i64 (LB : Nat)) := by simp [World.cell?, hh2]
        have x2 : w2.cell? ⟨w.heap.size + 1, 2, none⟩ = some (.int .i64 (SQ : Nat)) := by simp [World.cell?, hh2]
        have x3 : w2.cell? ⟨w.heap.size + 1, 3, none⟩ = some (.slice none 0 0) := by simp [World.cell?, hh2]
        have H3 : Hid (BoxAt (w2.setCell ⟨w.heap.size + 1, 3, none⟩ (.slice a1 DT.length d1)) (w.heap.size + 1) KK LB SQ a1 DT.length d1 ∧ OwnA (w2.setCell ⟨w.heap.size + 1, 3, none⟩ (.slice a1 DT.length d1)) (w.heap.size + 1) a1 d1 DT ∧ Below (w.alloc zeroF).heap.size (w.alloc zeroF) (w2.setCell ⟨w.heap.size + 1, 3, none⟩ (.slice a1 DT.length d1))) := by
          have hs1 : (w.alloc zeroF).heap.size = w.heap.size + 1 := by simp
          have hk : Keep (fun q => q = w.heap.size + 1) w2 (w2.setCell ⟨w.heap.size + 1, 3, none⟩ (.slice a1 DT.length d1)) := (Keep.refl (fun q => q = w.heap.size + 1) w2).set (p := ⟨w.heap.size + 1, 3, none⟩) rfl _
          have hlt3 := heap_lt HFH.out
          refine ⟨⟨by rw [far _ (by omega)]; exact x0, by rw [far _ (by omega)]; exact x1, by rw [far _ (by omega)]; exact x2, World.cell?_setCell_same _ _ _ x3⟩, (H2.out.2.keep hk (fun q hq e => by have h6 := (H2.out.2.ge hq).1; omega)).base (by omega), ?_⟩
          have h7 := HFB.out.1.trans (H2.out.1.mono HFB.out.1.size)
          exact h7.trans (hk.below h7.size (fun q hq => by have e : q = w.heap.size + 1 := hq; omega))
        clear hO hK hh2 HE0 HLX HFB HFH
        go_wp2_with fail
        clear x0 x1 x2 x3 f3 H2
        generalize w2.setCell ⟨w.heap.size + 1, 3, none⟩ (.slice a1 DT.length d1) = w3 at H3 ⊢
        refine (hFt _ _ _).mono ?_
        rintro e w4 ⟨rfl, hb4⟩
        have H9 : Hid (BoxAt w4 w.heap.size 0 0 0 none 0 0 ∧ (∀ i, w4.frozen? ⟨w.heap.size, i, none⟩ = false) ∧ Below w.heap.size w w4) := zero_at (H3.out.2.2.trans (hb4.mono H3.out.2.2.size))
        clear hb4 H3 hFt
        have q0 := H9.out.1.c0
        have q1 := H9.out.1.c1
        have q2 := H9.out.1.c2
        have q3 := H9.out.1.c3
        have g0 := H9.out.2.1 0
        have g1 := H9.out.2.1 1
        have g2 := H9.out.2.1 2
        have g3 := H9.out.2.1 3
        go_wp2_with fail
        have hz := box_set H9.out.1 (.int .i64 0) (.int .i64 0) (.int .i64 0) (.slice none 0 0)
        refine bodyPost_ret (v := .tuple #[F0, .int .i64 3]) (by simp [results, Tryz.results10, go_sem, hz.1, hz.2.1, hz.2.2.1, hz.2.2.2]) rfl ?_
        exact ⟨rfl, below_four H9.out.2.2 _ _ _ _⟩
set_option maxHeartbeats 1600000 in
theorem refOpen_uneq (b off : Nat) (p : List Nat) (cap : Nat) (w : World) (h0 : 0 < p.length) (hm : p.length ≤ 9223372036854775807) (hc : ∀ i, i < p.length → w.cell? ⟨b, off + i, none⟩ = some (.int .u8 ((p[i]?.getD 0 : Nat) : Int))) (hE : ¬ ErasedP p) (hA : AllB p) (hcap : p.length ≤ cap) (h24 : 24 ≤ p.length) (h4096 : p.length ≤ 4096) (ht : ¬ 127 < p[13]?.getD 0) (h3 : longP p + 21 ≤ p.length) (hF : FOk p.length (kindP p) (lbaP p) (seqP p) (longP p)) (hne : packL p.length (kindP p) (lbaP p) (seqP p) (dataP p) ≠ p) :
    Calls (Al.progOf Tryz.prog) 10 #[.slice (some ⟨b, off, none⟩) p.length cap] w fun e w' => e = .returned (.tuple #[F0, .int .i64 3]) ∧ Below w.heap.size w w' := by
  have HB : Hid (∀ o, Below w.heap.size w (w.alloc o)) := fun o => alloc_below' w o
  have HC : Hid (∀ i, i < p.length → (w.alloc zeroF).cell? ⟨b, off + i, none⟩ = some (.int .u8 ((p[i]?.getD 0 : Nat) : Int))) := fun i hi => by
    rw [(HB.out _).cell (p := ⟨b, off + i, none⟩) (World.block_lt_of_cell? w _ (hc i hi))]
    exact hc i hi
  have HBW : Hid (b < w.heap.size) := World.block_lt_of_cell? w ⟨b, off + 0, none⟩ (hc 0 h0)
  have HER : Hid (¬ ErasedP p) := hE
  have h13 := HC.out 13 (by omega)
  have h1c := HC.out 1 (by omega)
  have hk8 := hA.at 1
  have HON : Hid (∀ wx, (∀ i, i < p.length → wx.cell? ⟨b, off + i, none⟩ = some (.int .u8 ((p[i]?.getD 0 : Nat) : Int))) → ∀ o k c, o + k ≤ p.length → k ≤ 8 → num (cutL p o k) < 9223372036854775808 → Calls (Al.progOf Tryz.prog) 19 #[.slice (some ⟨b, off + o, none⟩) k c] wx fun e w' => e = .returned (.int .i64 (num (cutL p o k) : Nat)) ∧ w' = wx) := fun wx hx o k c ho hk hl => by
    have := ofLow_any b (off + o) (cutL p o k) c wx (by rw [cutL_len ho]; omega) (cutL_all hA) hl (cut_cells hx o k ho)
    rw [cutL_len ho] at this
    exact this
  have HNB : Hid (num (cutL p 2 4) < 4294967296 ∧ num (cutL p 6 8) < 9223372036854775808 ∧ num (cutL p 14 2) < 65536) := by
    refine ⟨?_, ?_, ?_⟩
    · have := num_lt (cutL p 2 4) (cutL_all hA)
      rw [cutL_len (by omega)] at this
      exact this
    · exact seq_small hA (by omega) ht
    · have := num_lt (cutL p 14 2) (cutL_all hA)
      rw [cutL_len (by omega)] at this
      exact this
  have HC2 : Hid (∀ (ob : Obj), ∀ i, i < p.length → ((w.alloc zeroF).alloc ob).cell? ⟨b, off + i, none⟩ = some (.int .u8 ((p[i]?.getD 0 : Nat) : Int))) := fun ob i hi => by
    rw [(alloc_below' (w.alloc zeroF) ob).cell (p := ⟨b, off + i, none⟩) (World.block_lt_of_cell? _ _ (HC.out i hi))]
    exact HC.out i hi
  have HB2 : Hid (∀ ob, Below w.heap.size w ((w.alloc zeroF).alloc ob)) := fun ob => (HB.out _).trans ((alloc_below' _ ob).mono (HB.out zeroF).size)
  have hkP : p[1]?.getD 0 = kindP p := rfl
  rw [hkP] at h1c hk8
  generalize p[13]?.getD 0 = X at h13 ht
  have l6 : (6 : Int) ≤ (cap : Int) := by omega
  have l14 : (14 : Int) ≤ (cap : Int) := by omega
  have l16 : (16 : Int) ≤ (cap : Int) := by omega
  have n2 : ¬ cap = 2 := by omega
  have n6 : ¬ cap = 6 := by omega
  have n14 : ¬ cap = 14 := by omega
  have n20 : ¬ cap = 20 := by omega
  have l13 : (13 : Int) < (p.length : Int) := by omega
  have l1 : (1 : Int) < (p.length : Int) := by omega
  have hbl := HNB.out.1
  have hbs := HNB.out.2.1
  have hbd := HNB.out.2.2
  have hlg : ¬ (p.length : Int) - 21 < (num (cutL p 14 2) : Nat) := by
    have e : num (cutL p 14 2) = longP p := rfl
    rw [e]
    omega
  have HDL : Hid ((dataP p).length = longP p ∧ AllB (dataP p) ∧ (dataP p).length ≤ 1048576) := ⟨dataP_len h3, cutL_all hA, by rw [dataP_len h3]; omega⟩
  have HLD : Hid (∀ wx, (∀ i, i < p.length → wx.cell? ⟨b, off + i, none⟩ = some (.int .u8 ((p[i]?.getD 0 : Nat) : Int))) → Lies wx (some ⟨b, off + 20, none⟩) (dataP p)) := fun wx hx => Or.inr ⟨b, off + 20, rfl, cut_cells hx 20 (longP p) (by omega)⟩
  have HPA : Hid (AllB p) := hA
  have hFt : ∀ wx a1 d1, Calls (Al.progOf Tryz.prog) 20 #[.int .i64 p.length, FV (kindP p : Nat) (lbaP p : Nat) (seqP p : Nat) a1 (dataP p).length d1] wx fun e w' => e = .returned (.int .i64 0) ∧ Below wx.heap.size wx w' := fun wx a1 d1 => fault_ok _ _ _ _ a1 _ d1 wx (by omega) ⟨⟨by have := hF.k0; omega, by have := hF.k1; omega⟩, ⟨by omega, by have := hF.l1; omega⟩, by omega, by have := hF.s1; omega⟩ (by rw [HDL.out.1]; omega) (by rw [HDL.out.1]; omega)
  have hPo : ∀ wx a1 d1, (a1 = none → d1 = 0) → Lies wx a1 (dataP p) → Calls (Al.progOf Tryz.prog) 21 #[.int .i64 p.length, FV (kindP p : Nat) (lbaP p : Nat) (seqP p : Nat) a1 (dataP p).length d1] wx fun e w' => OwnPost wx w' e (packL p.length (kindP p) (lbaP p) (seqP p) (dataP p)) := fun wx a1 d1 hn hx => packOf_any p.length (kindP p) (lbaP p) (seqP p) a1 d1 (dataP p) wx (by rw [HDL.out.1]; exact hF) HDL.out.2.1 hn hx
  have HPK : Hid ((packL p.length (kindP p) (lbaP p) (seqP p) (dataP p)).length = p.length) := packL_len _ _ _ _ _ (by rw [HDL.out.1]; exact h3)
  obtain ⟨PG, HPG⟩ : ∃ L, Hid (packL p.length (kindP p) (lbaP p) (seqP p) (dataP p) = L) := ⟨_, rfl⟩
  rw [HPG.out] at hPo
  have HPK2 : Hid (PG.length = p.length) := by rw [← HPG.out]; exact HPK.out
  have HNE : Hid (PG ≠ p) := by rw [← HPG.out]; exact hne
  clear hne
  clear hF HPK HPG
  have HEQ : Hid (num (cutL p 2 4) = lbaP p ∧ num (cutL p 6 8) = seqP p ∧ num (cutL p 14 2) = longP p) := ⟨rfl, rfl, rfl⟩
  have HON2 : Hid (∀ wx, (∀ i, i < p.length → wx.cell? ⟨b, off + i, none⟩ = some (.int .u8 ((p[i]?.getD 0 : Nat) : Int))) → (∀ c, Calls (Al.progOf Tryz.prog) 19 #[.slice (some ⟨b, off + 2, none⟩) 4 c] wx fun e w' => e = .returned (.int .i64 (lbaP p : Nat)) ∧ w' = wx) ∧ (∀ c, Calls (Al.progOf Tryz.prog) 19 #[.slice (some ⟨b, off + 6, none⟩) 8 c] wx fun e w' => e = .returned (.int .i64 (seqP p : Nat)) ∧ w' = wx) ∧ (∀ c, Calls (Al.progOf Tryz.prog) 19 #[.slice (some ⟨b, off + 14, none⟩) 2 c] wx fun e w' => e = .returned (.int .i64 (longP p : Nat)) ∧ w' = wx)) := fun wx hx =>
    ⟨fun c => HON.out wx hx 2 4 c (by omega) (by omega) (by omega), fun c => HON.out wx hx 6 8 c (by omega) (by omega) (by omega), fun c => HON.out wx hx 14 2 c (by omega) (by omega) (by omega)⟩
  rw [HEQ.out.1] at hbl
  rw [HEQ.out.2.1] at hbs
  rw [HEQ.out.2.2] at hbd hlg
  clear HON HEQ HNB hkP
  generalize kindP p = KK at *
  generalize lbaP p = LB at *
  generalize seqP p = SQ at *
  generalize dataP p = DT at *
  generalize longP p = LG at *
  have w20 : IntKind.i64.wrap (20 + (LG : Int)) = 20 + (LG : Int) := by rw [IntKind.wrap_i64]; omega
  have l20 : (20 : Int) ≤ 20 + (LG : Int) := by omega
  have m20 : 20 + (LG : Int) ≤ (cap : Int) := by omega
  have t20 : (20 + (LG : Int)).toNat = 20 + LG := by omega
  have HFB : Hid (Below (w.alloc zeroF).heap.size (w.alloc zeroF) ((w.alloc zeroF).alloc (.cells #[.int .i64 (KK : Nat), .int .i64 (LB : Nat), .int .i64 (SQ : Nat), .slice none 0 0] 38)) ∧ Below w.heap.size w ((w.alloc zeroF).alloc (.cells #[.int .i64 (KK : Nat), .int .i64 (LB : Nat), .int .i64 (SQ : Nat), .slice none 0 0] 38))) := ⟨alloc_below' _ _, HB2.out _⟩
  have HFH : Hid (((w.alloc zeroF).alloc (.cells #[.int .i64 (KK : Nat), .int .i64 (LB : Nat), .int .i64 (SQ : Nat), .slice none 0 0] 38)).heap[w.heap.size + 1]? = some (.cells #[.int .i64 (KK : Nat), .int .i64 (LB : Nat), .int .i64 (SQ : Nat), .slice none 0 0] 38 (0, 0))) := by
    have e := heap_alloc_new (w.alloc zeroF) (.cells #[.int .i64 (KK : Nat), .int .i64 (LB : Nat), .int .i64 (SQ : Nat), .slice none 0 0] 38)
    rw [show (w.alloc zeroF).heap.size = w.heap.size + 1 by simp] at e
    exact e
  clear hE hc hA h3
  go_enter Al.func10, Tryz.ntmps10
  go_wp2
  go_loop [5, 6] (fun t i => ∃ (k : Nat) (r : Bool), k ≤ p.length ∧ i = .int .i64 k ∧ t = .bool r ∧ Hid (r = true ↔ (0 < p.length ∧ ∀ j, j < k → p[j]?.getD 0 = 255))) (fun _ i => p.length - (intOf i).toNat)
  case atStart => exact ⟨0, true, by omega, rfl, rfl, fun _ => ⟨h0, fun j h => by omega⟩, fun _ => rfl⟩
  case round =>
      obtain ⟨k, r, hk, rfl, rfl, hr⟩ := hrel
      by_cases hlt : k < p.length
      · have hck := HC.out k hlt
        cases r
        · have HN : Hid (false = true ↔ (0 < p.length ∧ ∀ j, j < k + 1 → p[j]?.getD 0 = 255)) := ⟨(fun e => by cases e), fun e => hr.out.2 ⟨e.1, fun j hj => e.2 j (by omega)⟩⟩
          clear hr hck
          go_wp2
          go_round
          case rel => exact ⟨k + 1, false, by omega, by go_num, rfl, HN.out⟩
          case measure => simp [intOf]; omega
        · by_cases h255 : p[k]?.getD 0 = 255
          · have HN : Hid (true = true ↔ (0 < p.length ∧ ∀ j, j < k + 1 → p[j]?.getD 0 = 255)) := ⟨fun _ => ⟨by omega, fun j hj => by
              by_cases e : j = k
              · subst e; exact h255
              · exact (hr.out.1 rfl).2 j (by omega)⟩, fun _ => rfl⟩
            rw [h255] at hck
            clear hr h255
            go_wp2
            go_round
            case rel => exact ⟨k + 1, true, by omega, by go_num, rfl, HN.out⟩
            case measure => simp [intOf]; omega
          · have HN : Hid (false = true ↔ (0 < p.length ∧ ∀ j, j < k + 1 → p[j]?.getD 0 = 255)) := ⟨(fun e => by cases e), fun e => absurd (e.2 k (by omega)) h255⟩
            generalize p[k]?.getD 0 = X at hck h255
            have hx : ((X : Int) == 255) = false := beq_no (by omega)
            clear hr h255
            go_wp2
            go_round
            case rel => exact ⟨k + 1, false, by omega, by go_num, rfl, HN.out⟩
            case measure => simp [intOf]; omega
      · obtain rfl : k = p.length := by omega
        obtain rfl : r = false := by
          cases r
          · rfl
          · exact absurd ⟨by omega, (hr.out.1 rfl).2⟩ HER.out
        clear hr hlt hk
        go_wp2_with fail
        refine ((HON2.out _ (HC2.out _)).1 _).mono ?_
        rintro e w1 ⟨rfl, rfl⟩
        go_wp2_with fail
        refine ((HON2.out _ (HC2.out _)).2.1 _).mono ?_
        rintro e w1 ⟨rfl, rfl⟩
        go_wp2_with fail
        refine ((HON2.out _ (HC2.out _)).2.2 _).mono ?_
        rintro e w1 ⟨rfl, rfl⟩
        have HC3 := HC2.out (.cells #[.int .i64 (KK : Nat), .int .i64 (LB : Nat), .int .i64 (SQ : Nat), .slice none 0 0] 38)
        have HW0 : Hid (∀ i, i < p.length → ((w.alloc zeroF).alloc (.cells #[.int .i64 (KK : Nat), .int .i64 (LB : Nat), .int .i64 (SQ : Nat), .slice none 0 0] 38)).cell? ⟨b, off + i, none⟩ = some (.int .u8 ((p[i]?.getD 0 : Nat) : Int))) := HC3
        clear HC3 HC2 HON2 HC
        have HWF : Hid (∀ wx, Below ((w.alloc zeroF).alloc (.cells #[.int .i64 (KK : Nat), .int .i64 (LB : Nat), .int .i64 (SQ : Nat), .slice none 0 0] 38)).heap.size ((w.alloc zeroF).alloc (.cells #[.int .i64 (KK : Nat), .int .i64 (LB : Nat), .int .i64 (SQ : Nat), .slice none 0 0] 38)) wx → Lies wx (some ⟨b, off, none⟩) p) := fun wx hx => (show Lies ((w.alloc zeroF).alloc (.cells #[.int .i64 (KK : Nat), .int .i64 (LB : Nat), .int .i64 (SQ : Nat), .slice none 0 0] 38)) (some ⟨b, off, none⟩) p from Or.inr ⟨b, off, rfl, HW0.out⟩).below hx
        generalize (w.alloc zeroF).alloc (.cells #[.int .i64 (KK : Nat), .int .i64 (LB : Nat), .int .i64 (SQ : Nat), .slice none 0 0] 38) = wF at HFB HFH HW0 HWF ⊢
        have HE0 : Hid (Below wF.heap.size wF (wF.alloc (.cells #[] 5))) := alloc_below' wF _
        have HLX : Hid (Lies (wF.alloc (.cells #[] 5)) (some ⟨b, off + 20, none⟩) DT) := (HLD.out _ HW0.out).below HE0.out
        go_wp2_with (at_builtin; refine app_step rfl (.tmp 65) (.tmp 69) rfl wF.heap.size (some ⟨wF.heap.size, 0, none⟩) 0 [] (by rfl) (own_new wF wF.heap.size [] (Nat.le_refl _) (by simp) _ rfl) (some ⟨b, off + 20, none⟩) (cap - 20) DT (by rw [HDL.out.1]; rfl) (fun e => by cases e) HLX.out DT rfl HDL.out.2.2 HE0.out.size ?_)
        intro a1 d1 w2 hO hK
        have H2 : Hid (Below wF.heap.size wF w2 ∧ OwnA w2 wF.heap.size a1 d1 DT) := ⟨HE0.out.trans (hK.below HE0.out.size (fun b hb => by obtain ⟨x, e, rfl⟩ := hb; cases e; exact Nat.le_refl _)), hO⟩
        have hh2 := (H2.out.1.block (w.heap.size + 1) (heap_lt HFH.out)).trans HFH.out
        have f3 : w2.frozen? ⟨w.heap.size + 1, 3, none⟩ = false := row_free hh2 3
        have x0 : w2.cell? ⟨w.heap.size + 1, 0, none⟩ = some (.int .i64 (KK : Nat)) := by simp [World.cell?, hh2]
        have x1 : w2.cell? ⟨w.heap.size + 1, 1, none⟩ = some (.int .i64 (LB : Nat)) := by simp [World.cell?, hh2]
        have x2 : w2.cell? ⟨w.heap.size + 1, 2, none⟩ = some (.int .i64 (SQ : Nat)) := by simp [World.cell?, hh2]
        have x3 : w2.cell? ⟨w.heap.size + 1, 3, none⟩ = some (.slice none 0 0) := by simp [World.cell?, hh2]
        have H3 : Hid (BoxAt (w2.setCell ⟨w.heap.size + 1, 3, none⟩ (.slice a1 DT.length d1)) (w.heap.size + 1) KK LB SQ a1 DT.length d1 ∧ OwnA (w2.setCell ⟨w.heap.size + 1, 3, none⟩ (.slice a1 DT.length d1)) (w.heap.size + 1) a1 d1 DT ∧ Below (w.alloc zeroF).heap.size (w.alloc zeroF) (w2.setCell ⟨w.heap.size + 1, 3, none⟩ (.slice a1 DT.length d1))) := by
          have hs1 : (w.alloc zeroF).heap.size = w.heap.size + 1 := by simp
          have hk : Keep (fun q => q = w.heap.size + 1) w2 (w2.setCell ⟨w.heap.size + 1, 3, none⟩ (.slice a1 DT.length d1)) := (Keep.refl (fun q => q = w.heap.size + 1) w2).set (p := ⟨w.heap.size + 1, 3, none⟩) rfl _
          have hlt3 := heap_lt HFH.out
          refine ⟨⟨by rw [far _ (by omega)]; exact x0, by rw [far _ (by omega)]; exact x1, by rw [far _ (by omega)]; exact x2, World.cell?_setCell_same _ _ _ x3⟩, (H2.out.2.keep hk (fun q hq e => by have h6 := (H2.out.2.ge hq).1; omega)).base (by omega), ?_⟩
          have h7 := HFB.out.1.trans (H2.out.1.mono HFB.out.1.size)
          exact h7.trans (hk.below h7.size (fun q hq => by have e : q = w.heap.size + 1 := hq; omega))
        have HLP : Hid (Lies (w2.setCell ⟨w.heap.size + 1, 3, none⟩ (.slice a1 DT.length d1)) (some ⟨b, off, none⟩) p) := by
          have hk : Keep (fun q => q = w.heap.size + 1) w2 (w2.setCell ⟨w.heap.size + 1, 3, none⟩ (.slice a1 DT.length d1)) := (Keep.refl (fun q => q = w.heap.size + 1) w2).set (p := ⟨w.heap.size + 1, 3, none⟩) rfl _
          exact (HWF.out w2 H2.out.1).keep hk (fun b' off' e => by cases e; have := HBW.out; omega)
        clear hO hK hh2 HE0 HLX HFB HFH HWF
        go_wp2_with fail
        clear x0 x1 x2 x3 f3 H2
        generalize w2.setCell ⟨w.heap.size + 1, 3, none⟩ (.slice a1 DT.length d1) = w3 at H3 HLP ⊢
        refine (hFt _ _ _).mono ?_
        rintro e w4 ⟨rfl, hb4⟩
        have H4 : Hid (BoxAt w4 (w.heap.size + 1) KK LB SQ a1 DT.length d1 ∧ OwnA w4 (w.heap.size + 1) a1 d1 DT ∧ Below (w.alloc zeroF).heap.size (w.alloc zeroF) w4 ∧ Lies w4 (some ⟨b, off, none⟩) p) := ⟨H3.out.1.below hb4, H3.out.2.1.below hb4, H3.out.2.2.trans (hb4.mono H3.out.2.2.size), HLP.out.below hb4⟩
        clear hb4 H3 hFt HLP
        have x0 := H4.out.1.c0
        have x1 := H4.out.1.c1
        have x2 := H4.out.1.c2
        have x3 := H4.out.1.c3
        go_wp2_with fail
        refine (hPo _ _ _ H4.out.2.1.nil0 H4.out.2.1.lies).mono ?_
        rintro e w5 ⟨a5, d5, rfl, hO5, hb5⟩
        have H5 : Hid (BoxAt w5 (w.heap.size + 1) KK LB SQ a1 DT.length d1 ∧ OwnA w5 (w.heap.size + 1) a1 d1 DT ∧ Below (w.alloc zeroF).heap.size (w.alloc zeroF) w5 ∧ Lies w5 (some ⟨b, off, none⟩) p ∧ Lies w5 a5 PG) := ⟨H4.out.1.below hb5, H4.out.2.1.below hb5, H4.out.2.2.1.trans (hb5.mono H4.out.2.2.1.size), H4.out.2.2.2.below hb5, hO5.lies⟩
        clear hO5 hb5 H4 hPo x0 x1 x2 x3
        have hby := bytes_any a5 (some ⟨b, off, none⟩) PG p d5 cap w5 (by rw [HPK2.out]; omega) (by omega) H5.out.2.2.2.2 H5.out.2.2.2.1
        rw [decide_eq_false HNE.out] at hby
        go_wp2_with fail
        refine hby.mono ?_
        rintro e w6 ⟨rfl, hb6⟩
        have H9 : Hid (BoxAt w6 w.heap.size 0 0 0 none 0 0 ∧ (∀ i, w6.frozen? ⟨w.heap.size, i, none⟩ = false) ∧ Below w.heap.size w w6) := zero_at (H5.out.2.2.1.trans (hb6.mono H5.out.2.2.1.size))
        have H6 : Hid (BoxAt w6 (w.heap.size + 1) KK LB SQ a1 DT.length d1 ∧ OwnA w6 (w.heap.size + 1) a1 d1 DT) := ⟨H5.out.1.below hb6, H5.out.2.1.below hb6⟩
        clear hb6 H5 hby
        have q0 := H9.out.1.c0
        have q1 := H9.out.1.c1
        have q2 := H9.out.1.c2
        have q3 := H9.out.1.c3
        have g0 := H9.out.2.1 0
        have g1 := H9.out.2.1 1
        have g2 := H9.out.2.1 2
        have g3 := H9.out.2.1 3
        clear H6
        go_wp2_with fail
        have hz := box_set H9.out.1 (.int .i64 0) (.int .i64 0) (.int .i64 0) (.slice none 0 0)
        refine bodyPost_ret (v := .tuple #[F0, .int .i64 3]) (by simp [results, Tryz.results10, go_sem, hz.1, hz.2.1, hz.2.2.1, hz.2.2.2]) rfl ?_
        exact ⟨rfl, below_four H9.out.2.2 _ _ _ _⟩
set_option maxHeartbeats 1600000 in
theorem refOpen_eq (b off : Nat) (p : List Nat) (cap : Nat) (w : World) (h0 : 0 < p.length) (hm : p.length ≤ 9223372036854775807) (hc : ∀ i, i < p.length → w.cell? ⟨b, off + i, none⟩ = some (.int .u8 ((p[i]?.getD 0 : Nat) : Int))) (hE : ¬ ErasedP p) (hA : AllB p) (hcap : p.length ≤ cap) (h24 : 24 ≤ p.length) (h4096 : p.length ≤ 4096) (ht : ¬ 127 < p[13]?.getD 0) (h3 : longP p + 21 ≤ p.length) (hF : FOk p.length (kindP p) (lbaP p) (seqP p) (longP p)) (heq : packL p.length (kindP p) (lbaP p) (seqP p) (dataP p) = p) :
    Calls (Al.progOf Tryz.prog) 10 #[.slice (some ⟨b, off, none⟩) p.length cap] w fun e w' => ValidPost w w' e p := by
  have HB : Hid (∀ o, Below w.heap.size w (w.alloc o)) := fun o => alloc_below' w o
  have HC : Hid (∀ i, i < p.length → (w.alloc zeroF).cell? ⟨b, off + i, none⟩ = some (.int .u8 ((p[i]?.getD 0 : Nat) : Int))) := fun i hi => by
    rw [(HB.out _).cell (p := ⟨b, off + i, none⟩) (World.block_lt_of_cell? w _ (hc i hi))]
    exact hc i hi
  have HBW : Hid (b < w.heap.size) := World.block_lt_of_cell? w ⟨b, off + 0, none⟩ (hc 0 h0)
  have HER : Hid (¬ ErasedP p) := hE
  have h13 := HC.out 13 (by omega)
  have h1c := HC.out 1 (by omega)
  have hk8 := hA.at 1
  have HON : Hid (∀ wx, (∀ i, i < p.length → wx.cell? ⟨b, off + i, none⟩ = some (.int .u8 ((p[i]?.getD 0 : Nat) : Int))) → ∀ o k c, o + k ≤ p.length → k ≤ 8 → num (cutL p o k) < 9223372036854775808 → Calls (Al.progOf Tryz.prog) 19 #[.slice (some ⟨b, off + o, none⟩) k c] wx fun e w' => e = .returned (.int .i64 (num (cutL p o k) : Nat)) ∧ w' = wx) := fun wx hx o k c ho hk hl => by
    have := ofLow_any b (off + o) (cutL p o k) c wx (by rw [cutL_len ho]; omega) (cutL_all hA) hl (cut_cells hx o k ho)
    rw [cutL_len ho] at this
    exact this
  have HNB : Hid (num (cutL p 2 4) < 4294967296 ∧ num (cutL p 6 8) < 9223372036854775808 ∧ num (cutL p 14 2) < 65536) := by
    refine ⟨?_, ?_, ?_⟩
    · have := num_lt (cutL p 2 4) (cutL_all hA)
      rw [cutL_len (by omega)] at this
      exact this
    · exact seq_small hA (by omega) ht
    · have := num_lt (cutL p 14 2) (cutL_all hA)
      rw [cutL_len (by omega)] at this
      exact this
  have HC2 : Hid (∀ (ob : Obj), ∀ i, i < p.length → ((w.alloc zeroF).alloc ob).cell? ⟨b, off + i, none⟩ = some (.int .u8 ((p[i]?.getD 0 : Nat) : Int))) := fun ob i hi => by
    rw [(alloc_below' (w.alloc zeroF) ob).cell (p := ⟨b, off + i, none⟩) (World.block_lt_of_cell? _ _ (HC.out i hi))]
    exact HC.out i hi
  have HB2 : Hid (∀ ob, Below w.heap.size w ((w.alloc zeroF).alloc ob)) := fun ob => (HB.out _).trans ((alloc_below' _ ob).mono (HB.out zeroF).size)
  have hkP : p[1]?.getD 0 = kindP p := rfl
  rw [hkP] at h1c hk8
  generalize p[13]?.getD 0 = X at h13 ht
  have l6 : (6 : Int) ≤ (cap : Int) := by omega
  have l14 : (14 : Int) ≤ (cap : Int) := by omega
  have l16 : (16 : Int) ≤ (cap : Int) := by omega
  have n2 : ¬ cap = 2 := by omega
  have n6 : ¬ cap = 6 := by omega
  have n14 : ¬ cap = 14 := by omega
  have n20 : ¬ cap = 20 := by omega
  have l13 : (13 : Int) < (p.length : Int) := by omega
  have l1 : (1 : Int) < (p.length : Int) := by omega
  have hbl := HNB.out.1
  have hbs := HNB.out.2.1
  have hbd := HNB.out.2.2
  have hlg : ¬ (p.length : Int) - 21 < (num (cutL p 14 2) : Nat) := by
    have e : num (cutL p 14 2) = longP p := rfl
    rw [e]
    omega
  have HDL : Hid ((dataP p).length = longP p ∧ AllB (dataP p) ∧ (dataP p).length ≤ 1048576) := ⟨dataP_len h3, cutL_all hA, by rw [dataP_len h3]; omega⟩
  have HLD : Hid (∀ wx, (∀ i, i < p.length → wx.cell? ⟨b, off + i, none⟩ = some (.int .u8 ((p[i]?.getD 0 : Nat) : Int))) → Lies wx (some ⟨b, off + 20, none⟩) (dataP p)) := fun wx hx => Or.inr ⟨b, off + 20, rfl, cut_cells hx 20 (longP p) (by omega)⟩
  have HPA : Hid (AllB p) := hA
  have hFt : ∀ wx a1 d1, Calls (Al.progOf Tryz.prog) 20 #[.int .i64 p.length, FV (kindP p : Nat) (lbaP p : Nat) (seqP p : Nat) a1 (dataP p).length d1] wx fun e w' => e = .returned (.int .i64 0) ∧ Below wx.heap.size wx w' := fun wx a1 d1 => fault_ok _ _ _ _ a1 _ d1 wx (by omega) ⟨⟨by have := hF.k0; omega, by have := hF.k1; omega⟩, ⟨by omega, by have := hF.l1; omega⟩, by omega, by have := hF.s1; omega⟩ (by rw [HDL.out.1]; omega) (by rw [HDL.out.1]; omega)
  have hPo : ∀ wx a1 d1, (a1 = none → d1 = 0) → Lies wx a1 (dataP p) → Calls (Al.progOf Tryz.prog) 21 #[.int .i64 p.length, FV (kindP p : Nat) (lbaP p : Nat) (seqP p : Nat) a1 (dataP p).length d1] wx fun e w' => OwnPost wx w' e (packL p.length (kindP p) (lbaP p) (seqP p) (dataP p)) := fun wx a1 d1 hn hx => packOf_any p.length (kindP p) (lbaP p) (seqP p) a1 d1 (dataP p) wx (by rw [HDL.out.1]; exact hF) HDL.out.2.1 hn hx
  have HPK : Hid ((packL p.length (kindP p) (lbaP p) (seqP p) (dataP p)).length = p.length) := packL_len _ _ _ _ _ (by rw [HDL.out.1]; exact h3)
  obtain ⟨PG, HPG⟩ : ∃ L, Hid (packL p.length (kindP p) (lbaP p) (seqP p) (dataP p) = L) := ⟨_, rfl⟩
  rw [HPG.out] at hPo
  have HPK2 : Hid (PG.length = p.length) := by rw [← HPG.out]; exact HPK.out
  have HNE : Hid (PG = p) := by rw [← HPG.out]; exact heq
  have HV : Hid (∀ w' a c, OwnA w' w.heap.size a c (dataP p) → Below w.heap.size w w' → ValidPost w w' (.returned (.tuple #[FV (kindP p : Nat) (lbaP p : Nat) (seqP p : Nat) a (dataP p).length c, .int .i64 2])) p) := fun w' a c h6 h7 => ⟨a, c, by rw [HDL.out.1], h6, h7⟩
  clear heq
  clear hF HPK HPG
  have HEQ : Hid (num (cutL p 2 4) = lbaP p ∧ num (cutL p 6 8) = seqP p ∧ num (cutL p 14 2) = longP p) := ⟨rfl, rfl, rfl⟩
  have HON2 : Hid (∀ wx, (∀ i, i < p.length → wx.cell? ⟨b, off + i, none⟩ = some (.int .u8 ((p[i]?.getD 0 : Nat) : Int))) → (∀ c, Calls (Al.progOf Tryz.prog) 19 #[.slice (some ⟨b, off + 2, none⟩) 4 c] wx fun e w' => e = .returned (.int .i64 (lbaP p : Nat)) ∧ w' = wx) ∧ (∀ c, Calls (Al.progOf Tryz.prog) 19 #[.slice (some ⟨b, off + 6, none⟩) 8 c] wx fun e w' => e = .returned (.int .i64 (seqP p : Nat)) ∧ w' = wx) ∧ (∀ c, Calls (Al.progOf Tryz.prog) 19 #[.slice (some ⟨b, off + 14, none⟩) 2 c] wx fun e w' => e = .returned (.int .i64 (longP p : Nat)) ∧ w' = wx)) := fun wx hx =>
    ⟨fun c => HON.out wx hx 2 4 c (by omega) (by omega) (by omega), fun c => HON.out wx hx 6 8 c (by omega) (by omega) (by omega), fun c => HON.out wx hx 14 2 c (by omega) (by omega) (by omega)⟩
  rw [HEQ.out.1] at hbl
  rw [HEQ.out.2.1] at hbs
  rw [HEQ.out.2.2] at hbd hlg
  clear HON HEQ HNB hkP
  generalize kindP p = KK at *
  generalize lbaP p = LB at *
  generalize seqP p = SQ at *
  generalize dataP p = DT at *
  generalize longP p = LG at *
  have w20 : IntKind.i64.wrap (20 + (LG : Int)) = 20 + (LG : Int) := by rw [IntKind.wrap_i64]; omega
  have l20 : (20 : Int) ≤ 20 + (LG : Int) := by omega
  have m20 : 20 + (LG : Int) ≤ (cap : Int) := by omega
  have t20 : (20 + (LG : Int)).toNat = 20 + LG := by omega
  have HFB : Hid (Below (w.alloc zeroF).heap.size (w.alloc zeroF) ((w.alloc zeroF).alloc (.cells #[.int .i64 (KK : Nat), .int .i64 (LB : Nat), .int .i64 (SQ : Nat), .slice none 0 0] 38)) ∧ Below w.heap.size w ((w.alloc zeroF).alloc (.cells #[.int .i64 (KK : Nat), .int .i64 (LB : Nat), .int .i64 (SQ : Nat), .slice none 0 0] 38))) := ⟨alloc_below' _ _, HB2.out _⟩
  have HFH : Hid (((w.alloc zeroF).alloc (.cells #[.int .i64 (KK : Nat), .int .i64 (LB : Nat), .int .i64 (SQ : Nat), .slice none 0 0] 38)).heap[w.heap.size + 1]? = some (.cells #[.int .i64 (KK : Nat), .int .i64 (LB : Nat), .int .i64 (SQ : Nat), .slice none 0 0] 38 (0, 0))) := by
    have e := heap_alloc_new (w.alloc zeroF) (.cells #[.int .i64 (KK : Nat), .int .i64 (LB : Nat), .int .i64 (SQ : Nat), .slice none 0 0] 38)
    rw [show (w.alloc zeroF).heap.size = w.heap.size + 1 by simp] at e
    exact e
  clear hE hc hA h3
  go_enter Al.func10, Tryz.ntmps10
  go_wp2
  go_loop [5, 6] (fun t i => ∃ (k : Nat) (r : Bool), k ≤ p.length ∧ i = .int .i64 k ∧ t = .bool r ∧ Hid (r = true ↔ (0 < p.length ∧ ∀ j, j < k → p[j]?.getD 0 = 255))) (fun _ i => p.length - (intOf i).toNat)
  case atStart => exact ⟨0, true, by omega, rfl, rfl, fun _ => ⟨h0, fun j h => by omega⟩, fun _ => rfl⟩
  case round =>
      obtain ⟨k, r, hk, rfl, rfl, hr⟩ := hrel
      by_cases hlt : k < p.length
      · have hck := HC.out k hlt
        cases r
        · have HN : Hid (false = true ↔ (0 < p.length ∧ ∀ j, j < k + 1 → p[j]?.getD 0 = 255)) := ⟨(fun e => by cases e), fun e => hr.out.2 ⟨e.1, fun j hj => e.2 j (by omega)⟩⟩
          clear hr hck
          go_wp2
          go_round
          case rel => exact ⟨k + 1, false, by omega, by go_num, rfl, HN.out⟩
          case measure => simp [intOf]; omega
        · by_cases h255 : p[k]?.getD 0 = 255
          · have HN : Hid (true = true ↔ (0 < p.length ∧ ∀ j, j < k + 1 → p[j]?.getD 0 = 255)) := ⟨fun _ => ⟨by omega, fun j hj => by
              by_cases e : j = k
              · subst e; exact h255
              · exact (hr.out.1 rfl).2 j (by omega)⟩, fun _ => rfl⟩
            rw [h255] at hck
            clear hr h255
            go_wp2
            go_round
            case rel => exact ⟨k + 1, true, by omega, by go_num, rfl, HN.out⟩
            case measure => simp [intOf]; omega
          · have HN : Hid (false = true ↔ (0 < p.length ∧ ∀ j, j < k + 1 → p[j]?.getD 0 = 255)) := ⟨(fun e => by cases e), fun e => absurd (e.2 k (by omega)) h255⟩
            generalize p[k]?.getD 0 = X at hck h255
            have hx : ((X : Int) == 255) = false := beq_no (by omega)
            clear hr h255
            go_wp2
            go_round
            case rel => exact ⟨k + 1, false, by omega, by go_num, rfl, HN.out⟩
            case measure => simp [intOf]; omega
      · obtain rfl : k = p.length := by omega
        obtain rfl : r = false := by
          cases r
          · rfl
          · exact absurd ⟨by omega, (hr.out.1 rfl).2⟩ HER.out
        clear hr hlt hk
        go_wp2_with fail
        refine ((HON2.out _ (HC2.out _)).1 _).mono ?_
        rintro e w1 ⟨rfl, rfl⟩
        go_wp2_with fail
        refine ((HON2.out _ (HC2.out _)).2.1 _).mono ?_
        rintro e w1 ⟨rfl, rfl⟩
        go_wp2_with fail
        refine ((HON2.out _ (HC2.out _)).2.2 _).mono ?_
        rintro e w1 ⟨rfl, rfl⟩
        have HC3 := HC2.out (.cells #[.int .i64 (KK : Nat), .int .i64 (LB : Nat), .int .i64 (SQ : Nat), .slice none 0 0] 38)
        have HW0 : Hid (∀ i, i < p.length → ((w.alloc zeroF).alloc (.cells #[.int .i64 (KK : Nat), .int .i64 (LB : Nat), .int .i64 (SQ : Nat), .slice none 0 0] 38)).cell? ⟨b, off + i, none⟩ = some (.int .u8 ((p[i]?.getD 0 : Nat) : Int))) := HC3
        clear HC3 HC2 HON2 HC
        have HWF : Hid (∀ wx, Below ((w.alloc zeroF).alloc (.cells #[.int .i64 (KK : Nat), .int .i64 (LB : Nat), .int .i64 (SQ : Nat), .slice none 0 0] 38)).heap.size ((w.alloc zeroF).alloc (.cells #[.int .i64 (KK : Nat), .int .i64 (LB : Nat), .int .i64 (SQ : Nat), .slice none 0 0] 38)) wx → Lies wx (some ⟨b, off, none⟩) p) := fun wx hx => (show Lies ((w.alloc zeroF).alloc (.cells #[.int .i64 (KK : Nat), .int .i64 (LB : Nat), .int .i64 (SQ : Nat), .slice none 0 0] 38)) (some ⟨b, off, none⟩) p from Or.inr ⟨b, off, rfl, HW0.out⟩).below hx
        generalize (w.alloc zeroF).alloc (.cells #[.int .i64 (KK : Nat), .int .i64 (LB : Nat), .int .i64 (SQ : Nat), .slice none 0 0] 38) = wF at HFB HFH HW0 HWF ⊢
        have HE0 : Hid (Below wF.heap.size wF (wF.alloc (.cells #[] 5))) := alloc_below' wF _
        have HLX : Hid (Lies (wF.alloc (.cells #[] 5)) (some ⟨b, off + 20, none⟩) DT) := (HLD.out _ HW0.out).below HE0.out
        go_wp2_with (at_builtin; refine app_step rfl (.tmp 65) (.tmp 69) rfl wF.heap.size (some ⟨wF.heap.size, 0, none⟩) 0 [] (by rfl) (own_new wF wF.heap.size [] (Nat.le_refl _) (by simp) _ rfl) (some ⟨b, off + 20, none⟩) (cap - 20) DT (by rw [HDL.out.1]; rfl) (fun e => by cases e) HLX.out DT rfl HDL.out.2.2 HE0.out.size ?_)
        intro a1 d1 w2 hO hK
        have H2 : Hid (Below wF.heap.size wF w2 ∧ OwnA w2 wF.heap.size a1 d1 DT) := ⟨HE0.out.trans (hK.below HE0.out.size (fun b hb => by obtain ⟨x, e, rfl⟩ := hb; cases e; exact Nat.le_refl _)), hO⟩
        have hh2 := (H2.out.1.block (w.heap.size + 1) (heap_lt HFH.out)).trans HFH.out
        have f3 : w2.frozen? ⟨w.heap.size + 1, 3, none⟩ = false := row_free hh2 3
        have x0 : w2.cell? ⟨w.heap.size + 1, 0, none⟩ = some (.int .i64 (KK : Nat)) := by simp [World.cell?, hh2]
        have x1 : w2.cell? ⟨w.heap.size + 1, 1, none⟩ = some (.int .i64 (LB : Nat)) := by simp [World.cell?, hh2]
        have x2 : w2.cell? ⟨w.heap.size + 1, 2, none⟩ = some (.int .i64 (SQ : Nat)) := by simp [World.cell?, hh2]
        have x3 : w2.cell? ⟨w.heap.size + 1, 3, none⟩ = some (.slice none 0 0) := by simp [World.cell?, hh2]
        have H3 : Hid (BoxAt (w2.setCell ⟨w.heap.size + 1, 3, none⟩ (.slice a1 DT.length d1)) (w.heap.size + 1) KK LB SQ a1 DT.length d1 ∧ OwnA (w2.setCell ⟨w.heap.size + 1, 3, none⟩ (.slice a1 DT.length d1)) (w.heap.size + 1) a1 d1 DT ∧ Below (w.alloc zeroF).heap.size (w.alloc zeroF) (w2.setCell ⟨w.heap.size + 1, 3, none⟩ (.slice a1 DT.length d1))) := by
          have hs1 : (w.alloc zeroF).heap.size = w.heap.size + 1 := by simp
          have hk : Keep (fun q => q = w.heap.size + 1) w2 (w2.setCell ⟨w.heap.size + 1, 3, none⟩ (.slice a1 DT.length d1)) := (Keep.refl (fun q => q = w.heap.size + 1) w2).set (p := ⟨w.heap.size + 1, 3, none⟩) rfl _
          have hlt3 := heap_lt HFH.out
          refine ⟨⟨by rw [far _ (by omega)]; exact x0, by rw [far _ (by omega)]; exact x1, by rw [far _ (by omega)]; exact x2, World.cell?_setCell_same _ _ _ x3⟩, (H2.out.2.keep hk (fun q hq e => by have h6 := (H2.out.2.ge hq).1; omega)).base (by omega), ?_⟩
          have h7 := HFB.out.1.trans (H2.out.1.mono HFB.out.1.size)
          exact h7.trans (hk.below h7.size (fun q hq => by have e : q = w.heap.size + 1 := hq; omega))
        have HLP : Hid (Lies (w2.setCell ⟨w.heap.size + 1, 3, none⟩ (.slice a1 DT.length d1)) (some ⟨b, off, none⟩) p) := by
          have hk : Keep (fun q => q = w.heap.size + 1) w2 (w2.setCell ⟨w.heap.size + 1, 3, none⟩ (.slice a1 DT.length d1)) := (Keep.refl (fun q => q = w.heap.size + 1) w2).set (p := ⟨w.heap.size + 1, 3, none⟩) rfl _
          exact (HWF.out w2 H2.out.1).keep hk (fun b' off' e => by cases e; have := HBW.out; omega)
        clear hO hK hh2 HE0 HLX HFB HFH HWF
        go_wp2_with fail
        clear x0 x1 x2 x3 f3 H2
        generalize w2.setCell ⟨w.heap.size + 1, 3, none⟩ (.slice a1 DT.length d1) = w3 at H3 HLP ⊢
        refine (hFt _ _ _).mono ?_
        rintro e w4 ⟨rfl, hb4⟩
        have H4 : Hid (BoxAt w4 (w.heap.size + 1) KK LB SQ a1 DT.length d1 ∧ OwnA w4 (w.heap.size + 1) a1 d1 DT ∧ Below (w.alloc zeroF).heap.size (w.alloc zeroF) w4 ∧ Lies w4 (some ⟨b, off, none⟩) p) := ⟨H3.out.1.below hb4, H3.out.2.1.below hb4, H3.out.2.2.trans (hb4.mono H3.out.2.2.size), HLP.out.below hb4⟩
        clear hb4 H3 hFt HLP
        have x0 := H4.out.1.c0
        have x1 := H4.out.1.c1
        have x2 := H4.out.1.c2
        have x3 := H4.out.1.c3
        go_wp2_with fail
        refine (hPo _ _ _ H4.out.2.1.nil0 H4.out.2.1.lies).mono ?_
        rintro e w5 ⟨a5, d5, rfl, hO5, hb5⟩
        have H5 : Hid (BoxAt w5 (w.heap.size + 1) KK LB SQ a1 DT.length d1 ∧ OwnA w5 (w.heap.size + 1) a1 d1 DT ∧ Below (w.alloc zeroF).heap.size (w.alloc zeroF) w5 ∧ Lies w5 (some ⟨b, off, none⟩) p ∧ Lies w5 a5 PG) := ⟨H4.out.1.below hb5, H4.out.2.1.below hb5, H4.out.2.2.1.trans (hb5.mono H4.out.2.2.1.size), H4.out.2.2.2.below hb5, hO5.lies⟩
        clear hO5 hb5 H4 hPo x0 x1 x2 x3
        have hby := bytes_any a5 (some ⟨b, off, none⟩) PG p d5 cap w5 (by rw [HPK2.out]; omega) (by omega) H5.out.2.2.2.2 H5.out.2.2.2.1
        rw [decide_eq_true HNE.out] at hby
        go_wp2_with fail
        refine hby.mono ?_
        rintro e w6 ⟨rfl, hb6⟩
        have H9 : Hid (BoxAt w6 w.heap.size 0 0 0 none 0 0 ∧ (∀ i, w6.frozen? ⟨w.heap.size, i, none⟩ = false) ∧ Below w.heap.size w w6) := zero_at (H5.out.2.2.1.trans (hb6.mono H5.out.2.2.1.size))
        have H6 : Hid (BoxAt w6 (w.heap.size + 1) KK LB SQ a1 DT.length d1 ∧ OwnA w6 (w.heap.size + 1) a1 d1 DT) := ⟨H5.out.1.below hb6, H5.out.2.1.below hb6⟩
        clear hb6 H5 hby
        have q0 := H9.out.1.c0
        have q1 := H9.out.1.c1
        have q2 := H9.out.1.c2
        have q3 := H9.out.1.c3
        have g0 := H9.out.2.1 0
        have g1 := H9.out.2.1 1
        have g2 := H9.out.2.1 2
        have g3 := H9.out.2.1 3
        have r0 := H6.out.1.c0
        have r1 := H6.out.1.c1
        have r2 := H6.out.1.c2
        have r3 := H6.out.1.c3
        go_wp2_with fail
        have hz := box_set H9.out.1 (.int .i64 (KK : Nat)) (.int .i64 (LB : Nat)) (.int .i64 (SQ : Nat)) (.slice a1 DT.length d1)
        refine bodyPost_ret (v := .tuple #[FV (KK : Nat) (LB : Nat) (SQ : Nat) a1 DT.length d1, .int .i64 2]) (by simp [results, Tryz.results10, go_sem, hz.1, hz.2.1, hz.2.2.1, hz.2.2.2]) rfl ?_
        exact HV.out _ _ _ ((H6.out.2.keep (keep_four _ w.heap.size _ _ _ _) (fun q hq e => by have h6 := (H6.out.2.ge hq).1; omega)).base (by omega)) (below_four H9.out.2.2 _ _ _ _)
/-- ANY BYTES, by the document's answer. -/
theorem refOpen_any (a : Option Addr) (p : List Nat) (cap : Nat) (w : World) (hA : AllB p) (hL : Lies w a p) (hcap : p.length ≤ cap) (hm : p.length ≤ 9223372036854775807) :
    Calls (Al.progOf Tryz.prog) 10 #[.slice a p.length cap] w fun e w' => (ErasedP p ∧ e = .returned (.tuple #[F0, .int .i64 1]) ∧ Below w.heap.size w w') ∨ (¬ ErasedP p ∧ ValidP p ∧ ValidPost w w' e p) ∨ (¬ ErasedP p ∧ ¬ ValidP p ∧ e = .returned (.tuple #[F0, .int .i64 3]) ∧ Below w.heap.size w w') := by
  by_cases h0 : 0 < p.length
  case neg =>
    have hp : p = [] := List.eq_nil_of_length_eq_zero (by omega)
    subst hp
    exact (refOpen_nil a cap w).mono fun e w' ⟨h1, h2⟩ => Or.inr (Or.inr ⟨fun e => absurd e.1 (by simp), fun hv => absurd hv.1.n0 (by simp), h1, h2⟩)
  obtain ⟨b, off, rfl, hc⟩ := hL.some_of h0
  by_cases hE : ErasedP p
  · exact (refOpen_erased b off p cap w h0 hm hc hE).mono fun e w' ⟨h1, h2⟩ => Or.inl ⟨hE, h1, h2⟩
  by_cases hs : 24 ≤ p.length ∧ p.length ≤ 4096
  case neg => exact (refOpen_size b off p cap w h0 hm hc hE hs).mono fun e w' ⟨h1, h2⟩ => Or.inr (Or.inr ⟨hE, fun hv => hs ⟨hv.1.n0, hv.1.n1⟩, h1, h2⟩)
  obtain ⟨h24, h4096⟩ := hs
  by_cases ht : 127 < p[13]?.getD 0
  · refine (refOpen_top b off p cap w h0 hm hc hE h24 h4096 ht).mono fun e w' ⟨h1, h2⟩ => Or.inr (Or.inr ⟨hE, fun hv => ?_, h1, h2⟩)
    have h3 := hv.1.s1
    have h4 := seq_great (p := p) (by omega) ht
    omega
  by_cases h3 : longP p + 21 ≤ p.length
  case neg => exact (refOpen_long b off p cap w h0 hm hc hE hA hcap h24 h4096 ht h3).mono fun e w' ⟨h1, h2⟩ => Or.inr (Or.inr ⟨hE, fun hv => h3 hv.1.d1, h1, h2⟩)
  by_cases hF : FOk p.length (kindP p) (lbaP p) (seqP p) (longP p)
  case neg => exact (refOpen_fault b off p cap w h0 hm hc hE hA hcap h24 h4096 ht h3 hF).mono fun e w' ⟨h1, h2⟩ => Or.inr (Or.inr ⟨hE, fun hv => hF hv.1, h1, h2⟩)
  by_cases he : packL p.length (kindP p) (lbaP p) (seqP p) (dataP p) = p
  · exact (refOpen_eq b off p cap w h0 hm hc hE hA hcap h24 h4096 ht h3 hF he).mono fun e w' h => Or.inr (Or.inl ⟨hE, ⟨hF, he⟩, h⟩)
  · exact (refOpen_uneq b off p cap w h0 hm hc hE hA hcap h24 h4096 ht h3 hF he).mono fun e w' ⟨h1, h2⟩ => Or.inr (Or.inr ⟨hE, fun hv => he hv.2, h1, h2⟩)
end Go.Proofs.YtdkafcgangcgbagGreatDoorQ

/-
  What the calls of New, Put, Drop and Get give.
-/
import Derived.Test.YtphacdnepjpmoafRow3
namespace Go.Proofs.Ytphacdnepjpmoaf
open Go.RowKit Go.Maps
set_option linter.unusedVariables false

/-- An error, or none. -/
def errI (n : Nat) : Value := if n = 0 then .nilIface else .iface 48 (.int .i64 (n : Int))
theorem errI_ne {n : Nat} (h : n ≠ 0) : errI n = .iface 48 (.int .i64 (n : Int)) := if_neg h
/-- A BUFFER THAT HOLDS THE ITEMS L. -/
def BS (w : World) (B bb mb most : Nat) (L : List It) : Prop := ∃ N : List Nd, BU w B bb mb most N ∧ N.map (·.it) = L
theorem BS.below {w w' : World} {B bb mb most : Nat} {L : List It} (h : BS w B bb mb most L) (hb : Below w.heap.size w w') : BS w' B bb mb most L := by
  obtain ⟨N, h1, h2⟩ := h
  exact ⟨N, h1.below hb, h2⟩
theorem BS.lt {w : World} {B bb mb most : Nat} {L : List It} (h : BS w B bb mb most L) : B ≤ w.heap.size := by
  obtain ⟨N, h1, h2⟩ := h
  exact h1.lt
theorem BS.ok {w : World} {B bb mb most : Nat} {L : List It} (h : BS w B bb mb most L) : Ok most L ∧ 1 ≤ most ∧ most ≤ 16 := by
  obtain ⟨N, h1, h2⟩ := h
  exact ⟨h2 ▸ h1.ok, h1.m16⟩
theorem BS.own {w w' : World} {B bb mb most g : Nat} {L : List It} (h : BS w B bb mb most L) (hk : Keep (fun b => b = g) w w') {cs : Array Value} {T : TypeId} {f : Nat × Nat} (hg : w.heap[g]? = some (.cells cs T f)) (h1 : T ≠ 69) (h2 : T ≠ 60) (h5 : T ≠ 5) : BS w' B bb mb most L := by
  obtain ⟨N, h3, h4⟩ := h
  exact ⟨N, h3.own hk hg h1 h2 h5, h4⟩
/-- What a put gives. -/
def PutPost (w w' : World) (e : Ending) (B bb mb most : Nat) (L : List It) (it : It) : Prop := e = .returned (errI (putE most L it.lba)) ∧ BS w' B bb mb most (putL most L it) ∧ Apart B w w'
theorem keep_any {w : World} {B bb mb most : Nat} {L : List It} {it : It} {a : Option Addr} {cap : Nat} (h : BS w B bb mb most L) (hd1 : OwnA w B a cap it.data) (h9 : it.lba ≤ 9223372036854775807) (hq7 : it.data.length ≤ 140737488355328) :
    Calls Try.prog 19 #[.pointer (some ⟨bb, 0, none⟩), .agg #[.int .i64 it.lba, .bool it.gone, .slice a it.data.length cap]] w fun e w' => PutPost w w' e B bb mb most L it := by
  obtain ⟨N, hB, rfl⟩ := h
  have hBl := hB.lt
  rcases putE_cases most (N.map (·.it)) it.lba with ⟨h0, e0⟩ | ⟨h0, hh, hl, e0⟩ | ⟨h0, hh, hl, e0⟩ | ⟨h0, hh, e0⟩
  · refine (keep_range w bb it.lba it.gone a it.data.length cap h0).mono ?_
    rintro e w' ⟨h1, h2⟩
    refine ⟨by rw [e0]; exact h1, ?_, Apart.of_below h2 hBl⟩
    unfold putL
    rw [e0, if_neg (by omega)]
    exact ⟨N, hB.below h2, rfl⟩
  · have hf : fndN N it.lba = none := by
      rw [has_fnd, ← fndN_it] at hh
      cases e : fndN N it.lba with
      | none => rfl
      | some x => rw [e] at hh; cases hh
    rw [List.length_map] at hl
    refine (keep_full hB it.lba it.gone a it.data.length cap h0 h9 hf hl).mono ?_
    rintro e w' ⟨h1, h2⟩
    refine ⟨by rw [e0]; exact h1, ?_, Apart.of_below h2 hBl⟩
    unfold putL
    rw [e0, if_neg (by omega)]
    exact ⟨N, hB.below h2, rfl⟩
  · have hf : fndN N it.lba = none := by
      rw [has_fnd, ← fndN_it] at hh
      cases e : fndN N it.lba with
      | none => rfl
      | some x => rw [e] at hh; cases hh
    rw [List.length_map] at hl
    have hln := hB.ok.ln
    rw [List.length_map] at hln
    refine (keep_new hB hd1 hf (by omega) h0 h9 hq7).mono ?_
    rintro e w' ⟨h1, g, h2, h3⟩
    refine ⟨by rw [e0]; exact h1, ?_, Apart.of_keep hB h3⟩
    unfold putL
    rw [e0, if_pos rfl, drp_no _ _ hh]
    exact ⟨_, h2, by rw [List.map_append]; rfl⟩
  · cases hf : fndN N it.lba with
    | none =>
      rw [has_fnd, ← fndN_it, hf] at hh
      cases hh
    | some x =>
      obtain ⟨A, C, rfl, hx⟩ := fndN_split hf
      refine (keep_old hB hd1 hf h0 h9 hq7).mono ?_
      rintro e w' ⟨h1, g, h2, h3⟩
      refine ⟨by rw [e0]; exact h1, ?_, Apart.of_keep hB h3⟩
      have hn := hB.ok.nd
      unfold putL
      rw [e0, if_pos rfl]
      refine ⟨_, h2, ?_⟩
      have e9 : (A ++ x :: C).map (·.it) = A.map (·.it) ++ x.it :: C.map (·.it) := by rw [List.map_append, List.map_cons]
      rw [e9] at hn ⊢
      rw [← hx, drp_mid _ _ _ hn, List.map_append, List.map_append]
      rfl
set_option maxRecDepth 20000 in
set_option maxHeartbeats 800000 in
theorem put_any {w : World} {B bb mb most : Nat} {L : List It} (l : Int) (bs : List Nat) (a : Option Addr) (cap : Nat) (h : BS w B bb mb most L) (h9 : l ≤ 9223372036854775807) (hL : Lies w a bs) (hb : bs.length ≤ 140737488355328) :
    Calls Try.prog 10 #[.pointer (some ⟨bb, 0, none⟩), .int .i64 l, .slice a bs.length cap] w fun e w' => PutPost w w' e B bb mb most L ⟨l, false, bs⟩ := by
  have H1 : Hid (Calls Try.prog 18 #[.slice a bs.length cap] w fun e w' => OwnPost w w' e bs) := clone_any a cap bs w hb hL
  have H2 : Hid (∀ w1 a1 c1, OwnA w1 w.heap.size a1 c1 bs → Below w.heap.size w w1 → Calls Try.prog 19 #[.pointer (some ⟨bb, 0, none⟩), .agg #[.int .i64 l, .bool false, .slice a1 bs.length c1]] w1 fun e w' => PutPost w w' e B bb mb most L ⟨l, false, bs⟩) := fun w1 a1 c1 ho hbl => by
    refine (keep_any (it := ⟨l, false, bs⟩) (h.below hbl) (ho.base h.lt) h9 hb).mono ?_
    rintro e w' ⟨h1, h2, h3⟩
    exact ⟨h1, h2, (Apart.of_below hbl h.lt).trans h3⟩
  clear h hL hb
  go_enter Try.func10, Try.ntmps10
  go_wp2_with fail
  refine H1.out.mono ?_
  rintro e w1 ⟨a1, c1, rfl, ho, hbl⟩
  have H3 := H2.out w1 a1 c1 ho hbl
  clear H1 H2 ho hbl
  go_wp2_with fail
  refine H3.mono ?_
  rintro e w2 ⟨rfl, hP⟩
  have HP : Hid (BS w2 B bb mb most (putL most L ⟨l, false, bs⟩) ∧ Apart B w w2) := hP
  clear H3 hP
  go_wp2
  go_ret
  exact ⟨rfl, HP.out⟩
set_option maxRecDepth 20000 in
set_option maxHeartbeats 800000 in
theorem drop_any {w : World} {B bb mb most : Nat} {L : List It} (l : Int) (h : BS w B bb mb most L) (h9 : l ≤ 9223372036854775807) :
    Calls Try.prog 12 #[.pointer (some ⟨bb, 0, none⟩), .int .i64 l] w fun e w' => PutPost w w' e B bb mb most L ⟨l, true, []⟩ := by
  have H3 : Hid (Calls Try.prog 19 #[.pointer (some ⟨bb, 0, none⟩), .agg #[.int .i64 l, .bool true, .slice none 0 0]] w fun e w' => PutPost w w' e B bb mb most L ⟨l, true, []⟩) := keep_any (it := ⟨l, true, []⟩) h (own_nil _ _) h9 (Nat.zero_le _)
  clear h
  go_enter Try.func12, Try.ntmps12
  go_wp2_with fail
  refine H3.out.mono ?_
  rintro e w2 ⟨rfl, hP⟩
  have HP : Hid (BS w2 B bb mb most (putL most L ⟨l, true, []⟩) ∧ Apart B w w2) := hP
  clear H3 hP
  go_wp2
  go_ret
  exact ⟨rfl, HP.out⟩
theorem blen_any {w : World} {B bb mb most : Nat} {L : List It} (h : BS w B bb mb most L) : Calls Try.prog 14 #[.pointer (some ⟨bb, 0, none⟩)] w fun e w' => e = .returned (.int .i64 (L.length : Nat)) ∧ w' = w := by
  obtain ⟨N, hB, rfl⟩ := h
  rw [List.length_map]
  exact len_any hB
set_option maxRecDepth 20000 in
set_option maxHeartbeats 800000 in
theorem new_bad (m : Int) (w : World) (h : m < 1 ∨ 16 < m) : Calls Try.prog 8 #[.int .i64 m] w fun e w' => e = .returned (.tuple #[.pointer none, .iface 48 (.int .i64 1)]) ∧ w' = w := by
  rcases h with h | h
  · go_enter Try.func8, Try.ntmps8
    go_wp2
    go_ret2
    exact ⟨rfl, rfl⟩
  · have h0 : ¬ m < 1 := by omega
    go_enter Try.func8, Try.ntmps8
    go_wp2
    go_ret2
    exact ⟨rfl, rfl⟩
set_option maxRecDepth 20000 in
set_option maxHeartbeats 800000 in
theorem new_yes (m : Nat) (w : World) (h1 : 1 ≤ m) (h2 : m ≤ 16) : Calls Try.prog 8 #[.int .i64 m] w fun e w' => e = .returned (.tuple #[.pointer (some ⟨w.heap.size + 1, 0, none⟩), .nilIface]) ∧ BS w' w.heap.size (w.heap.size + 1) w.heap.size m [] ∧ Below w.heap.size w w' := by
  have hmm := @run_makeMap Try.prog
  have ha : (1 : Int) ≤ (m : Int) := by omega
  have hb : (m : Int) ≤ 16 := by omega
  have HF : Hid (BS ((w.alloc (.map #[] 0)).alloc (.cells #[.int .i64 m, .pointer none, .pointer none, .map (some w.heap.size)] 60)) w.heap.size (w.heap.size + 1) w.heap.size m [] ∧ Below w.heap.size w ((w.alloc (.map #[] 0)).alloc (.cells #[.int .i64 m, .pointer none, .pointer none, .map (some w.heap.size)] 60))) := by
    have hs : (w.alloc (.map #[] 0)).heap.size = w.heap.size + 1 := by simp
    have hk : Keep (fun _ => False) (w.alloc (.map #[] 0)) ((w.alloc (.map #[] 0)).alloc (.cells #[.int .i64 m, .pointer none, .pointer none, .map (some w.heap.size)] 60)) := (Keep.refl _ _).alloc _
    have hn := heap_alloc_new (w.alloc (.map #[] 0)) (.cells #[.int .i64 m, .pointer none, .pointer none, .map (some w.heap.size)] 60)
    rw [hs] at hn
    refine ⟨⟨[], ⟨⟨hn, trivial, by simp⟩, (mp_new w).keep hk (fun e => e), fun x hx => by simp at hx, ⟨by omega, Nat.le_refl _, fun x hx => by simp at hx⟩, ok_nil _, h1, h2⟩, rfl⟩, ?_⟩
    exact (alloc_below' w _).alloc (by rw [hs]; omega) _
  clear h1 h2
  go_enter Try.func8, Try.ntmps8
  go_wp2
  go_ret2
  exact ⟨rfl, HF.out⟩
end Go.Proofs.Ytphacdnepjpmoaf

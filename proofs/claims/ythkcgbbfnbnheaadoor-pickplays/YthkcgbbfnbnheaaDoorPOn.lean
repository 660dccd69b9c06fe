/-
  The queues are gone round: the iterator's contract, and what the call of goOn gives.
-/
import Derived.Test.YthkcgbbfnbnheaaDoorPRound
import Derived.Test.YthkcgbbfnbnheaaDoorPMin
namespace Go.Proofs.YthkcgbbfnbnheaaDoor
open Go.RowKit Go.Shelf
set_option linter.unusedVariables false
attribute [local go_sem] Oper.semAt_some

/-- The queues that come first, from the one behind a on. -/
def upto (n a : Nat) (hn : 0 < n) (k : Nat) : List (Fin n) := (List.range k).map fun i => ⟨(a + 1 + i) % n, Nat.mod_lt _ hn⟩
theorem upto_succ (n a : Nat) (hn : 0 < n) (k : Nat) : upto n a hn (k + 1) = upto n a hn k ++ [⟨(a + 1 + k) % n, Nat.mod_lt _ hn⟩] := by
  unfold upto; rw [List.range_succ, List.map_append]; rfl
theorem upto_len (n a : Nat) (hn : 0 < n) (k : Nat) : (upto n a hn k).length = k := by simp [upto]
theorem upto_pre (n a : Nat) (hn : 0 < n) {j k : Nat} (h : j ≤ k) : upto n a hn j <+: upto n a hn k := by
  obtain ⟨d, rfl⟩ : ∃ d, k = j + d := ⟨k - j, by omega⟩
  unfold upto
  rw [List.range_add, List.map_append]
  exact List.prefix_append _ _
/-- A number as the iterator hands it on. -/
def encN (n : Nat) (x : Fin n) : Array Value := #[.int .i64 ((x.val : Nat) : Int)]
theorem rem_facts (n s : Nat) : Int.tmod (s : Int) (n : Int) = ((s % n : Nat) : Int) := by
  rw [Int.tmod_eq_emod_of_nonneg (by omega), Int.natCast_emod]
set_option maxRecDepth 100000 in
set_option maxHeartbeats 2000000 in
/-- ONCE ROUND, FOR EVERY LOOP BODY THAT KEEPS WHAT LAY BELOW n₀. -/
theorem on1_in (m n a l ab fb n₀ : Nat) (hn : 0 < n) (h8 : n ≤ 8) (ha : a < n) (J Jx : List (Fin n) → World → Prop)
    (hY : ∀ pre x W, J pre W → pre.length < n → YieldAt Fence.wide (m - 1) Tryd.prog l (encN n x) W fun e W' =>
      (e = .returned (.bool true) ∧ J (pre ++ [x]) W' ∧ Below n₀ W W') ∨ (e = .returned (.bool false) ∧ Jx (pre ++ [x]) W'))
    (W : World) (hab : ab < n₀) (hfb : fb < n₀) (hA : W.cell? ⟨ab, 0, none⟩ = some (.int .i64 (n : Nat))) (hF : W.cell? ⟨fb, 0, none⟩ = some (.int .i64 ((a + 1 : Nat) : Int))) (h0 : J [] W) :
    CallsIn Fence.wide m Tryd.prog 22 #[.func (.yield l) #[] #[], .pointer (some ⟨ab, 0, none⟩), .pointer (some ⟨fb, 0, none⟩)] W fun e W' => (∃ v, e = .returned v) ∧
      ((∃ ys, ys = upto n a hn n ∧ J ys W') ∨ (∃ pre, pre <+: upto n a hn n ∧ Jx pre W')) := by
  refine callsIn_of_wp Tryd.func22 rfl trivial ?_ rfl
  simp only [Tryd.ntmps22, List.size_toArray, List.length_cons, List.length_nil, Nat.reduceAdd, Nat.reduceSub, Array.replicate_succ, Array.replicate_zero, List.push_toArray, List.append_toArray, List.nil_append, List.cons_append]
  gi_wp2
  gi_loopw [6] (fun p wr => ∃ i : Nat, i ≤ n ∧ p = .int .i64 i ∧ J (upto n a hn i) wr ∧ wr.cell? ⟨ab, 0, none⟩ = some (.int .i64 (n : Nat)) ∧ wr.cell? ⟨fb, 0, none⟩ = some (.int .i64 ((a + 1 : Nat) : Int)))
    (fun p _ => n - (intOf p).toNat)
  case atStart => exact ⟨0, Nat.zero_le _, rfl, h0, hA, hF⟩
  case round =>
    obtain ⟨i, hi, rfl, hJ, cA, cF⟩ := hrel
    by_cases hlt : i < n
    · obtain ⟨fn, tmps, assign, body, hy, hR⟩ := hY _ ⟨(a + 1 + i) % n, Nat.mod_lt _ hn⟩ wr hJ (by rw [upto_len]; exact hlt)
      rw [← upto_succ] at hR
      have e1 : (((a + 1 + i) % n : Nat) : Int) = ((a : Int) + 1 + (i : Int)) % (n : Int) := by rw [Int.natCast_emod]; congr 1
      have hy2 : Sem.run Tryd.prog (Instr.yield l #[Value.int .i64 (((a : Int) + 1 + (i : Int)) % (n : Int))]) wr = Result.ok (Next.round l fn tmps assign body) wr := by rw [← e1]; exact hy
      clear hy e1 hJ
      gi_wp2
      refine ⟨(fun h => by cases h), ?_⟩
      refine hR.mono ?_
      rintro e W3 (⟨rfl, hJ3, hk3⟩ | ⟨rfl, hJx3⟩)
      · have cA3 := (hk3.cell (p := ⟨ab, 0, none⟩) hab).trans cA
        have cF3 := (hk3.cell (p := ⟨fb, 0, none⟩) hfb).trans cF
        clear hR hY hk3
        gi_wp2
        go_roundw
        case rel => exact ⟨i + 1, by omega, by go_num, hJ3, cA3, cF3⟩
        case measure => simp [intOf]; omega
      · clear hR hY
        gi_wp2
        refine bodyPost_ret (results_none rfl _ _ _) rfl ?_
        exact ⟨⟨_, rfl⟩, .inr ⟨_, upto_pre n a hn hlt, hJx3⟩⟩
    · obtain rfl : i = n := by omega
      gi_wp2
      go_end0
      exact ⟨⟨_, rfl⟩, .inl ⟨_, rfl, hJ⟩⟩
/-- onward's answer is a sequence that may be stopped. -/
theorem on_stops (m n a ab fb n₀ : Nat) (hn : 0 < n) (h8 : n ≤ 8) (ha : a < n) (w : World) (hn₀ : n₀ ≤ w.heap.size) (hab : ab < n₀) (hfb : fb < n₀) (hA : w.cell? ⟨ab, 0, none⟩ = some (.int .i64 (n : Nat))) (hF : w.cell? ⟨fb, 0, none⟩ = some (.int .i64 ((a + 1 : Nat) : Int))) :
    SeqStopsK Fence.wide m Tryd.prog 22 #[.pointer (some ⟨ab, 0, none⟩), .pointer (some ⟨fb, 0, none⟩)] (encN n) (Below n₀) (fun ys => ys = upto n a hn n) (fun pre => pre <+: upto n a hn n) n w := fun l J Jx W hW _ _ hY h0 =>
  on1_in m n a l ab fb n₀ hn h8 ha J Jx hY W hab hfb ((hW.cell (p := ⟨ab, 0, none⟩) (by simp; omega)).trans hA) ((hW.cell (p := ⟨fb, 0, none⟩) (by simp; omega)).trans hF) h0
theorem cell_new_l (W : World) (v : Value) (t : TypeId) : (W.alloc (.cells #[v] t)).cell? ⟨W.heap.size, 0, none⟩ = some v := by simp
/-- All but the blocks of S is as it was, whatever is turned that is no cells and is new. -/
theorem ownFrom_keep {β : Type} {S : Nat → Prop} {w₀ : World} : OwnFrom w₀.heap.size (fun (_ : β) W => Keep S w₀ W) := by
  intro s W W' row h hg hr
  refine h.thru (T := fun b => w₀.heap.size ≤ b) ⟨hg.os, hg.tape, hg.output, hg.size, fun k hk hs => hg.block k hk (fun e => hs (hr k e.symm).1)⟩ (fun i hi e => by omega)
theorem ownFrom_stc {β : Type} {w₀ : World} {g : Nat} {t : TypeId} {l : β → List Value} (hg0 : g < w₀.heap.size) : OwnFrom w₀.heap.size (fun (s : β) W => Stc W g t (l s)) := by
  intro s W W' row h hg hr
  exact (hg.block g (heap_lt h) (fun e => by have := (hr g e.symm).1; omega)).trans h
theorem upto_get (n a : Nat) (hn : 0 < n) (k i : Nat) (hi : i < k) : (upto n a hn k)[i]? = some ⟨(a + 1 + i) % n, Nat.mod_lt _ hn⟩ := by
  unfold upto
  rw [List.getElem?_map, List.getElem?_range hi]
  rfl
theorem on_of_pre {n a : Nat} {hn : 0 < n} {L : List Int} {pre0 : List (Fin n)} {x : Fin n} (h : pre0 ++ [x] <+: upto n a hn n) (hz : ∀ y ∈ pre0, gI L y.val = 0) (hx : 0 < gI L x.val) : IsOn n L a x.val := by
  obtain ⟨t, ht⟩ := h
  have hlen : pre0.length < n := by
    have := congrArg List.length ht
    rw [upto_len] at this
    simp at this
    omega
  have e1 : (upto n a hn n)[pre0.length]? = some x := by rw [← ht]; simp
  rw [upto_get _ _ _ _ _ hlen] at e1
  have e2 : (a + 1 + pre0.length) % n = x.val := congrArg Fin.val (Option.some.inj e1)
  refine ⟨pre0.length, hlen, e2.symm, hx, fun i hi => ?_⟩
  have e3 : (upto n a hn n)[i]? = pre0[i]? := by rw [← ht, List.append_assoc, List.getElem?_append_left hi]
  rw [upto_get _ _ _ _ _ (by omega)] at e3
  have := hz _ (List.mem_of_getElem? e3.symm)
  exact this
theorem none_of_upto {n a : Nat} {hn : 0 < n} {L : List Int} (hL : L.length = n) (ha : a < n) (hz : ∀ y ∈ upto n a hn n, gI L y.val = 0) : NoneW L :=
  none_of_round hL ha fun i hi => hz ⟨(a + 1 + i) % n, Nat.mod_lt _ hn⟩ (List.mem_of_getElem? (upto_get n a hn n i hi))
/-- What lies there while the queues are gone round. -/
structure OnM (w1 W : World) (pb B0 B1 B2 n cap cap0 g o wg wo a c : Nat) (L Wt : List Int) : Prop where
  b0 : W.cell? ⟨B0, 0, none⟩ = some (.pointer (some ⟨pb, 0, none⟩))
  b1 : W.cell? ⟨B1, 0, none⟩ = some (.slice (some ⟨g, o, none⟩) n cap)
  b2 : Stc W B2 26 [.nilIface]
  p : Stc W pb 44 [.slice (some ⟨wg, wo, none⟩) n cap0, .int .i64 a, .int .i64 c]
  il : ∀ i, i < n → W.cell? ⟨g, o + i, none⟩ = some (.int .i64 (gI L i))
  iw : ∀ i, i < n → W.cell? ⟨wg, wo + i, none⟩ = some (.int .i64 (gI Wt i))
theorem OnM.below {w1 W W' : World} {pb B0 B1 B2 n cap cap0 g o wg wo a c : Nat} {L Wt : List Int} (h : OnM w1 W pb B0 B1 B2 n cap cap0 g o wg wo a c L Wt) (hb : Below W.heap.size W W') : OnM w1 W' pb B0 B1 B2 n cap cap0 g o wg wo a c L Wt := by
  have hc : ∀ {p : Addr} {v : Value}, W.cell? p = some v → W'.cell? p = some v := fun {p v} e => (hb.cell (World.block_lt_of_cell? W _ e)).trans e
  exact ⟨hc h.b0, hc h.b1, h.b2.below hb, h.p.below hb, fun i hi => hc (h.il i hi), fun i hi => hc (h.iw i hi)⟩
set_option maxRecDepth 100000 in
set_option maxHeartbeats 4000000 in
theorem goOn_any (pb cap cap0 a c n g o : Nat) (wa : Option Addr) (W L : List Int) (w : World) (hn : W.length = n) (hL : L.length = n) (h : PK 44 w pb wa cap0 W a c) (hNN : NonN L) (h1 : IL w (some ⟨g, o, none⟩) L) :
    Calls Tryd.prog 14 #[.pointer (some ⟨pb, 0, none⟩), .slice (some ⟨g, o, none⟩) n cap] w fun e w' =>
      (NoneW L ∧ e = .returned (.iface 29 (.int .i64 4)) ∧ Below w.heap.size w w') ∨
      (∃ q c' : Nat, IsOn n L a q ∧ (c' : Int) = gI W q ∧ e = .returned .nilIface ∧ PK 44 w' pb wa cap0 W q c' ∧ Keep (fun b => b = pb) w w') := by
  have hg := h.good
  have hn0 : 0 < n := by have := hg.1; omega
  have h8 : n ≤ 8 := by have := hg.2.1; omega
  have ha : a < n := by have := h.lt; omega
  obtain ⟨wg, wo, rfl, hw⟩ := h.il.some_of (i := 0) (by omega)
  have hlt : pb < w.heap.size := heap_lt h.st
  refine (callsIn_wide (n := 9)).1 ?_
  refine callsIn_of_wp_marks Tryd.func14 rfl trivial ?_ rfl
  simp only [Tryd.ntmps14, List.size_toArray, List.length_cons, List.length_nil, Nat.reduceAdd, Nat.reduceSub, Array.replicate_succ, Array.replicate_zero, List.push_toArray, List.append_toArray, List.nil_append, List.cons_append]
  obtain ⟨w0, hw0⟩ : ∃ w0, ((w.alloc (.cells #[.pointer (some ⟨pb, 0, none⟩)] 24)).alloc (.cells #[.slice (some ⟨g, o, none⟩) n cap] 22)).alloc (.cells #[.nilIface] 26) = w0 := ⟨_, rfl⟩
  have hb0 : Below w.heap.size w w0 := by rw [← hw0]; exact (((Below.refl _ _).alloc (Nat.le_refl _) _).alloc (by simp) _).alloc (by simp; omega) _
  have hs0 : w0.heap.size = w.heap.size + 3 := by rw [← hw0]; simp
  have HO := onward_any pb cap0 a c n (some ⟨wg, wo, none⟩) W w0 hn (h.below hb0)
  have M0 : OnM w0 w0 pb w.heap.size (w.heap.size + 1) (w.heap.size + 2) n cap cap0 g o wg wo a c L W := by
    have hc : ∀ {p : Addr} {v : Value}, w.cell? p = some v → w0.cell? p = some v := fun {p v} e => (hb0.cell (World.block_lt_of_cell? w _ e)).trans e
    refine ⟨?_, ?_, ?_, by rw [← hn]; exact h.st.below hb0, fun i hi => ?_, fun i hi => hc (hw i (by omega))⟩
    · rw [← hw0, World.cell?_alloc_lt _ _ _ (by simp; omega), World.cell?_alloc_lt _ _ _ (by simp)]; simp
    · rw [← hw0, World.cell?_alloc_lt _ _ _ (by simp)]
      have := cell_new_l (w.alloc (.cells #[.pointer (some ⟨pb, 0, none⟩)] 24)) (.slice (some ⟨g, o, none⟩) n cap) 22
      rwa [World.size_alloc] at this
    · have := stc_new ((w.alloc (.cells #[.pointer (some ⟨pb, 0, none⟩)] 24)).alloc (.cells #[.slice (some ⟨g, o, none⟩) n cap] 22)) 26 [.nilIface] _ rfl
      rw [hw0] at this
      simpa using this
    · obtain ⟨g', o', e, hc'⟩ := h1.some_of (i := i) (by omega)
      cases e
      exact hc (hc' i (by omega))
  have c00 := M0.b0
  gi_wp2_with (refine ⟨trivial, ?_⟩; gi_at_call 17; refine (callsIn_wide.2 HO).mono ?_; rintro e w1 ⟨ab, fb, rfl, hA, hF, hb1⟩)
  have hlw0 : w0.heap.size ≤ w1.heap.size := hb1.size
  have hbw : Below w.heap.size w w1 := hb0.trans (hb1.mono (by omega))
  have M1 := M0.below hb1
  have hpb1 : pb < w1.heap.size := by omega
  have habl : ab < w1.heap.size := World.block_lt_of_cell? w1 _ hA
  have hfbl : fb < w1.heap.size := World.block_lt_of_cell? w1 _ hF
  have HM : Hid (∀ W', Below w1.heap.size w1 W' → OnM w0 W' pb w.heap.size (w.heap.size + 1) (w.heap.size + 2) n cap cap0 g o wg wo a c L W) := fun W' hb => M1.below hb
  have HW : Hid (∀ i, i < n → 1 ≤ gI W i ∧ gI W i ≤ 16) := fun i hi => hg.2.2 i (by omega)
  clear M0 c00 HO M1
  refine wpIn_rangeFunc_ownF (α := Fin n) rfl (by omega) (gf := 22) (lb := #[.pointer (some ⟨ab, 0, none⟩), .pointer (some ⟨fb, 0, none⟩)]) rfl trivial (enters_of Tryd.func22 (by kernel_rfl) rfl)
    (on_stops _ n a ab fb w1.heap.size hn0 h8 ha w1 (Nat.le_refl _) habl hfbl hA hF) belowK_t (belowK_b (Nat.le_refl _)) (Below.refl _ _) (fun _ => rfl)
    (fun pre W' => (∀ y ∈ pre, gI L y.val = 0) ∧ Below w1.heap.size w1 W')
    (fun cd pre W' => (cd = .ret ∧ ∃ pre0 x, pre = pre0 ++ [x] ∧ (∀ y ∈ pre0, gI L y.val = 0) ∧ 0 < gI L x.val ∧ Stc W' pb 44 [.slice (some ⟨wg, wo, none⟩) n cap0, .int .i64 ((x.val : Nat) : Int), .int .i64 (gI W x.val)] ∧ Stc W' (w.heap.size + 2) 26 [.nilIface]) ∧ Keep (fun b => b = pb ∨ b = w.heap.size + 2) w1 W')
    ?hI ?hIx ?h0
    (fun x => { tmps := #[.pointer (some ⟨pb, 0, none⟩), .slice (some ⟨g, o, none⟩) n cap, .pointer (some ⟨w.heap.size, 0, none⟩), .pointer (some ⟨w.heap.size + 1, 0, none⟩), .pointer (some ⟨w.heap.size + 2, 0, none⟩), .int .i64 ((x.val : Nat) : Int), .pointer (some ⟨pb, 0, none⟩), .func (.func 22) #[] #[.pointer (some ⟨ab, 0, none⟩), .pointer (some ⟨fb, 0, none⟩)], .int .i64 ((x.val : Nat) : Int), undef, undef, undef, undef, undef, undef, undef, undef, undef, undef, undef, undef, undef, undef, undef, undef, undef, undef, undef, undef], defers := [] }) ?assign ?body ?done ?stop
  case hI => exact OwnFrom.and (fun s A B row hs hg hr => hs) (ownFrom_below (Nat.le_refl _) (Nat.le_refl _))
  case hIx =>
    intro cd s A B row hs hg hr
    obtain ⟨⟨h2, pre0, x, h3, h4, h5, h6, h7⟩, h8⟩ := hs
    exact ⟨⟨h2, pre0, x, h3, h4, h5, ownFrom_stc (β := Unit) (w₀ := w1) (l := fun _ => _) hpb1 () A B row h6 hg hr, ownFrom_stc (β := Unit) (w₀ := w1) (l := fun _ => _) (by omega) () A B row h7 hg hr⟩, ownFrom_keep (β := Unit) () A B row h8 hg hr⟩
  case h0 => exact ⟨by simp, Below.refl _ _⟩
  case assign =>
    intro l x W' K hK
    simp only [encN]
    gi_wp2
    exact hK
  case body =>
    rintro l pre x W' ⟨hp, hB⟩ _
    have M := HM.out W' hB
    obtain ⟨b0, b1, b2, pp, il, iw⟩ := M
    have ix := il x.val x.isLt
    have iwx := iw x.val x.isLt
    have hx := x.isLt
    obtain ⟨X, hX⟩ : ∃ X, x.val = X := ⟨_, rfl⟩
    rw [hX] at ix iwx hx
    obtain ⟨V, hV⟩ : ∃ V, gI L X = V := ⟨_, rfl⟩
    obtain ⟨Cr, hCr⟩ : ∃ Cr, gI W X = Cr := ⟨_, rfl⟩
    rw [hV] at ix
    rw [hCr] at iwx
    have p0 := pp.cell 0
    have p1 := pp.cell 1
    have p2 := pp.cell 2
    have r2 := b2.cell 0
    simp only [List.getElem?_cons_zero, List.getElem?_cons_succ] at p0 p1 p2 r2
    have f1 := pp.free 1
    have f2 := pp.free 2
    have f3 := b2.free 0
    have hne : ¬ pb = w.heap.size + 2 := by omega
    have hwp : ¬ wg = pb := fun e => h.ab wg ⟨_, rfl, rfl⟩ (by rw [e]; exact hlt) e
    have hV0 : 0 ≤ V := by rw [← hV]; exact hNN X (by omega)
    have HP : Hid (Stc W' pb 44 [.slice (some ⟨wg, wo, none⟩) n cap0, .int .i64 a, .int .i64 c] ∧ Stc W' (w.heap.size + 2) 26 [.nilIface] ∧ Below w1.heap.size w1 W') := ⟨pp, b2, hB⟩
    by_cases hpos : 0 < V
    · rw [hX]
      clear pp b2 hB il iw HM HW
      gi_wp2
      refine region_round (S := fun wz => wz.cell? ⟨w.heap.size, 0, none⟩ = some (.pointer (some ⟨pb, 0, none⟩)) ∧ wz.cell? ⟨pb, 0, none⟩ = some (.slice (some ⟨wg, wo, none⟩) n cap0) ∧ wz.cell? ⟨wg, wo + X, none⟩ = some (.int .i64 Cr)) (by kernel_rfl) (noDefers (by rfl)) (by rintro ⟨_, _, hq⟩; exact hq) ⟨b0, p0, iwx⟩ ?_
      intro hS
      have hS1 : (W'.drew.setCell ⟨pb, 1, none⟩ (.int .i64 (X : Int))).cell? ⟨w.heap.size, 0, none⟩ = some (.pointer (some ⟨pb, 0, none⟩)) ∧ (W'.drew.setCell ⟨pb, 1, none⟩ (.int .i64 (X : Int))).cell? ⟨pb, 0, none⟩ = some (.slice (some ⟨wg, wo, none⟩) n cap0) ∧ (W'.drew.setCell ⟨pb, 1, none⟩ (.int .i64 (X : Int))).cell? ⟨wg, wo + X, none⟩ = some (.int .i64 Cr) :=
        ⟨(far _ (by omega)).trans hS.1, (far _ (by omega)).trans hS.2.1, (far _ (by omega)).trans hS.2.2⟩
      have hS2 : ((W'.drew.setCell ⟨pb, 1, none⟩ (.int .i64 (X : Int))).setCell ⟨pb, 2, none⟩ (.int .i64 Cr)).cell? ⟨w.heap.size, 0, none⟩ = some (.pointer (some ⟨pb, 0, none⟩)) ∧ ((W'.drew.setCell ⟨pb, 1, none⟩ (.int .i64 (X : Int))).setCell ⟨pb, 2, none⟩ (.int .i64 Cr)).cell? ⟨pb, 0, none⟩ = some (.slice (some ⟨wg, wo, none⟩) n cap0) ∧ ((W'.drew.setCell ⟨pb, 1, none⟩ (.int .i64 (X : Int))).setCell ⟨pb, 2, none⟩ (.int .i64 Cr)).cell? ⟨wg, wo + X, none⟩ = some (.int .i64 Cr) :=
        ⟨(far _ (by omega)).trans hS1.1, (far _ (by omega)).trans hS1.2.1, (far _ (by omega)).trans hS1.2.2⟩
--BODY
      refine takeH (i := 0) (d := 14) (v := .pointer (some ⟨pb, 0, none⟩)) (listed' := #[true, false, false, false, false, false, false, false, false, false, false, false, false, false, false, false]) hS rfl rfl rfl (by kernel_rfl) (by kernel_rfl) (by kernel_rfl) (fun _ _ _ h => h) rfl ?_ ?_
      · rintro wz ⟨z0, z1, z2⟩
        go_simp
      simp only [List.setIfInBounds_toArray, List.set_cons_zero, List.set_cons_succ]
      refine takeH (i := 1) (d := 15) (v := .pointer (some ⟨pb, 0, none⟩)) (listed' := #[true, true, false, false, false, false, false, false, false, false, false, false, false, false, false, false]) hS rfl rfl rfl (by kernel_rfl) (by kernel_rfl) (by kernel_rfl) (fun _ _ _ h => h) rfl ?_ ?_
      · rintro wz ⟨z0, z1, z2⟩
        go_simp
      simp only [List.setIfInBounds_toArray, List.set_cons_zero, List.set_cons_succ]
      refine takeH (i := 2) (d := 16) (v := .int .i64 (X : Int)) (listed' := #[true, true, true, false, false, false, false, false, false, false, false, false, false, false, false, false]) hS rfl rfl rfl (by kernel_rfl) (by kernel_rfl) (by kernel_rfl) (fun _ _ _ h => h) rfl ?_ ?_
      · rintro wz ⟨z0, z1, z2⟩
        go_simp
      simp only [List.setIfInBounds_toArray, List.set_cons_zero, List.set_cons_succ]
      refine takeH (i := 3) (d := 17) (v := .pointer (some ⟨pb, 0, none⟩)) (listed' := #[true, true, true, true, false, false, false, false, false, false, false, false, false, false, false, false]) hS rfl rfl rfl (by kernel_rfl) (by kernel_rfl) (by kernel_rfl) (fun _ _ _ h => h) rfl ?_ ?_
      · rintro wz ⟨z0, z1, z2⟩
        go_simp
      simp only [List.setIfInBounds_toArray, List.set_cons_zero, List.set_cons_succ]
      refine takeH (i := 4) (d := 18) (v := .pointer (some ⟨pb, 0, none⟩)) (listed' := #[true, true, true, true, true, false, false, false, false, false, false, false, false, false, false, false]) hS rfl rfl rfl (by kernel_rfl) (by kernel_rfl) (by kernel_rfl) (fun _ _ _ h => h) rfl ?_ ?_
      · rintro wz ⟨z0, z1, z2⟩
        go_simp
      simp only [List.setIfInBounds_toArray, List.set_cons_zero, List.set_cons_succ]
      refine takeH (i := 5) (d := 19) (v := .pointer (some ⟨pb, 0, none⟩)) (listed' := #[true, true, true, true, true, true, false, false, false, false, false, false, false, false, false, false]) hS rfl rfl rfl (by kernel_rfl) (by kernel_rfl) (by kernel_rfl) (fun _ _ _ h => h) rfl ?_ ?_
      · rintro wz ⟨z0, z1, z2⟩
        go_simp
      simp only [List.setIfInBounds_toArray, List.set_cons_zero, List.set_cons_succ]
      refine takeH (i := 6) (d := 20) (v := .slice (some ⟨wg, wo, none⟩) n cap0) (listed' := #[true, true, true, true, true, true, true, false, false, false, false, false, false, false, false, false]) hS rfl rfl rfl (by kernel_rfl) (by kernel_rfl) (by kernel_rfl) (fun _ _ _ h => h) rfl ?_ ?_
      · rintro wz ⟨z0, z1, z2⟩
        go_simp
      simp only [List.setIfInBounds_toArray, List.set_cons_zero, List.set_cons_succ]
      refine takeH (i := 7) (d := 21) (v := .int .i64 (X : Int)) (listed' := #[true, true, true, true, true, true, true, true, false, false, false, false, false, false, false, false]) hS rfl rfl rfl (by kernel_rfl) (by kernel_rfl) (by kernel_rfl) (fun _ _ _ h => h) rfl ?_ ?_
      · rintro wz ⟨z0, z1, z2⟩
        go_simp
      simp only [List.setIfInBounds_toArray, List.set_cons_zero, List.set_cons_succ]
      refine takeH (i := 8) (d := 22) (v := .pointer (some ⟨wg, wo + X, none⟩)) (listed' := #[true, true, true, true, true, true, true, true, true, false, false, false, false, false, false, false]) hS rfl rfl rfl (by kernel_rfl) (by kernel_rfl) (by kernel_rfl) (fun _ _ _ h => h) rfl ?_ ?_
      · rintro wz ⟨z0, z1, z2⟩
        go_simp
      simp only [List.setIfInBounds_toArray, List.set_cons_zero, List.set_cons_succ]
      refine takeH (i := 9) (d := 23) (v := .int .i64 Cr) (listed' := #[true, true, true, true, true, true, true, true, true, true, false, false, false, false, false, false]) hS rfl rfl rfl (by kernel_rfl) (by kernel_rfl) (by kernel_rfl) (fun _ _ _ h => h) rfl ?_ ?_
      · rintro wz ⟨z0, z1, z2⟩
        go_simp
      simp only [List.setIfInBounds_toArray, List.set_cons_zero, List.set_cons_succ]
      refine takeH (i := 10) (d := 24) (v := .pointer (some ⟨pb, 0, none⟩)) (listed' := #[true, true, true, true, true, true, true, true, true, true, true, false, false, false, false, false]) hS rfl rfl rfl (by kernel_rfl) (by kernel_rfl) (by kernel_rfl) (fun _ _ _ h => h) rfl ?_ ?_
      · rintro wz ⟨z0, z1, z2⟩
        go_simp
      simp only [List.setIfInBounds_toArray, List.set_cons_zero, List.set_cons_succ]
      refine takeH (i := 11) (d := 25) (v := .pointer (some ⟨pb, 1, none⟩)) (listed' := #[true, true, true, true, true, true, true, true, true, true, true, true, false, false, false, false]) hS rfl rfl rfl (by kernel_rfl) (by kernel_rfl) (by kernel_rfl) (fun _ _ _ h => h) rfl ?_ ?_
      · rintro wz ⟨z0, z1, z2⟩
        go_simp
      simp only [List.setIfInBounds_toArray, List.set_cons_zero, List.set_cons_succ]
      refine storeH (i := 12) (w' := (W'.drew.setCell ⟨pb, 1, none⟩ (.int .i64 (X : Int)))) (x := .skip) (listed' := #[true, true, true, true, true, true, true, true, true, true, true, true, true, false, false, false]) rfl rfl rfl (by kernel_rfl) rfl ?_ (Or.inl rfl) hS1 ?_
      · go_simp
      refine takeH (i := 13) (d := 26) (v := .pointer (some ⟨pb, 0, none⟩)) (listed' := #[true, true, true, true, true, true, true, true, true, true, true, true, true, true, false, false]) hS1 rfl rfl rfl (by kernel_rfl) (by kernel_rfl) (by kernel_rfl) (fun _ _ _ h => h) rfl ?_ ?_
      · rintro wz ⟨z0, z1, z2⟩
        go_simp
      simp only [List.setIfInBounds_toArray, List.set_cons_zero, List.set_cons_succ]
      refine takeH (i := 14) (d := 27) (v := .pointer (some ⟨pb, 2, none⟩)) (listed' := #[true, true, true, true, true, true, true, true, true, true, true, true, true, true, true, false]) hS1 rfl rfl rfl (by kernel_rfl) (by kernel_rfl) (by kernel_rfl) (fun _ _ _ h => h) rfl ?_ ?_
      · rintro wz ⟨z0, z1, z2⟩
        go_simp
      simp only [List.setIfInBounds_toArray, List.set_cons_zero, List.set_cons_succ]
      refine storeH (i := 15) (w' := ((W'.drew.setCell ⟨pb, 1, none⟩ (.int .i64 (X : Int))).setCell ⟨pb, 2, none⟩ (.int .i64 Cr))) (x := .skip) (listed' := #[true, true, true, true, true, true, true, true, true, true, true, true, true, true, true, true]) rfl rfl rfl (by kernel_rfl) rfl ?_ (Or.inl rfl) hS2 ?_
      · go_simp
      refine wpAnyH_done (by kernel_rfl) ?_ _
--YDOB
      clear hS hS1 hS2 b0 b1 p0 p1 p2 f1 f2
      have r3 : ((W'.drew.setCell ⟨pb, 1, none⟩ (.int .i64 (X : Int))).setCell ⟨pb, 2, none⟩ (.int .i64 Cr)).cell? ⟨w.heap.size + 2, 0, none⟩ = some .nilIface := (far _ (by omega)).trans ((far _ (by omega)).trans r2)
      have f4 : ((W'.drew.setCell ⟨pb, 1, none⟩ (.int .i64 (X : Int))).setCell ⟨pb, 2, none⟩ (.int .i64 Cr)).frozen? ⟨w.heap.size + 2, 0, none⟩ = false := by rw [World.frozen?_setCell, World.frozen?_setCell]; exact f3
      have HE : Hid (KeepsOthers W' ((((W'.drew.setCell ⟨pb, 1, none⟩ (.int .i64 (X : Int))).setCell ⟨pb, 2, none⟩ (.int .i64 Cr))).setCell ⟨w.heap.size + 2, 0, none⟩ .nilIface) ∧ Stc ((((W'.drew.setCell ⟨pb, 1, none⟩ (.int .i64 (X : Int))).setCell ⟨pb, 2, none⟩ (.int .i64 Cr))).setCell ⟨w.heap.size + 2, 0, none⟩ .nilIface) pb 44 [.slice (some ⟨wg, wo, none⟩) n cap0, .int .i64 ((X : Nat) : Int), .int .i64 Cr] ∧ Stc ((((W'.drew.setCell ⟨pb, 1, none⟩ (.int .i64 (X : Int))).setCell ⟨pb, 2, none⟩ (.int .i64 Cr))).setCell ⟨w.heap.size + 2, 0, none⟩ .nilIface) (w.heap.size + 2) 26 [.nilIface] ∧ Keep (fun b => b = pb ∨ b = w.heap.size + 2) w1 ((((W'.drew.setCell ⟨pb, 1, none⟩ (.int .i64 (X : Int))).setCell ⟨pb, 2, none⟩ (.int .i64 Cr))).setCell ⟨w.heap.size + 2, 0, none⟩ .nilIface)) := by
        obtain ⟨q1, q2, q3⟩ := HP.out
        refine ⟨((KeepsOthers.drew W').trans (KeepsOthers.setCell _ _ _)).trans ((KeepsOthers.setCell _ _ _).trans (KeepsOthers.setCell _ _ _)), ?_, ?_, ?_⟩
        · have e := ((q1.drew.set 1 (.int .i64 (X : Int))).set 2 (.int .i64 Cr)).set_other (g' := w.heap.size + 2) (by omega) 0 .nilIface
          exact e
        · have e := (((Stc.drew q2).set_other (g' := pb) hne 1 (.int .i64 (X : Int))).set_other (g' := pb) hne 2 (.int .i64 Cr)).set 0 .nilIface
          exact e
        · have k0 : Keep (fun b => b = pb ∨ b = w.heap.size + 2) w1 W' := Keep.of_below q3
          exact (((k0.drew.set (p := ⟨pb, 1, none⟩) (Or.inl rfl) _).set (p := ⟨pb, 2, none⟩) (Or.inl rfl) _).set (p := ⟨w.heap.size + 2, 0, none⟩) (Or.inr rfl) _)
      clear HP r2 f3
      generalize ((W'.drew.setCell ⟨pb, 1, none⟩ (.int .i64 (X : Int))).setCell ⟨pb, 2, none⟩ (.int .i64 Cr)) = W2 at *
      gi_wp2
      obtain ⟨q1, q2, q3, q4⟩ := HE.out
      exact ⟨q1, ⟨rfl, pre, x, rfl, hp, by rw [hX, hV]; exact hpos, by rw [hX, hCr]; exact q2, q3⟩, q4⟩
    · have hv0 : V = 0 := by omega
      subst hv0
      rw [hX]
      clear hpos p0 p1 p2 r2 f1 f2 f3 pp b2 il iw HM HW
      gi_wp2
      refine ⟨KeepsOthers.refl _, Below.refl _ _, fun y hy => ?_, hB⟩
      rcases List.mem_append.1 hy with e | e
      · exact hp y e
      · obtain rfl := List.mem_singleton.1 e
        rw [hX]; exact hV
  case done =>
    rintro D ys W' hD rfl ⟨hz, hB⟩ hK
    have M := HM.out W' hB
    have r2 : W'.cell? ⟨w.heap.size + 1 + 1, 0, none⟩ = some .nilIface := M.b2.cell 0
    have f2 : W'.frozen? ⟨w.heap.size + 1 + 1, 0, none⟩ = false := M.b2.free 0
    have HN : Hid (NoneW L) := none_of_upto hL ha hz
    have HB2 : Hid (Below w.heap.size w W') := hbw.trans (hB.mono (by omega))
    clear hz M HM HW
    gi_wp2
    have hK' := (KeepsOthers.setCell W' ⟨w.heap.size + 1 + 1, 0, none⟩ (.iface 29 (.int .i64 4))).same D _ hK rfl
    refine ⟨by simp, .inl ⟨_, _, rfl, run_takeDeferred hK', ?_⟩⟩
    have hc5 := cell_kept (World.cell?_setCell_same' W' ⟨w.heap.size + 1 + 1, 0, none⟩ (.iface 29 (.int .i64 4)) (by rw [r2]; rfl)) (grownBy_putObj' _ D (.deferred none)) (fun r e => by cases e; exact ⟨_, hK', rfl⟩)
    refine ⟨.iface 29 (.int .i64 4), ?_, Or.inl ⟨HN.out, rfl, (HB2.out.setCell (p := ⟨w.heap.size + 1 + 1, 0, none⟩) (by simp; omega) _).trans (belowK_b (w := w1) (by omega) _ D _ _ hD hK' rfl rfl)⟩⟩
    simp [results, Tryd.f14, go_sem, hc5]
  case stop =>
    rintro D cd pre W' hD hpre ⟨⟨rfl, pre0, x, rfl, hz, hx, s1, s2⟩, hKp⟩ hK
    have s1' := (ownFrom_stc (β := Unit) (w₀ := w1) (l := fun _ => _) hpb1).putObj (s := ()) (.deferred none) s1 hD hK rfl
    have s2' := (ownFrom_stc (β := Unit) (w₀ := w1) (l := fun _ => _) (by omega)).putObj (s := ()) (.deferred none) s2 hD hK rfl
    have k1 := (ownFrom_keep (β := Unit) (w₀ := w1)).putObj (s := ()) (.deferred none) hKp hD hK rfl
    have k2 : Keep (fun b => b = pb) w (W'.putObj D (.deferred none)) := (Keep.of_below hbw).thru k1 (fun i hi e => by omega)
    have hq := HW.out x.val x.isLt
    obtain ⟨C, hC⟩ : ∃ C : Nat, gI W x.val = (C : Int) := ⟨(gI W x.val).toNat, by omega⟩
    have hPK : PK 44 (W'.putObj D (.deferred none)) pb (some ⟨wg, wo, none⟩) cap0 W x.val C := by
      refine ⟨by rw [hn, ← hC]; exact s1', h.il.keep k2 (fun b hb hlt e => h.ab b hb hlt e), fun b hb _ e => h.ab b hb (by rw [e]; exact hlt) e, by have := x.isLt; omega, hg, by omega⟩
    have hon := on_of_pre hpre hz hx
    have hc5 : (W'.putObj D (.deferred none)).cell? ⟨w.heap.size + 1 + 1, 0, none⟩ = some .nilIface := s2'.cell 0
    clear HM HW s1 s2 hKp
    gi_wp2
    refine ⟨by simp, .inl ⟨_, _, rfl, run_takeDeferred hK, ?_⟩⟩
    refine ⟨.nilIface, ?_, Or.inr ⟨x.val, C, hon, hC.symm, rfl, hPK, k2⟩⟩
    simp [results, Tryd.f14, go_sem, hc5]
end Go.Proofs.YthkcgbbfnbnheaaDoor

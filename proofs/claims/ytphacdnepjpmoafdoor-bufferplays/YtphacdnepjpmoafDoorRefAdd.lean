/-
  What the call of the document's Add gives.
-/
import Derived.Test.YtphacdnepjpmoafDoorRef
namespace Go.Proofs.YtphacdnepjpmoafDoor
open Go.RowKit
set_option linter.unusedVariables false

/-- All but those of an lba, of the first i. -/
def fil (M : List RN) (l : Int) (i : Nat) : List RN := (M.take i).filter (fun x => decide (x.it.lba ≠ l))
theorem fil_len (M : List RN) (l : Int) (i : Nat) : (fil M l i).length ≤ i := by
  unfold fil
  have := List.length_filter_le (fun x : RN => decide (x.it.lba ≠ l)) (M.take i)
  rw [List.length_take] at this
  omega
theorem fil_yes {M : List RN} {l : Int} {i : Nat} (hi : i < M.length) (h : lbaR M i = l) : fil M l (i + 1) = fil M l i := by
  unfold fil
  rw [List.take_succ_eq_append_getElem hi, List.filter_append, List.filter_cons_of_neg, List.filter_nil, List.append_nil]
  unfold lbaR at h
  rw [List.getElem?_eq_getElem hi] at h
  simpa using h
theorem fil_no {M : List RN} {l : Int} {i : Nat} (hi : i < M.length) (h : lbaR M i ≠ l) : fil M l (i + 1) = fil M l i ++ [M[i]?.getD rn0] := by
  unfold fil
  rw [List.take_succ_eq_append_getElem hi, List.filter_append, List.filter_cons_of_pos, List.filter_nil, List.getElem?_eq_getElem hi]
  · rfl
  · unfold lbaR at h
    rw [List.getElem?_eq_getElem hi] at h
    simpa using h
theorem fil_it (M : List RN) (l : Int) : (fil M l M.length).map (·.it) = drp (M.map (·.it)) l := by
  unfold fil drp
  rw [List.take_length, List.filter_map]
  rfl
/-- What Add gives. -/
def AddPost (w w' : World) (e : Ending) (rb most : Nat) (M : List RN) (x : RN) : Prop :=
  e = .returned (.int .i64 (putE most (M.map (·.it)) x.it.lba : Nat)) ∧ Keep (fun b => b = rb) w w' ∧ ∃ ia icap M', RF w' rb most ia icap M' ∧ M'.map (·.it) = putL most (M.map (·.it)) x.it ∧ ∀ y ∈ M', y ∈ M ∨ y = x
/-- Between two rounds. -/
structure AL (w wr : World) (M : List RN) (x : RN) (i : Nat) (a : Option Addr) (cap : Nat) : Prop where
  own : OwnR 71 wr (w.heap.size + 1) a cap (fil M x.it.lba i)
  bel : Below w.heap.size w wr
  box : wr.heap[w.heap.size]? = some (.cells #[.int .i64 x.it.lba, .bool x.it.gone, .slice x.a x.it.data.length x.cap] 71)
theorem AL.app {w wr w' : World} {M : List RN} {x : RN} {i j : Nat} {a a1 : Option Addr} {cap cap1 : Nat} (h : AL w wr M x i a cap) (ho : OwnR 71 w' (w.heap.size + 1) a1 cap1 (fil M x.it.lba j)) (hk : Keep (blk a) wr w') : AL w w' M x j a1 cap1 :=
  ⟨ho, h.bel.trans (hk.below h.bel.size (fun b hb => by have := (h.own.ty hb).1; omega)), (hk.block _ (heap_lt h.box) (fun hb => by have := (h.own.ty hb).1; omega)).trans h.box⟩
theorem AL.lt {w wr : World} {M : List RN} {x : RN} {i : Nat} {a : Option Addr} {cap : Nat} (h : AL w wr M x i a cap) : w.heap.size + 1 ≤ wr.heap.size := heap_lt h.box
theorem RF.fin {w w2 : World} {rb most icap : Nat} {ia a a1 : Option Addr} {cap cap1 : Nat} {M : List RN} {x : RN} (h : RF w rb most ia icap M) (h0 : putE most (M.map (·.it)) x.it.lba = 0) (wr : World) (hA : AL w wr M x M.length a cap) (ho : OwnR 71 w2 (w.heap.size + 1) a1 cap1 (fil M x.it.lba M.length ++ [x])) (hk : Keep (blk a) wr w2) :
    (∃ u, w2.cell? ⟨rb, 1, none⟩ = some u) ∧ w2.frozen? ⟨rb, 1, none⟩ = false ∧ AddPost w (w2.setCell ⟨rb, 1, none⟩ (.slice a1 ((fil M x.it.lba M.length).length + 1) cap1)) (.returned (.int .i64 0)) rb most M x := by
  have hlt := heap_lt h.bk
  have hb2 : Below w.heap.size w w2 := hA.bel.trans (hk.below hA.bel.size (fun b hb => by have := (hA.own.ty hb).1; omega))
  have h2 := h.below hb2
  have hne : ∀ b, blk a1 b → b ≠ rb := fun b hb => by have := (ho.ty hb).1; omega
  have hks : Keep (fun b => b = rb) w2 (w2.setCell ⟨rb, 1, none⟩ (.slice a1 ((fil M x.it.lba M.length).length + 1) cap1)) := (Keep.refl _ _).set1 _ _
  have ho3 := ho.keep hks hne
  have hlen : (fil M x.it.lba M.length ++ [x]).length = (fil M x.it.lba M.length).length + 1 := by rw [List.length_append, List.length_singleton]
  refine ⟨⟨_, h2.c1⟩, row_free h2.bk 1, by rw [h0]; rfl, (Keep.of_below hb2).thru hks (fun i _ e => e), a1, cap1, fil M x.it.lba M.length ++ [x], ⟨?_, ho3.at, ?_, ?_⟩, ?_, ?_⟩
  · rw [set_blk h2.bk, hlen]; rfl
  · rcases ho3.parts with ⟨_, _, e⟩ | ⟨g, cur, _, _, _, e, _⟩
    · exact absurd e (by simp)
    · exact e
  · rcases ho3.parts with ⟨_, _, e⟩ | ⟨g, cur, _, _, _, _, e, _⟩
    · exact absurd e (by simp)
    · unfold maxLen at e; omega
  · unfold putL
    rw [h0, if_pos rfl, List.map_append, fil_it]
    rfl
  · intro y hy
    rw [List.mem_append] at hy
    rcases hy with hy | hy
    · unfold fil at hy
      exact Or.inl (List.mem_of_mem_take (List.mem_filter.1 hy).1)
    · simp at hy; exact Or.inr hy
set_option maxRecDepth 20000 in
set_option maxHeartbeats 1600000 in
theorem radd_low (w : World) (rb : Nat) (l : Int) (gn : Bool) (sa : Option Addr) (sn sc : Nat) (h : l < 0) :
    Calls Tryd.prog 24 #[.pointer (some ⟨rb, 0, none⟩), .agg #[.int .i64 l, .bool gn, .slice sa sn sc]] w fun e w' => e = .returned (.int .i64 1) ∧ Below w.heap.size w w' := by
  have HB : Hid (Below w.heap.size w (w.alloc (.cells #[.int .i64 l, .bool gn, .slice sa sn sc] 71))) := alloc_below' w _
  go_enter Tryd.func24, Tryd.ntmps24
  go_wp2
  go_ret
  exact ⟨rfl, HB.out⟩
set_option maxRecDepth 20000 in
set_option maxHeartbeats 1600000 in
theorem radd_any {w : World} {rb most icap : Nat} {ia : Option Addr} {M : List RN} (h : RF w rb most ia icap M) (hOk : Ok most (M.map (·.it))) (hm : most ≤ 16) (x : RN) (hl : 0 ≤ x.it.lba) :
    Calls Tryd.prog 24 #[.pointer (some ⟨rb, 0, none⟩), .agg #[.int .i64 x.it.lba, .bool x.it.gone, .slice x.a x.it.data.length x.cap]] w fun e w' => AddPost w w' e rb most M x := by
  have hbl := alloc_below' w (.cells #[.int .i64 x.it.lba, .bool x.it.gone, .slice x.a x.it.data.length x.cap] 71)
  have HF : Hid (∀ wr, Below w.heap.size w wr → RF wr rb most ia icap M) := fun wr hb => h.below hb
  have HFi : Hid (Calls Tryd.prog 25 #[.pointer (some ⟨rb, 0, none⟩), .int .i64 x.it.lba] (w.alloc (.cells #[.int .i64 x.it.lba, .bool x.it.gone, .slice x.a x.it.data.length x.cap] 71)) fun e w' => (∃ z, e = .returned (.int .i64 z) ∧ Hid (Idx M x.it.lba z)) ∧ Hid (Below w.heap.size w w' ∧ w'.heap[w.heap.size]? = some (.cells #[.int .i64 x.it.lba, .bool x.it.gone, .slice x.a x.it.data.length x.cap] 71))) := (find_any (h.below hbl) x.it.lba).mono fun e w' ⟨h1, h2⟩ => ⟨h1, hbl.trans (h2.mono hbl.size), (h2.block _ (by simp)).trans (heap_alloc_new w _)⟩
  have HO : Hid (Ok most (M.map (·.it))) := hOk
  have hln : M.length ≤ most := by have := hOk.ln; rw [List.length_map] at this; exact this
  have HH : Hid (RF w rb most ia icap M) := h
  clear h hOk hbl
  go_enter Tryd.func24, Tryd.ntmps24
  go_wp2_with fail
  refine HFi.out.mono ?_
  rintro e w1 ⟨⟨z, rfl, hz⟩, hw1⟩
  clear HFi
  have hF1 := HF.out w1 hw1.out.1
  have c0 := hF1.c0
  have c1 := hF1.c1
  clear hF1
  have HI : Hid (∀ i, i < M.length → ((i : Int) = z ↔ lbaR M i = x.it.lba)) := fun i hi => hz.out.iff HO.out.nd i hi
  have HA0 : Hid (∀ q, AL w (w1.drewN q) M x 0 none 0) := fun q => by
    have hbq := below_drewN hw1.out.1 q
    exact ⟨OwnR.nil _ _ _, hbq, hw1.out.2⟩
  have HB1 : Hid (∀ q, Below w.heap.size w (w1.drewN q)) := fun q => below_drewN hw1.out.1 q
  have HZ := hz.out.fnd HO.out.nd
  have HHas : Hid (has (M.map (·.it)) x.it.lba = (YtphacdnepjpmoafDoor.fnd (M.map (·.it)) x.it.lba).isSome) := has_fnd _ _
  rcases HZ with ⟨hz1, hf⟩ | ⟨i0, hz1, hi0, hf⟩
  · have hh : has (M.map (·.it)) x.it.lba = false := by rw [HHas.out, hf]; rfl
    have hzn : z < 0 := by omega
    clear hz1
    by_cases hml : M.length = most
    · have HP : Hid (∀ q, AddPost w (w1.drewN q) (.returned (.int .i64 3)) rb most M x) := fun q => by
        have h0 : putE most (M.map (·.it)) x.it.lba = 3 := by
          rcases putE_cases most (M.map (·.it)) x.it.lba with ⟨e, _⟩ | ⟨_, _, _, e⟩ | ⟨_, _, e, _⟩ | ⟨_, e, _⟩
          · omega
          · exact e
          · rw [List.length_map] at e; exact absurd hml e
          · rw [hh] at e; cases e
        refine ⟨by rw [h0]; rfl, Keep.of_below (HB1.out q), ia, icap, M, HF.out _ (HB1.out q), ?_, fun y hy => Or.inl hy⟩
        unfold putL
        rw [h0]
        rfl
      have t1 : ((M.length : Nat) : Int) ≥ (most : Int) := by omega
      clear HA0 HI HHas hf hh hz HO hml HH hw1
      go_wp2
      go_quiet (fail)
      go_wp2
      go_ret
      exact HP.out _
    · have H0 : Hid (putE most (M.map (·.it)) x.it.lba = 0) := by
        rcases putE_cases most (M.map (·.it)) x.it.lba with ⟨e, _⟩ | ⟨_, _, e, _⟩ | ⟨_, _, _, e⟩ | ⟨_, e, _⟩
        · omega
        · rw [List.length_map] at e; exact absurd e hml
        · exact e
        · rw [hh] at e; cases e
      have t1 : decide (most ≤ M.length) = false := decide_eq_false (by omega)
      have t2 : ¬ most ≤ M.length := by omega
      clear HHas hf hh hz HO hml hw1
      go_wp2
      go_quiet (fail)
      go_wp2
      go_loopw [6, 7] (fun v j wr => ∃ (i : Nat) (a : Option Addr) (cap : Nat), i ≤ M.length ∧ j = .int .i64 i ∧ v = .slice a (fil M x.it.lba i).length cap ∧ Hid (AL w wr M x i a cap)) (fun _ j _ => M.length - (intOf j).toNat)
      case atStart => exact ⟨0, none, 0, Nat.zero_le _, rfl, rfl, HA0.out _⟩
      case round =>
        obtain ⟨i, a, cap, hi, rfl, rfl, hA⟩ := hrel
        clear HA0
        have hF1 := HF.out wr hA.out.bel
        have c1 := hF1.c1
        by_cases hlt : i < M.length
        · obtain ⟨g, off, ha, d0, d1, d2⟩ := hF1.row.at hlt
          subst ha
          clear hF1
          by_cases hX : lbaR M i = x.it.lba
          · have t1 : ((i : Int) != z) = false := by rw [bne_eq_false_iff_eq]; exact (HI.out i hlt).2 hX
            have HN : Hid (AL w wr M x (i + 1) a cap ∧ (fil M x.it.lba (i + 1)).length = (fil M x.it.lba i).length) := by
              have e := fil_yes hlt hX
              refine ⟨⟨by rw [e]; exact hA.out.own, hA.out.bel, hA.out.box⟩, by rw [e]⟩
            clear hA hX d0 d1 d2
            go_wp2
            exact ⟨⟨i + 1, a, cap, by omega, by go_num, by rw [HN.out.2], HN.out.1⟩, by simp [intOf]; omega⟩
          · have t1 : ((i : Int) != z) = true := by rw [bne_iff_ne]; exact fun e => hX ((HI.out i hlt).1 e)
            have HE := fil_no hlt hX
            have hfl := fil_len M x.it.lba i
            have Hlt : Hid (w.heap.size + 1 ≤ wr.heap.size) := hA.out.lt
            have HE2 : Hid (fil M x.it.lba (i + 1) = fil M x.it.lba i ++ [M[i]?.getD rn0]) := HE
            clear hX HE
            generalize hR : M[i]?.getD rn0 = R at *
            have hfe : Hid (∀ n, n = (fil M x.it.lba i).length → n ≤ 16) := fun n hn => by omega
            generalize hFF : fil M x.it.lba i = FF at *
            go_wp2_with (at_builtin; refine app_stepR 71 40 Tryd.underlying40 infoR rfl (.tmp 41) (.tmp 49) rfl wr (w.heap.size + 1) cap a FF R (by rfl) (by rfl) (by rw [← hFF]; exact hA.out.own) (by have := hfe.out _ rfl; omega) Hlt.out ?_)
            intro a1 cap1 w2 ho hk2
            have HN : Hid (AL w w2 M x (i + 1) a1 cap1) := hA.out.app (by rw [HE2.out]; exact ho) hk2
            have HL2 : Hid ((fil M x.it.lba (i + 1)).length = FF.length + 1) := by show _ = _; rw [HE2.out, List.length_append, List.length_singleton]
            clear ho hk2 hA HE2 hR hFF d0 d1 d2
            go_wp2
            go_roundw
            case rel => exact ⟨i + 1, a1, cap1, by omega, by go_num, by rw [HL2.out], HN⟩
            case measure => simp [intOf]; omega
        · obtain rfl : i = M.length := by omega
          have hb := hA.out.box
          have b0 : wr.cell? ⟨w.heap.size, 0, none⟩ = some (.int .i64 x.it.lba) := (ptr_at hb).trans rfl
          have b1 : wr.cell? ⟨w.heap.size, 1, none⟩ = some (.bool x.it.gone) := (ptr_at hb).trans rfl
          have b2 : wr.cell? ⟨w.heap.size, 2, none⟩ = some (.slice x.a x.it.data.length x.cap) := (ptr_at hb).trans rfl
          have hfl := fil_len M x.it.lba M.length
          have Hlt : Hid (w.heap.size + 1 ≤ wr.heap.size) := hA.out.lt
          clear hF1 hb
          have hfe : Hid (∀ n, n = (fil M x.it.lba M.length).length → n ≤ 16) := fun n hn => by omega
          have HFn : Hid (∀ w2 a1 cap1, OwnR 71 w2 (w.heap.size + 1) a1 cap1 (fil M x.it.lba M.length ++ [x]) → Keep (blk a) wr w2 → (∃ u, w2.cell? ⟨rb, 1, none⟩ = some u) ∧ w2.frozen? ⟨rb, 1, none⟩ = false ∧ AddPost w (w2.setCell ⟨rb, 1, none⟩ (.slice a1 ((fil M x.it.lba M.length).length + 1) cap1)) (.returned (.int .i64 0)) rb most M x) := fun w2 a1 cap1 ho hk => HH.out.fin H0.out wr hA.out ho hk
          have HOw : Hid (OwnR 71 wr (w.heap.size + 1) a cap (fil M x.it.lba M.length)) := hA.out.own
          clear hA
          generalize fil M x.it.lba M.length = FF at *
          go_wp2_with (at_builtin; refine app_stepR 71 40 Tryd.underlying40 infoR rfl (.tmp 52) (.tmp 54) rfl wr (w.heap.size + 1) cap a FF x (by rfl) (by rfl) HOw.out (by have := hfe.out _ rfl; omega) Hlt.out ?_)
          intro a1 cap1 w2 ho hk2
          obtain ⟨⟨u, hu⟩, hfz, hP⟩ := HFn.out w2 a1 cap1 ho hk2
          have HP : Hid (AddPost w (w2.setCell ⟨rb, 1, none⟩ (.slice a1 (FF.length + 1) cap1)) (.returned (.int .i64 0)) rb most M x) := hP
          clear ho hk2 HFn HOw hP b0 b1 b2
          go_wp2
          go_ret
          exact HP.out
  · have hh : has (M.map (·.it)) x.it.lba = true := by rw [HHas.out, hf]; rfl
    have H0 : Hid (putE most (M.map (·.it)) x.it.lba = 0) := by
      rcases putE_cases most (M.map (·.it)) x.it.lba with ⟨e, _⟩ | ⟨_, e, _⟩ | ⟨_, e, _⟩ | ⟨_, _, e⟩
      · omega
      · rw [hh] at e; cases e
      · rw [hh] at e; cases e
      · exact e
    have hzn : decide (z < 0) = false := decide_eq_false (by omega)
    clear HHas hf hh hz HO hw1 hz1
    go_wp2
    go_quiet (fail)
    go_wp2
    go_loopw [6, 7] (fun v j wr => ∃ (i : Nat) (a : Option Addr) (cap : Nat), i ≤ M.length ∧ j = .int .i64 i ∧ v = .slice a (fil M x.it.lba i).length cap ∧ Hid (AL w wr M x i a cap)) (fun _ j _ => M.length - (intOf j).toNat)
    case atStart => exact ⟨0, none, 0, Nat.zero_le _, rfl, rfl, HA0.out _⟩
    case round =>
      obtain ⟨i, a, cap, hi, rfl, rfl, hA⟩ := hrel
      clear HA0
      have hF1 := HF.out wr hA.out.bel
      have c1 := hF1.c1
      by_cases hlt : i < M.length
      · obtain ⟨g, off, ha, d0, d1, d2⟩ := hF1.row.at hlt
        subst ha
        clear hF1
        by_cases hX : lbaR M i = x.it.lba
        · have t1 : ((i : Int) != z) = false := by rw [bne_eq_false_iff_eq]; exact (HI.out i hlt).2 hX
          have HN : Hid (AL w wr M x (i + 1) a cap ∧ (fil M x.it.lba (i + 1)).length = (fil M x.it.lba i).length) := by
            have e := fil_yes hlt hX
            refine ⟨⟨by rw [e]; exact hA.out.own, hA.out.bel, hA.out.box⟩, by rw [e]⟩
          clear hA hX d0 d1 d2
          go_wp2
          exact ⟨⟨i + 1, a, cap, by omega, by go_num, by rw [HN.out.2], HN.out.1⟩, by simp [intOf]; omega⟩
        · have t1 : ((i : Int) != z) = true := by rw [bne_iff_ne]; exact fun e => hX ((HI.out i hlt).1 e)
          have HE := fil_no hlt hX
          have hfl := fil_len M x.it.lba i
          have Hlt : Hid (w.heap.size + 1 ≤ wr.heap.size) := hA.out.lt
          have HE2 : Hid (fil M x.it.lba (i + 1) = fil M x.it.lba i ++ [M[i]?.getD rn0]) := HE
          clear hX HE
          generalize hR : M[i]?.getD rn0 = R at *
          have hfe : Hid (∀ n, n = (fil M x.it.lba i).length → n ≤ 16) := fun n hn => by omega
          generalize hFF : fil M x.it.lba i = FF at *
          go_wp2_with (at_builtin; refine app_stepR 71 40 Tryd.underlying40 infoR rfl (.tmp 41) (.tmp 49) rfl wr (w.heap.size + 1) cap a FF R (by rfl) (by rfl) (by rw [← hFF]; exact hA.out.own) (by have := hfe.out _ rfl; omega) Hlt.out ?_)
          intro a1 cap1 w2 ho hk2
          have HN : Hid (AL w w2 M x (i + 1) a1 cap1) := hA.out.app (by rw [HE2.out]; exact ho) hk2
          have HL2 : Hid ((fil M x.it.lba (i + 1)).length = FF.length + 1) := by show _ = _; rw [HE2.out, List.length_append, List.length_singleton]
          clear ho hk2 hA HE2 hR hFF d0 d1 d2
          go_wp2
          go_roundw
          case rel => exact ⟨i + 1, a1, cap1, by omega, by go_num, by rw [HL2.out], HN⟩
          case measure => simp [intOf]; omega
      · obtain rfl : i = M.length := by omega
        have hb := hA.out.box
        have b0 : wr.cell? ⟨w.heap.size, 0, none⟩ = some (.int .i64 x.it.lba) := (ptr_at hb).trans rfl
        have b1 : wr.cell? ⟨w.heap.size, 1, none⟩ = some (.bool x.it.gone) := (ptr_at hb).trans rfl
        have b2 : wr.cell? ⟨w.heap.size, 2, none⟩ = some (.slice x.a x.it.data.length x.cap) := (ptr_at hb).trans rfl
        have hfl := fil_len M x.it.lba M.length
        have Hlt : Hid (w.heap.size + 1 ≤ wr.heap.size) := hA.out.lt
        clear hF1 hb
        have hfe : Hid (∀ n, n = (fil M x.it.lba M.length).length → n ≤ 16) := fun n hn => by omega
        have HFn : Hid (∀ w2 a1 cap1, OwnR 71 w2 (w.heap.size + 1) a1 cap1 (fil M x.it.lba M.length ++ [x]) → Keep (blk a) wr w2 → (∃ u, w2.cell? ⟨rb, 1, none⟩ = some u) ∧ w2.frozen? ⟨rb, 1, none⟩ = false ∧ AddPost w (w2.setCell ⟨rb, 1, none⟩ (.slice a1 ((fil M x.it.lba M.length).length + 1) cap1)) (.returned (.int .i64 0)) rb most M x) := fun w2 a1 cap1 ho hk => HH.out.fin H0.out wr hA.out ho hk
        have HOw : Hid (OwnR 71 wr (w.heap.size + 1) a cap (fil M x.it.lba M.length)) := hA.out.own
        clear hA
        generalize fil M x.it.lba M.length = FF at *
        go_wp2_with (at_builtin; refine app_stepR 71 40 Tryd.underlying40 infoR rfl (.tmp 52) (.tmp 54) rfl wr (w.heap.size + 1) cap a FF x (by rfl) (by rfl) HOw.out (by have := hfe.out _ rfl; omega) Hlt.out ?_)
        intro a1 cap1 w2 ho hk2
        obtain ⟨⟨u, hu⟩, hfz, hP⟩ := HFn.out w2 a1 cap1 ho hk2
        have HP : Hid (AddPost w (w2.setCell ⟨rb, 1, none⟩ (.slice a1 (FF.length + 1) cap1)) (.returned (.int .i64 0)) rb most M x) := hP
        clear ho hk2 HFn HOw hP b0 b1 b2
        go_wp2
        go_ret
        exact HP.out
end Go.Proofs.YtphacdnepjpmoafDoor

/-
  What lies there between two calls of BufferDrains; what its calls give.
-/
import Derived.Test.YtphacdnepjpmoafPut1
namespace Go.Proofs.Ytphacdnepjpmoaf
open Go.RowKit
set_option linter.unusedVariables false

/-- The two lists that the law keeps. -/
structure TL where
  MW : List RN
  MH : List RN
  wa : Option Addr
  ha : Option Addr
  wc : Nat
  hc : Nat
/-- WHAT LIES THERE: the buffer has L; the lists tell of what is put, and drained, but for LI. -/
structure DS (B bb mb most : Nat) (w0 wr : World) (i : Nat) (L LI : List It) (s : TL) : Prop where
  ls : LS B bb mb most w0 wr L
  rw : RowAt 41 wr s.wa s.MW
  rh : RowAt 41 wr s.ha s.MH
  wn : s.wa = none → s.wc = 0
  hn : s.ha = none → s.hc = 0
  dw : ∀ x ∈ s.MW, Lies w0 x.a x.it.data ∧ x.it.data.length ≤ 140737488355328
  dh : ∀ x ∈ s.MH, OwnA wr B x.a x.cap x.it.data ∧ x.it.data.length ≤ 140737488355328
  inv : Inv (s.MW.map (·.it)) (s.MH.map (·.it)) LI
  wl : s.MW.length ≤ i
theorem DS.below {B bb mb most : Nat} {w0 wr w' : World} {i : Nat} {L LI : List It} {s : TL} (h : DS B bb mb most w0 wr i L LI s) (hb : Below wr.heap.size wr w') : DS B bb mb most w0 w' i L LI s :=
  ⟨h.ls.below hb, h.rw.below hb, h.rh.below hb, h.wn, h.hn, h.dw, fun x hx => ⟨(h.dh x hx).1.below hb, (h.dh x hx).2⟩, h.inv, h.wl⟩
theorem DS.apart {B bb mb most : Nat} {w0 wr w' : World} {i : Nat} {L L' LI : List It} {s : TL} (h : DS B bb mb most w0 wr i L LI s) (hl : LS B bb mb most w0 w' L') (hb : Apart B wr w') : DS B bb mb most w0 w' i L' LI s :=
  ⟨hl, h.rw.apart hb (by decide) (by decide), h.rh.apart hb (by decide) (by decide), h.wn, h.hn, h.dw, fun x hx => ⟨(h.dh x hx).1.apart hb, (h.dh x hx).2⟩, h.inv, h.wl⟩
theorem DS.next {B bb mb most : Nat} {w0 wr : World} {i : Nat} {L LI : List It} {s : TL} (h : DS B bb mb most w0 wr i L LI s) : DS B bb mb most w0 wr (i + 1) L LI s := { h with wl := by have := h.wl; omega }
theorem DS.lens {B bb mb most : Nat} {w0 wr : World} {i : Nat} {L LI : List It} {s : TL} (h : DS B bb mb most w0 wr i L LI s) : s.MH.length ≤ s.MW.length := by
  have := h.inv.len
  rw [List.length_map, List.length_map] at this
  exact this
/-- The box of an operation stays. -/
theorem box_apart {B : Nat} {w w' : World} {H : Nat} {k l : Int} {s : Value} (hb : w.heap[H]? = some (.cells #[.int .i64 k, .int .i64 l, s] 37)) (ha : Apart B w w') : w'.cell? ⟨H, 1, none⟩ = some (.int .i64 l) ∧ w'.cell? ⟨H, 2, none⟩ = some s := by
  have := (ha.oth H _ _ _ hb (by decide) (by decide)).trans hb
  exact ⟨(ptr_at this).trans rfl, (ptr_at this).trans rfl⟩
/-- Put, or Drop. -/
theorem DS.put {B bb mb most : Nat} {w0 wr : World} {i : Nat} {L : List It} {s : TL} (h : DS B bb mb most w0 wr i L L s) {H : Nat} {kd l : Int} {a : Option Addr} {bs : List Nat} {cap : Nat} (hbox : wr.heap[H]? = some (.cells #[.int .i64 kd, .int .i64 l, .slice a bs.length cap] 37)) (h9 : l ≤ 9223372036854775807) (hL : Lies wr a bs) (hb : bs.length ≤ 140737488355328) :
    Calls Try.prog 10 #[.pointer (some ⟨bb, 0, none⟩), .int .i64 l, .slice a bs.length cap] wr fun e w' => e = .returned (errI (putE most L l)) ∧ (w'.cell? ⟨H, 1, none⟩ = some (.int .i64 l) ∧ w'.cell? ⟨H, 2, none⟩ = some (.slice a bs.length cap)) ∧ Hid (DS B bb mb most w0 w' i (putL most L (It.mk l false bs)) L s) :=
  (h.ls.put l bs a cap h9 hL hb).mono fun e w' ⟨e1, e2, e3⟩ => ⟨e1, box_apart hbox e3.out, h.apart e2.out e3.out⟩
theorem DS.drop {B bb mb most : Nat} {w0 wr : World} {i : Nat} {L : List It} {s : TL} (h : DS B bb mb most w0 wr i L L s) {H : Nat} {kd l : Int} {v : Value} (hbox : wr.heap[H]? = some (.cells #[.int .i64 kd, .int .i64 l, v] 37)) (h9 : l ≤ 9223372036854775807) :
    Calls Try.prog 12 #[.pointer (some ⟨bb, 0, none⟩), .int .i64 l] wr fun e w' => e = .returned (errI (putE most L l)) ∧ w'.cell? ⟨H, 1, none⟩ = some (.int .i64 l) ∧ Hid (DS B bb mb most w0 w' i (putL most L (It.mk l true [])) L s) :=
  (h.ls.drop l h9).mono fun e w' ⟨e1, e2, e3⟩ => ⟨e1, (box_apart hbox e3.out).1, h.apart e2.out e3.out⟩
/-- What was put is kept in the first list. -/
theorem DS.want {B bb mb most : Nat} {w0 wr : World} {i n : Nat} {L : List It} {s : TL} (x : RN) (h : DS B bb mb most w0 wr i (drp L x.it.lba ++ [x.it]) L s) (hi : i < n) (hn : n * 40 ≤ 140737488351232) (hx : Lies w0 x.a x.it.data ∧ x.it.data.length ≤ 140737488355328) :
    Calls Try.prog 11 #[.slice s.wa s.MW.length s.wc, .agg #[.int .i64 x.it.lba, .bool x.it.gone, .slice x.a x.it.data.length x.cap]] wr fun e w' => ∃ wa wc, e = .returned (.slice wa (ptR s.MW x).length wc) ∧ Hid (DS B bb mb most w0 w' (i + 1) (drp L x.it.lba ++ [x.it]) (drp L x.it.lba ++ [x.it]) { s with MW := ptR s.MW x, wa := wa, wc := wc }) := by
  have hwl := h.wl
  refine (put0_any h.rw h.wn x (by omega) (fun _ => by omega)).mono ?_
  rintro e w' ⟨wa, wc, e1, e2, e3, e4⟩
  have h' := h.below e4
  refine ⟨wa, wc, e1, h'.ls, e3, h'.rh, e2, h'.hn, fun y hy => ?_, h'.dh, ?_, ?_⟩
  · rcases ptR_mem _ _ _ hy with e | rfl
    · exact h.dw y e
    · exact hx
  · show Inv ((ptR s.MW x).map (·.it)) _ _
    rw [ptR_it]
    exact h.inv.put x.it
  · have := pt_len (s.MW.map (·.it)) x.it
    rw [← ptR_it, List.length_map, List.length_map] at this
    show (ptR s.MW x).length ≤ i + 1
    rw [this]
    split <;> omega
/-- BEHIND A DRAIN: k of what came out are in the second list. -/
structure DG (B bb mb most : Nat) (w0 wr : World) (i : Nat) (L L0 : List It) (s : TL) (n k : Nat) (M1 : List RN) (a1 : Option Addr) : Prop where
  st : DS B bb mb most w0 wr i L (L0.drop k) s
  row : RowAt 45 wr a1 M1
  da : ∀ x ∈ M1, OwnA wr B x.a x.cap x.it.data ∧ x.it.data.length ≤ 140737488355328
  e1 : M1.map (·.it) = L0.take n
  nd : (L0.map (·.lba)).Nodup
theorem DG.below {B bb mb most : Nat} {w0 wr w' : World} {i : Nat} {L L0 : List It} {s : TL} {n k : Nat} {M1 : List RN} {a1 : Option Addr} (h : DG B bb mb most w0 wr i L L0 s n k M1 a1) (hb : Below wr.heap.size wr w') : DG B bb mb most w0 w' i L L0 s n k M1 a1 :=
  ⟨h.st.below hb, h.row.below hb, fun x hx => ⟨(h.da x hx).1.below hb, (h.da x hx).2⟩, h.e1, h.nd⟩
theorem DS.drain {B bb mb most : Nat} {w0 wr : World} {i : Nat} {L : List It} {s : TL} (h : DS B bb mb most w0 wr i L L s) (l : Int) :
    Calls Try.prog 13 #[.pointer (some ⟨bb, 0, none⟩), .int .i64 l] wr fun e w' => ∃ (M1 : List RN) (a1 : Option Addr) (c1 : Nat), e = .returned (.slice a1 M1.length c1) ∧ M1.length ≤ 16 ∧ M1.length = min l.toNat L.length ∧ Hid (DG B bb mb most w0 w' i (L.drop l.toNat) L s l.toNat 0 M1 a1) := by
  have hOk := h.ls.bs.ok
  refine (drain_any h.ls.bs l).mono ?_
  rintro e w' ⟨M1, a1, c1, q1, q2, q3, q4, q5, q6⟩
  have hlen : M1.length = min l.toNat L.length := by
    have := congrArg List.length q2
    rw [List.length_map, List.length_take] at this
    exact this
  refine ⟨M1, a1, c1, q1, by have := hOk.1.ln; omega, hlen, h.apart (h.ls.apart q5 q6) q6, q3, fun x hx => ⟨q4 x hx, ?_⟩, q2, hOk.1.nd⟩
  have hm : x.it ∈ L.take l.toNat := by rw [← q2]; exact List.mem_map.2 ⟨x, hx, rfl⟩
  exact hOk.1.dl x.it (List.mem_of_mem_take hm)
/-- The k-th that came out. -/
theorem DG.nth {B bb mb most : Nat} {w0 wr : World} {i : Nat} {L L0 : List It} {s : TL} {n k : Nat} {M1 : List RN} {a1 : Option Addr} (h : DG B bb mb most w0 wr i L L0 s n k M1 a1) {j : Nat} (hj : j < M1.length) : L0[j]? = some (M1[j]?.getD rn0).it := by
  have e : (M1.map (·.it))[j]? = some (M1[j]?.getD rn0).it := by rw [List.getElem?_map, List.getElem?_eq_getElem hj]; rfl
  have hjn : j < n := by
    have := congrArg List.length h.e1
    rw [List.length_map, List.length_take] at this
    omega
  rw [h.e1, List.getElem?_take, if_pos hjn] at e
  exact e
theorem DG.apart2 {B bb mb most : Nat} {w0 wr : World} {i : Nat} {L L0 : List It} {s : TL} {n k : Nat} {M1 : List RN} {a1 : Option Addr} (h : DG B bb mb most w0 wr i L L0 s n k M1 a1) {j m : Nat} (hj : j < m) (hm : m < M1.length) : lbaR M1 j ≠ lbaR M1 m := fun e => by
  have h1 := h.nth (j := j) (by omega)
  have h2 := h.nth hm
  obtain ⟨p1, q1⟩ := List.getElem?_eq_some_iff.1 h1
  obtain ⟨p2, q2⟩ := List.getElem?_eq_some_iff.1 h2
  refine (List.pairwise_iff_getElem.1 h.nd j m (by simpa using p1) (by simpa using p2) hj) ?_
  rw [List.getElem_map, List.getElem_map, q1, q2]
  exact e
theorem DG.give {B bb mb most : Nat} {w0 wr : World} {i N : Nat} {L L0 : List It} {s : TL} {n k : Nat} {M1 : List RN} {a1 : Option Addr} (h : DG B bb mb most w0 wr i L L0 s n k M1 a1) (hk : k < M1.length) (hi : i ≤ N) (hN : N * 40 ≤ 140737488351232) :
    Calls Try.prog 11 #[.slice s.ha s.MH.length s.hc, .agg #[.int .i64 (M1[k]?.getD rn0).it.lba, .bool (M1[k]?.getD rn0).it.gone, .slice (M1[k]?.getD rn0).a (M1[k]?.getD rn0).it.data.length (M1[k]?.getD rn0).cap]] wr fun e w' => ∃ s' : TL, e = .returned (.slice s'.ha s'.MH.length s'.hc) ∧ (s'.wa = s.wa ∧ s'.wc = s.wc ∧ s'.MW = s.MW) ∧ Hid (Below wr.heap.size wr w') ∧ Hid (DG B bb mb most w0 w' i L L0 s' n (k + 1) M1 a1) := by
  have hwl := h.st.wl
  have hlens := h.st.lens
  have h0 := h.nth hk
  obtain ⟨p1, q1⟩ := List.getElem?_eq_some_iff.1 h0
  have hdr : L0.drop k = (M1[k]?.getD rn0).it :: L0.drop (k + 1) := by rw [List.drop_eq_getElem_cons p1, q1]
  have hinv := h.st.inv
  rw [hdr] at hinv
  have hm1 : M1[k]?.getD rn0 ∈ M1 := by rw [List.getElem?_eq_getElem hk]; exact List.getElem_mem hk
  have hda := h.da _ hm1
  refine (put0_any h.st.rh h.st.hn (M1[k]?.getD rn0) (by omega) (fun hf => ?_)).mono ?_
  · have := hinv.len1 (x := (M1[k]?.getD rn0).it) (by simp) hf
    rw [List.length_map, List.length_map] at this
    omega
  · rintro e w' ⟨ha, hc, e1, e2, e3, e4⟩
    have h' := h.below e4
    refine ⟨{ s with MH := ptR s.MH (M1[k]?.getD rn0), ha := ha, hc := hc }, e1, ⟨rfl, rfl, rfl⟩, e4, ⟨h'.st.ls, h'.st.rw, e3, h'.st.wn, e2, h'.st.dw, fun y hy => ?_, ?_, h'.st.wl⟩, h'.row, h'.da, h'.e1, h'.nd⟩
    · rcases ptR_mem _ _ _ hy with e | e
      · exact h'.st.dh y e
      · rw [e]; exact h'.da _ hm1
    · show Inv _ ((ptR s.MH (M1[k]?.getD rn0)).map (·.it)) _
      rw [ptR_it]
      have hnd := h.nd
      refine hinv.take ?_
      rw [← hdr, List.map_drop]
      exact hnd.sublist (List.drop_sublist _ _)
/-- .. as a statement of the law says it. -/
theorem DG.cells {B bb mb most : Nat} {w0 wr : World} {i : Nat} {L L0 : List It} {s : TL} {n k : Nat} {M1 : List RN} {a1 : Option Addr} (h : DG B bb mb most w0 wr i L L0 s n k M1 a1) {j : Nat} (hj : j < M1.length) : ∃ g off, a1 = some ⟨g, off, none⟩ ∧ wr.cell? ⟨g, off + j * 3, none⟩ = some (.int .i64 (M1[j]?.getD rn0).it.lba) ∧ wr.cell? ⟨g, off + j * 3 + 1, none⟩ = some (.bool (M1[j]?.getD rn0).it.gone) ∧ wr.cell? ⟨g, off + j * 3 + 2, none⟩ = some (.slice (M1[j]?.getD rn0).a (M1[j]?.getD rn0).it.data.length (M1[j]?.getD rn0).cap) := h.row.at hj
/-- AT THE END: the two lists alone. -/
structure FS (B : Nat) (w0 wr : World) (s : TL) : Prop where
  rw : RowAt 41 wr s.wa s.MW
  rh : RowAt 41 wr s.ha s.MH
  lw : ∀ x ∈ s.MW, Lies wr x.a x.it.data ∧ x.it.data.length ≤ 140737488355328
  lh : ∀ x ∈ s.MH, Lies wr x.a x.it.data ∧ x.it.data.length ≤ 140737488355328
  bel : Below B w0 wr
  ge : B ≤ wr.heap.size
theorem FS.below {B : Nat} {w0 wr w' : World} {s : TL} (h : FS B w0 wr s) (hb : Below wr.heap.size wr w') : FS B w0 w' s :=
  ⟨h.rw.below hb, h.rh.below hb, fun x hx => ⟨(h.lw x hx).1.below hb, (h.lw x hx).2⟩, fun x hx => ⟨(h.lh x hx).1.below hb, (h.lh x hx).2⟩, h.bel.trans (hb.mono h.ge), Nat.le_trans h.ge hb.size⟩
theorem DS.fs {B bb mb most : Nat} {w0 wr : World} {i : Nat} {L LI : List It} {s : TL} (h : DS B bb mb most w0 wr i L LI s) (hB : w0.heap.size = B) : FS B w0 wr s :=
  ⟨h.rw, h.rh, fun x hx => ⟨(h.dw x hx).1.bel h.ls.bel (Nat.le_of_eq hB), (h.dw x hx).2⟩, fun x hx => ⟨(h.dh x hx).1.lies, (h.dh x hx).2⟩, h.ls.bel, h.ls.bs.lt⟩
/-- All that was put was drained. -/
theorem DS.fin {B bb mb most : Nat} {w0 wr : World} {i : Nat} {L : List It} {s : TL} (h : DS B bb mb most w0 wr i L [] s) : s.MW.length = s.MH.length ∧ ∀ k, k < s.MW.length → ∃ j, j < s.MH.length ∧ (s.MH[j]?.getD rn0).it = (s.MW[k]?.getD rn0).it := by
  obtain ⟨h1, h2⟩ := h.inv.fin
  rw [List.length_map, List.length_map] at h1
  refine ⟨h1, fun k hk => ?_⟩
  obtain ⟨j, hj, e⟩ := h2 k (by rw [List.length_map]; exact hk)
  rw [List.length_map] at hj
  refine ⟨j, hj, ?_⟩
  rw [List.getElem?_map, List.getElem?_map, List.getElem?_eq_getElem hj, List.getElem?_eq_getElem hk] at e
  rw [List.getElem?_eq_getElem hj, List.getElem?_eq_getElem hk]
  exact Option.some.inj e
/-- What the two loops at the end meet. -/
theorem FS.two {B : Nat} {w0 wr : World} {s : TL} (h : FS B w0 wr s) {k q : Nat} (hk : k < s.MW.length) (hq : q < s.MH.length) :
    ∃ (g off g1 off1 : Nat), s.wa = some ⟨g, off, none⟩ ∧ s.ha = some ⟨g1, off1, none⟩
      ∧ (wr.cell? ⟨g, off + k * 3, none⟩ = some (.int .i64 (s.MW[k]?.getD rn0).it.lba) ∧ wr.cell? ⟨g, off + k * 3 + 1, none⟩ = some (.bool (s.MW[k]?.getD rn0).it.gone) ∧ wr.cell? ⟨g, off + k * 3 + 2, none⟩ = some (.slice (s.MW[k]?.getD rn0).a (s.MW[k]?.getD rn0).it.data.length (s.MW[k]?.getD rn0).cap))
      ∧ (wr.cell? ⟨g1, off1 + q * 3, none⟩ = some (.int .i64 (s.MH[q]?.getD rn0).it.lba) ∧ wr.cell? ⟨g1, off1 + q * 3 + 1, none⟩ = some (.bool (s.MH[q]?.getD rn0).it.gone) ∧ wr.cell? ⟨g1, off1 + q * 3 + 2, none⟩ = some (.slice (s.MH[q]?.getD rn0).a (s.MH[q]?.getD rn0).it.data.length (s.MH[q]?.getD rn0).cap)) := by
  obtain ⟨g, off, e, c⟩ := h.rw.at hk
  obtain ⟨g1, off1, e1, c1⟩ := h.rh.at hq
  exact ⟨g, off, g1, off1, e, e1, c, c1⟩
theorem FS.bytes {B : Nat} {w0 wr : World} {s : TL} (h : FS B w0 wr s) {k q : Nat} (hk : k < s.MW.length) (hq : q < s.MH.length) (ca cb : Nat) :
    Calls Try.prog 7 #[.slice (s.MW[k]?.getD rn0).a (s.MW[k]?.getD rn0).it.data.length ca, .slice (s.MH[q]?.getD rn0).a (s.MH[q]?.getD rn0).it.data.length cb] wr fun e w' => e = .returned (.bool (decide ((s.MW[k]?.getD rn0).it.data = (s.MH[q]?.getD rn0).it.data))) ∧ Below wr.heap.size wr w' := by
  have hm : s.MW[k]?.getD rn0 ∈ s.MW := by rw [List.getElem?_eq_getElem hk]; exact List.getElem_mem hk
  have hm1 : s.MH[q]?.getD rn0 ∈ s.MH := by rw [List.getElem?_eq_getElem hq]; exact List.getElem_mem hq
  exact bytes_any _ _ _ _ ca cb wr (h.lw _ hm).2 (h.lh _ hm1).2 (h.lw _ hm).1 (h.lh _ hm1).1
end Go.Proofs.Ytphacdnepjpmoaf

/-
  What the call of record.Read gives: the batches as far as the bytes are a record, and how many bytes they have.
-/
import Derived.Test.YtalmcjkaheofpaeDoorLists
namespace Go.Proofs.YtalmcjkaheofpaeDoor
open Go.RowKit
set_option linter.unusedVariables false

/-- What Read gives. -/
def ReadPost (w w' : World) (e : Ending) (bs : List Nat) : Prop :=
  ∃ d u a cap, e = .returned (.tuple #[.slice a d.length cap, .int .i64 (u : Nat)]) ∧ Fin bs d u ∧ BatAt w' a d ∧ Below w.heap.size w w'
structure RR (w wr : World) (bs : List Nat) (d : List (List En)) (u : Nat) (a : Option Addr) (cap : Nat) : Prop where
  rd : Rd bs d u
  own : OwnH wr w.heap.size a cap d
  bel : Below w.heap.size w wr
set_option maxRecDepth 20000 in
set_option maxHeartbeats 1600000 in
theorem read_any (da : Option Addr) (bs : List Nat) (cap : Nat) (w : World) (hL : Lies w da bs) (ha : AllB bs) (hl : bs.length ≤ 1073741824) (hlc : bs.length ≤ cap) (hE : ErrV w) :
    Calls Tryd.prog 12 #[.slice da bs.length cap] w fun e w' => ReadPost w w' e bs := by
  have HR : Hid (RR w w bs [] 0 none 0) := ⟨.nil, OwnH.nil _ _, Below.refl _ _⟩
  have HC : Hid (∀ wr u, Below w.heap.size w wr → u ≤ bs.length → Calls Tryd.prog 21 #[.slice (dropA da cap u) (bs.length - u) (cap - u)] wr fun e w' => BatPost wr w' e (bs.drop u)) := fun wr u hb hu => by
    have h := readBatch_any (dropA da cap u) (bs.drop u) (cap - u) wr ((hL.below hb).drop u hlc) (ha.drop u) (by rw [List.length_drop]; omega) (by rw [List.length_drop]; omega) (hE.below hb)
    rw [List.length_drop] at h
    exact h
  have HA : Hid (AllB bs) := ha
  clear hL ha hE
  go_enter Tryd.func12, Tryd.ntmps12
  go_wp2
  go_loopw [4, 5] (fun t j wr => ∃ (d : List (List En)) (u : Nat) (a : Option Addr) (c : Nat), u ≤ bs.length ∧ d.length ≤ 1073741824 ∧ j = .int .i64 u ∧ t = .slice a d.length c ∧ Hid (RR w wr bs d u a c)) (fun _ j _ => bs.length - (intOf j).toNat)
  case atStart => exact ⟨[], 0, none, 0, by omega, by simp, rfl, rfl, HR⟩
  case round =>
    clear HR
    obtain ⟨d, u, a, c, hu, hd, rfl, rfl, hr⟩ := hrel
    have hs := fun wz => slice_from da bs.length cap u hu wz
    go_wp2_with fail
    refine (HC.out wr u hr.out.bel hu).mono ?_
    rintro e w2 ⟨hb2, ⟨es, k, g, hx, rfl, hEB, hg⟩ | ⟨hx, rfl⟩⟩
    · have hbk := (Rd.snoc hr.out.rd hx).back HA.out
      have hk5 : 5 ≤ k := by have := rbat_back (HA.out.drop u) hx; have := batL_pos es; omega
      have hsz : w.heap.size ≤ w2.heap.size := Nat.le_trans hr.out.bel.size hb2.size
      have HO : Hid (OwnH w2 w.heap.size a c d ∧ EnsOwn w2 w.heap.size (some ⟨g, 0, none⟩) es ∧ Below w.heap.size w w2) :=
        ⟨hr.out.own.below hb2, hEB.own (by have := hr.out.bel.size; omega), hr.out.bel.trans (hb2.mono hr.out.bel.size)⟩
      have HN : Hid (Rd bs (d ++ [es]) (u + k)) := Rd.snoc hr.out.rd hx
      have hub : u + k ≤ bs.length := hbk.1
      have hdb : (d ++ [es]).length ≤ 1073741824 := by have := hbk.2.2.2.2; omega
      rw [List.length_append, List.length_singleton] at hdb
      clear hr hb2 hEB hbk hx
      go_wp2_with (at_builtin; refine app_stepH rfl (.tmp 21) (.tmp 23) rfl w2 w.heap.size c es.length a (some ⟨g, 0, none⟩) d es rfl rfl HO.out.1 HO.out.2.1 hd hsz ?_)
      intro a1 cap1 w3 hO3 hK3
      have HF : Hid (RR w w3 bs (d ++ [es]) (u + k) a1 cap1) := ⟨HN.out, hO3, HO.out.2.2.trans (hK3.below hsz (fun b hb => (HO.out.1.blk hb).1))⟩
      clear hO3 hK3 HO
      go_wp2
      go_roundw
      case rel => exact ⟨d ++ [es], u + k, a1, cap1, hub, by rw [List.length_append, List.length_singleton]; exact hdb, by go_num, by rw [List.length_append, List.length_singleton], HF⟩
      case measure => simp [intOf]; omega
    · have HP : Hid (ReadPost w w2 (.returned (.tuple #[.slice a d.length c, .int .i64 (u : Nat)])) bs) :=
        ⟨d, u, a, c, rfl, ⟨hr.out.rd, hx⟩, (hr.out.own.below hb2).at, hr.out.bel.trans (hb2.mono hr.out.bel.size)⟩
      clear hr hb2 hx
      go_wp2
      go_ret2
      exact HP.out
end Go.Proofs.YtalmcjkaheofpaeDoor

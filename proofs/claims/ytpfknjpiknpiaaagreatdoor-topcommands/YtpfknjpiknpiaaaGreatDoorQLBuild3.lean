/- Part of the proof. -/
import Derived.Test.YtpfknjpiknpiaaaGreatDoorQL3
namespace Go.Proofs.YtpfknjpiknpiaaaGreatDoorQL
open Go.Proofs.YtpfknjpiknpiaaaGreatDoorQ
open Go.RowKit
set_option linter.unusedVariables false
def BOk (l : List Nat) (pages : List Int) (offset long first second : Int) (l' : List Nat) : Prop :=
  ∃ (Q : List Nat) (o n : Nat), pages = Q.map Int.ofNat ∧ offset = (o : Int) ∧ long = (n : Int) ∧ (1 ≤ n ∧ n ≤ 2048 ∧ o ≤ 60 ∧ o % 4 = 0) ∧ Q.length = (o + n + 63) / 64 ∧ (∀ p ∈ Q, p % 64 = 0 ∧ p + 64 ≤ l.length) ∧ first = ((Q[0]?.getD 0 + o : Nat) : Int) ∧
    ((Q.length = 1 ∧ second = 0 ∧ l' = l) ∨ (Q.length = 2 ∧ second = ((Q[1]?.getD 0 : Nat) : Int) ∧ l' = l) ∨
      (2 < Q.length ∧ ∃ A : Nat, second = (A : Int) ∧ A % 64 = 0 ∧ l' = layN l A (lstB A (Q.drop 1)) ∧ A + 8 * (lstB A (Q.drop 1)).length ≤ l.length))
def BuildPost (w w' : World) (e : Ending) (mb hb : Nat) (l : List Nat) (pages : List Int) (offset long : Int) : Prop :=
  (∃ n : Nat, e = .returned (.tuple #[.int .i64 0, .int .i64 0, .iface 54 (.int .i64 (n : Nat))]) ∧ Below w.heap.size w w') ∨
  (∃ (first second : Int) (l' : List Nat), e = .returned (.tuple #[.int .i64 first, .int .i64 second, .nilIface]) ∧ BOk l pages offset long first second l' ∧ MW w' mb hb l' ∧ Keep (fun b => b = hb) w w')
theorem BuildPost.no {w w' : World} {mb hb : Nat} {l : List Nat} {pages : List Int} {offset long : Int} (n : Nat) (h : Below w.heap.size w w') : BuildPost w w' (.returned (.tuple #[.int .i64 0, .int .i64 0, .iface 54 (.int .i64 (n : Nat))])) mb hb l pages offset long := .inl ⟨n, rfl, h⟩
theorem nats_of : ∀ {L : List Int}, (∀ k, k < L.length → 0 ≤ gI L k) → ∃ Q : List Nat, L = Q.map Int.ofNat
  | [], _ => ⟨[], rfl⟩
  | x :: r, h => by
    obtain ⟨Q, hQ⟩ := nats_of (L := r) (fun k hk => h (k + 1) (by simpa using hk))
    obtain ⟨n, hn⟩ := Int.eq_ofNat_of_zero_le (h 0 (by simp))
    refine ⟨n :: Q, ?_⟩
    rw [List.map_cons, ← hQ]
    exact congrArg (· :: r) hn
theorem mem_gI {Q : List Nat} {p : Nat} (h : p ∈ Q) : ∃ k, k < Q.length ∧ gI (Q.map Int.ofNat) k = (p : Int) := by
  obtain ⟨k, hk, e⟩ := List.getElem_of_mem h
  refine ⟨k, hk, ?_⟩
  rw [gI_map Q hk, List.getElem?_eq_getElem hk, e]
  rfl
set_option maxRecDepth 20000 in
set_option maxHeartbeats 3200000 in
theorem build_long (mb hb : Nat) (l : List Nat) (x : Int) (pa : Option Addr) (pc : Nat) (pages : List Int) (offset long : Int) (w : World) (h : ¬ (1 ≤ long ∧ long ≤ 2048)) :
    Calls (Al.progOf Tryz.prog) 6 #[.pointer (some ⟨mb, 0, none⟩), .int .i64 x, .slice pa pages.length pc, .int .i64 offset, .int .i64 long] w fun e w' => BuildPost w w' e mb hb l pages offset long := by
  have HP := present_any mb w
  have HM : Hid (Calls (Al.progOf Tryz.prog) 14 #[.int .i64 long] w fun e w' => e = .returned (.bool false) ∧ w = w') := by
    have := mayMove_any long w
    rw [decide_eq_false h] at this
    exact this
  have HD : Hid (BuildPost w w (.returned (.tuple #[.int .i64 0, .int .i64 0, .iface 54 (.int .i64 1)])) mb hb l pages offset long) := BuildPost.no 1 (Below.refl _ _)
  clear h
  go_enter Al.func6, Tryz.ntmps6
  go_wp2_with fail
  refine HP.mono ?_
  rintro e w' ⟨rfl, rfl⟩
  go_wp2_with fail
  refine HM.out.mono ?_
  rintro e w' ⟨rfl, rfl⟩
  clear HP HM
  go_wp2
  go_ret3
  exact HD.out
set_option maxRecDepth 20000 in
set_option maxHeartbeats 3200000 in
theorem build_offN (mb hb : Nat) (l : List Nat) (x : Int) (pa : Option Addr) (pc : Nat) (pages : List Int) (offset long : Int) (w : World) (h : 1 ≤ long ∧ long ≤ 2048) (ho : offset < 0) :
    Calls (Al.progOf Tryz.prog) 6 #[.pointer (some ⟨mb, 0, none⟩), .int .i64 x, .slice pa pages.length pc, .int .i64 offset, .int .i64 long] w fun e w' => BuildPost w w' e mb hb l pages offset long := by
  have HP := present_any mb w
  have HM : Hid (Calls (Al.progOf Tryz.prog) 14 #[.int .i64 long] w fun e w' => e = .returned (.bool true) ∧ w = w') := by
    have := mayMove_any long w
    rw [decide_eq_true h] at this
    exact this
  have HD : Hid (BuildPost w w (.returned (.tuple #[.int .i64 0, .int .i64 0, .iface 54 (.int .i64 1)])) mb hb l pages offset long) := BuildPost.no 1 (Below.refl _ _)
  clear h
  go_enter Al.func6, Tryz.ntmps6
  go_wp2_with fail
  refine HP.mono ?_
  rintro e w' ⟨rfl, rfl⟩
  go_wp2_with fail
  refine HM.out.mono ?_
  rintro e w' ⟨rfl, rfl⟩
  clear HP HM
  go_wp2
  go_ret3
  exact HD.out
set_option maxRecDepth 20000 in
set_option maxHeartbeats 3200000 in
theorem build_offB (mb hb : Nat) (l : List Nat) (x : Int) (pa : Option Addr) (pc : Nat) (pages : List Int) (offset long : Int) (w : World) (h : 1 ≤ long ∧ long ≤ 2048) (ho : 60 < offset) :
    Calls (Al.progOf Tryz.prog) 6 #[.pointer (some ⟨mb, 0, none⟩), .int .i64 x, .slice pa pages.length pc, .int .i64 offset, .int .i64 long] w fun e w' => BuildPost w w' e mb hb l pages offset long := by
  have HP := present_any mb w
  have HM : Hid (Calls (Al.progOf Tryz.prog) 14 #[.int .i64 long] w fun e w' => e = .returned (.bool true) ∧ w = w') := by
    have := mayMove_any long w
    rw [decide_eq_true h] at this
    exact this
  have ho2 : ¬ offset < 0 := by omega
  have HD : Hid (BuildPost w w (.returned (.tuple #[.int .i64 0, .int .i64 0, .iface 54 (.int .i64 1)])) mb hb l pages offset long) := BuildPost.no 1 (Below.refl _ _)
  clear h
  go_enter Al.func6, Tryz.ntmps6
  go_wp2_with fail
  refine HP.mono ?_
  rintro e w' ⟨rfl, rfl⟩
  go_wp2_with fail
  refine HM.out.mono ?_
  rintro e w' ⟨rfl, rfl⟩
  clear HP HM
  go_wp2
  go_ret3
  exact HD.out
set_option maxRecDepth 20000 in
set_option maxHeartbeats 3200000 in
theorem build_four (mb hb : Nat) (l : List Nat) (x : Int) (pa : Option Addr) (pc : Nat) (pages : List Int) (o n : Nat) (w : World) (h : 1 ≤ n ∧ n ≤ 2048) (ho : o ≤ 60) (h4 : ¬ o % 4 = 0) :
    Calls (Al.progOf Tryz.prog) 6 #[.pointer (some ⟨mb, 0, none⟩), .int .i64 x, .slice pa pages.length pc, .int .i64 (o : Nat), .int .i64 (n : Nat)] w fun e w' => BuildPost w w' e mb hb l pages (o : Nat) (n : Nat) := by
  have HP := present_any mb w
  have HM : Hid (Calls (Al.progOf Tryz.prog) 14 #[.int .i64 (n : Nat)] w fun e w' => e = .returned (.bool true) ∧ w = w') := by
    have := mayMove_any (n : Nat) w
    rw [decide_eq_true (by omega)] at this
    exact this
  have ho1 : ¬ (o : Int) < 0 := by omega
  have ho2 : ¬ 60 < (o : Int) := by omega
  have h4' : (((o : Nat) : Int) % 4 != 0) = true := by rw [bne_iff_ne]; omega
  have HD : Hid (BuildPost w w (.returned (.tuple #[.int .i64 0, .int .i64 0, .iface 54 (.int .i64 2)])) mb hb l pages (o : Nat) (n : Nat)) := BuildPost.no 2 (Below.refl _ _)
  clear h ho h4
  go_enter Al.func6, Tryz.ntmps6
  go_wp2_with fail
  refine HP.mono ?_
  rintro e w' ⟨rfl, rfl⟩
  go_wp2_with fail
  refine HM.out.mono ?_
  rintro e w' ⟨rfl, rfl⟩
  clear HP HM
  go_wp2
  go_ret3
  exact HD.out
set_option maxRecDepth 20000 in
set_option maxHeartbeats 3200000 in
theorem build_many (mb hb : Nat) (l : List Nat) (x : Int) (pa : Option Addr) (pc : Nat) (pages : List Int) (o n : Nat) (w : World) (h : 1 ≤ n ∧ n ≤ 2048) (ho : o ≤ 60) (h4 : o % 4 = 0) (hl : pages.length ≠ (o + n + 63) / 64) :
    Calls (Al.progOf Tryz.prog) 6 #[.pointer (some ⟨mb, 0, none⟩), .int .i64 x, .slice pa pages.length pc, .int .i64 (o : Nat), .int .i64 (n : Nat)] w fun e w' => BuildPost w w' e mb hb l pages (o : Nat) (n : Nat) := by
  have HP := present_any mb w
  have HM : Hid (Calls (Al.progOf Tryz.prog) 14 #[.int .i64 (n : Nat)] w fun e w' => e = .returned (.bool true) ∧ w = w') := by
    have := mayMove_any (n : Nat) w
    rw [decide_eq_true (by omega)] at this
    exact this
  have ho1 : ¬ (o : Int) < 0 := by omega
  have ho2 : ¬ 60 < (o : Int) := by omega
  have h4' : (((o : Nat) : Int) % 4 != 0) = false := by rw [bne_eq_false_iff_eq]; omega
  obtain ⟨T, hT⟩ : ∃ T : Nat, (o : Int) + (n : Int) = (T : Int) := ⟨o + n, by omega⟩
  have HPo : Hid (Calls (Al.progOf Tryz.prog) 15 #[.int .i64 (T : Nat)] w fun e w' => e = .returned (.int .i64 (((T + 63) / 64 : Nat) : Int)) ∧ w = w') := pagesOf_any T w (by omega)
  have hTb : T ≤ 2108 := by omega
  obtain ⟨K, HK⟩ : ∃ K, Hid (K = (T + 63) / 64) := ⟨_, rfl⟩
  rw [← HK.out] at HPo
  have hl' : (((pages.length : Nat) : Int) != ((K : Nat) : Int)) = true := by
    rw [bne_iff_ne]
    have : T = o + n := by omega
    rw [HK.out, this]
    omega
  have HD : Hid (BuildPost w w (.returned (.tuple #[.int .i64 0, .int .i64 0, .iface 54 (.int .i64 2)])) mb hb l pages (o : Nat) (n : Nat)) := BuildPost.no 2 (Below.refl _ _)
  clear h ho h4 hl HK
  go_enter Al.func6, Tryz.ntmps6
  go_wp2_with fail
  refine HP.mono ?_
  rintro e w' ⟨rfl, rfl⟩
  go_wp2_with fail
  refine HM.out.mono ?_
  rintro e w' ⟨rfl, rfl⟩
  go_wp2_with fail
  refine HPo.out.mono ?_
  rintro e w' ⟨rfl, rfl⟩
  clear HP HM HPo
  go_wp2
  go_ret3
  exact HD.out
set_option maxRecDepth 20000 in
set_option maxHeartbeats 3200000 in
theorem build_page (mb hb : Nat) (l : List Nat) (x : Int) (g off : Nat) (pc : Nat) (pages : List Int) (o n : Nat) (w : World) (h : 1 ≤ n ∧ n ≤ 2048) (ho : o ≤ 60) (h4 : o % 4 = 0) (hl : pages.length = (o + n + 63) / 64) (hat : ∀ i, i < pages.length → w.cell? ⟨g, off + i, none⟩ = some (.int .i64 (gI pages i))) (ha : areF pages = false) :
    Calls (Al.progOf Tryz.prog) 6 #[.pointer (some ⟨mb, 0, none⟩), .int .i64 x, .slice (some ⟨g, off, none⟩) pages.length pc, .int .i64 (o : Nat), .int .i64 (n : Nat)] w fun e w' => BuildPost w w' e mb hb l pages (o : Nat) (n : Nat) := by
  have HP := present_any mb w
  have HM : Hid (Calls (Al.progOf Tryz.prog) 14 #[.int .i64 (n : Nat)] w fun e w' => e = .returned (.bool true) ∧ w = w') := by
    have := mayMove_any (n : Nat) w
    rw [decide_eq_true (by omega)] at this
    exact this
  have ho1 : ¬ (o : Int) < 0 := by omega
  have ho2 : ¬ 60 < (o : Int) := by omega
  have h4' : (((o : Nat) : Int) % 4 != 0) = false := by rw [bne_eq_false_iff_eq]; omega
  obtain ⟨T, hT⟩ : ∃ T : Nat, (o : Int) + (n : Int) = (T : Int) := ⟨o + n, by omega⟩
  have HPo : Hid (Calls (Al.progOf Tryz.prog) 15 #[.int .i64 (T : Nat)] w fun e w' => e = .returned (.int .i64 (((T + 63) / 64 : Nat) : Int)) ∧ w = w') := pagesOf_any T w (by omega)
  have hTb : T ≤ 2108 := by omega
  obtain ⟨K, HK⟩ : ∃ K, Hid (K = (T + 63) / 64) := ⟨_, rfl⟩
  rw [← HK.out] at HPo
  have hl' : (((pages.length : Nat) : Int) != ((K : Nat) : Int)) = false := by
    rw [bne_eq_false_iff_eq]
    have : T = o + n := by omega
    rw [HK.out, this]
    omega
  have hlb : pages.length ≤ 33 := by omega
  have HA : Hid (Calls (Al.progOf Tryz.prog) 16 #[.slice (some ⟨g, off, none⟩) pages.length pc] w fun e w' => e = .returned (.bool false) ∧ w = w') := by
    have := are_some g off pc pages w hat (by omega)
    rw [ha] at this
    exact this
  have HD : Hid (BuildPost w w (.returned (.tuple #[.int .i64 0, .int .i64 0, .iface 54 (.int .i64 2)])) mb hb l pages (o : Nat) (n : Nat)) := BuildPost.no 2 (Below.refl _ _)
  clear h ho h4 hl HK hat ha
  go_enter Al.func6, Tryz.ntmps6
  go_wp2_with fail
  refine HP.mono ?_
  rintro e w' ⟨rfl, rfl⟩
  go_wp2_with fail
  refine HM.out.mono ?_
  rintro e w' ⟨rfl, rfl⟩
  go_wp2_with fail
  refine HPo.out.mono ?_
  rintro e w' ⟨rfl, rfl⟩
  go_wp2_with fail
  refine HA.out.mono ?_
  rintro e w' ⟨rfl, rfl⟩
  clear HP HM HPo HA
  go_wp2
  go_ret3
  exact HD.out
set_option maxRecDepth 20000 in
set_option maxHeartbeats 3200000 in
theorem build_at (mb hb : Nat) (l : List Nat) (x : Int) (g off : Nat) (pc : Nat) (pages : List Int) (o n : Nat) (w : World) (h : 1 ≤ n ∧ n ≤ 2048) (ho : o ≤ 60) (h4 : o % 4 = 0) (hl : pages.length = (o + n + 63) / 64) (hat : ∀ i, i < pages.length → w.cell? ⟨g, off + i, none⟩ = some (.int .i64 (gI pages i))) (ha : areF pages = true) (h2 : 2 < pages.length) (hx : ¬ pageA x) :
    Calls (Al.progOf Tryz.prog) 6 #[.pointer (some ⟨mb, 0, none⟩), .int .i64 x, .slice (some ⟨g, off, none⟩) pages.length pc, .int .i64 (o : Nat), .int .i64 (n : Nat)] w fun e w' => BuildPost w w' e mb hb l pages (o : Nat) (n : Nat) := by
  have HP := present_any mb w
  have HM : Hid (Calls (Al.progOf Tryz.prog) 14 #[.int .i64 (n : Nat)] w fun e w' => e = .returned (.bool true) ∧ w = w') := by
    have := mayMove_any (n : Nat) w
    rw [decide_eq_true (by omega)] at this
    exact this
  have ho1 : ¬ (o : Int) < 0 := by omega
  have ho2 : ¬ 60 < (o : Int) := by omega
  have h4' : (((o : Nat) : Int) % 4 != 0) = false := by rw [bne_eq_false_iff_eq]; omega
  obtain ⟨T, hT⟩ : ∃ T : Nat, (o : Int) + (n : Int) = (T : Int) := ⟨o + n, by omega⟩
  have HPo : Hid (Calls (Al.progOf Tryz.prog) 15 #[.int .i64 (T : Nat)] w fun e w' => e = .returned (.int .i64 (((T + 63) / 64 : Nat) : Int)) ∧ w = w') := pagesOf_any T w (by omega)
  have hTb : T ≤ 2108 := by omega
  obtain ⟨K, HK⟩ : ∃ K, Hid (K = (T + 63) / 64) := ⟨_, rfl⟩
  rw [← HK.out] at HPo
  have hl' : (((pages.length : Nat) : Int) != ((K : Nat) : Int)) = false := by
    rw [bne_eq_false_iff_eq]
    have : T = o + n := by omega
    rw [HK.out, this]
    omega
  have hlb : pages.length ≤ 33 := by omega
  have HA : Hid (Calls (Al.progOf Tryz.prog) 16 #[.slice (some ⟨g, off, none⟩) pages.length pc] w fun e w' => e = .returned (.bool true) ∧ w = w') := by
    have := are_some g off pc pages w hat (by omega)
    rw [ha] at this
    exact this
  have HIp : Hid (Calls (Al.progOf Tryz.prog) 17 #[.int .i64 x] w fun e w' => e = .returned (.bool false) ∧ w = w') := by
    have := isPage_any x w
    rw [decide_eq_false hx] at this
    exact this
  have h2' : (2 : Int) < (pages.length : Int) := by omega
  have HD : Hid (BuildPost w w (.returned (.tuple #[.int .i64 0, .int .i64 0, .iface 54 (.int .i64 2)])) mb hb l pages (o : Nat) (n : Nat)) := BuildPost.no 2 (Below.refl _ _)
  clear h ho h4 hl HK hat ha hx h2
  go_enter Al.func6, Tryz.ntmps6
  go_wp2_with fail
  refine HP.mono ?_
  rintro e w' ⟨rfl, rfl⟩
  go_wp2_with fail
  refine HM.out.mono ?_
  rintro e w' ⟨rfl, rfl⟩
  go_wp2_with fail
  refine HPo.out.mono ?_
  rintro e w' ⟨rfl, rfl⟩
  go_wp2_with fail
  refine HA.out.mono ?_
  rintro e w' ⟨rfl, rfl⟩
  go_wp2_with fail
  refine HIp.out.mono ?_
  rintro e w' ⟨rfl, rfl⟩
  clear HP HM HPo HA HIp
  go_wp2
  go_ret3
  exact HD.out
set_option maxRecDepth 20000 in
set_option maxHeartbeats 3200000 in
theorem build_lieL (mb hb : Nat) (l : List Nat) (x : Int) (g off : Nat) (pc : Nat) (pages : List Int) (o n : Nat) (w : World) (h : 1 ≤ n ∧ n ≤ 2048) (ho : o ≤ 60) (h4 : o % 4 = 0) (hl : pages.length = (o + n + 63) / 64) (hat : ∀ i, i < pages.length → w.cell? ⟨g, off + i, none⟩ = some (.int .i64 (gI pages i))) (ha : areF pages = true) (hm : MW w mb hb l) (hok : ∀ i, i < pages.length → gI pages i ≤ 9223372036854775807) (h2 : 2 < pages.length) (hx : pageA x) (hin : inF l.length pages = false) :
    Calls (Al.progOf Tryz.prog) 6 #[.pointer (some ⟨mb, 0, none⟩), .int .i64 x, .slice (some ⟨g, off, none⟩) pages.length pc, .int .i64 (o : Nat), .int .i64 (n : Nat)] w fun e w' => BuildPost w w' e mb hb l pages (o : Nat) (n : Nat) := by
  have HP := present_any mb w
  have HM : Hid (Calls (Al.progOf Tryz.prog) 14 #[.int .i64 (n : Nat)] w fun e w' => e = .returned (.bool true) ∧ w = w') := by
    have := mayMove_any (n : Nat) w
    rw [decide_eq_true (by omega)] at this
    exact this
  have ho1 : ¬ (o : Int) < 0 := by omega
  have ho2 : ¬ 60 < (o : Int) := by omega
  have h4' : (((o : Nat) : Int) % 4 != 0) = false := by rw [bne_eq_false_iff_eq]; omega
  obtain ⟨T, hT⟩ : ∃ T : Nat, (o : Int) + (n : Int) = (T : Int) := ⟨o + n, by omega⟩
  have HPo : Hid (Calls (Al.progOf Tryz.prog) 15 #[.int .i64 (T : Nat)] w fun e w' => e = .returned (.int .i64 (((T + 63) / 64 : Nat) : Int)) ∧ w = w') := pagesOf_any T w (by omega)
  have hTb : T ≤ 2108 := by omega
  obtain ⟨K, HK⟩ : ∃ K, Hid (K = (T + 63) / 64) := ⟨_, rfl⟩
  rw [← HK.out] at HPo
  have hl' : (((pages.length : Nat) : Int) != ((K : Nat) : Int)) = false := by
    rw [bne_eq_false_iff_eq]
    have : T = o + n := by omega
    rw [HK.out, this]
    omega
  have hlb : pages.length ≤ 33 := by omega
  have HA : Hid (Calls (Al.progOf Tryz.prog) 16 #[.slice (some ⟨g, off, none⟩) pages.length pc] w fun e w' => e = .returned (.bool true) ∧ w = w') := by
    have := are_some g off pc pages w hat (by omega)
    rw [ha] at this
    exact this
  have HIp : Hid (Calls (Al.progOf Tryz.prog) 17 #[.int .i64 x] w fun e w' => e = .returned (.bool true) ∧ w = w') := by
    have := isPage_any x w
    rw [decide_eq_true hx] at this
    exact this
  have h2' : (2 : Int) < (pages.length : Int) := by omega
  have HIn : Hid (Calls (Al.progOf Tryz.prog) 18 #[.pointer (some ⟨mb, 0, none⟩), .slice (some ⟨g, off, none⟩) pages.length pc] w fun e w' => e = .returned (.bool false) ∧ Below w.heap.size w w') := by
    have := in_some mb hb l g off pc pages w hm hat (by omega) hok
    rw [hin] at this
    exact this
  have HDA : Hid (∀ w', Below w.heap.size w w' → BuildPost w w' (.returned (.tuple #[.int .i64 0, .int .i64 0, .iface 54 (.int .i64 1)])) mb hb l pages (o : Nat) (n : Nat)) := fun w' q => BuildPost.no 1 q
  clear h ho h4 hl HK hat ha h2 hm hok hin hx
  go_enter Al.func6, Tryz.ntmps6
  go_wp2_with fail
  refine HP.mono ?_
  rintro e w' ⟨rfl, rfl⟩
  go_wp2_with fail
  refine HM.out.mono ?_
  rintro e w' ⟨rfl, rfl⟩
  go_wp2_with fail
  refine HPo.out.mono ?_
  rintro e w' ⟨rfl, rfl⟩
  go_wp2_with fail
  refine HA.out.mono ?_
  rintro e w' ⟨rfl, rfl⟩
  go_wp2_with fail
  refine HIp.out.mono ?_
  rintro e w' ⟨rfl, rfl⟩
  go_wp2_with fail
  refine HIn.out.mono ?_
  rintro e w2 ⟨rfl, hW⟩
  have HD : Hid _ := HDA.out w2 hW
  clear HP HM HPo HA HIn HDA hW HIp
  go_wp2
  go_ret3
  exact HD.out
set_option maxRecDepth 20000 in
set_option maxHeartbeats 3200000 in
theorem build_lieS (mb hb : Nat) (l : List Nat) (x : Int) (g off : Nat) (pc : Nat) (pages : List Int) (o n : Nat) (w : World) (h : 1 ≤ n ∧ n ≤ 2048) (ho : o ≤ 60) (h4 : o % 4 = 0) (hl : pages.length = (o + n + 63) / 64) (hat : ∀ i, i < pages.length → w.cell? ⟨g, off + i, none⟩ = some (.int .i64 (gI pages i))) (ha : areF pages = true) (hm : MW w mb hb l) (hok : ∀ i, i < pages.length → gI pages i ≤ 9223372036854775807) (h2 : ¬ 2 < pages.length) (hin : inF l.length pages = false) :
    Calls (Al.progOf Tryz.prog) 6 #[.pointer (some ⟨mb, 0, none⟩), .int .i64 x, .slice (some ⟨g, off, none⟩) pages.length pc, .int .i64 (o : Nat), .int .i64 (n : Nat)] w fun e w' => BuildPost w w' e mb hb l pages (o : Nat) (n : Nat) := by
  have HP := present_any mb w
  have HM : Hid (Calls (Al.progOf Tryz.prog) 14 #[.int .i64 (n : Nat)] w fun e w' => e = .returned (.bool true) ∧ w = w') := by
    have := mayMove_any (n : Nat) w
    rw [decide_eq_true (by omega)] at this
    exact this
  have ho1 : ¬ (o : Int) < 0 := by omega
  have ho2 : ¬ 60 < (o : Int) := by omega
  have h4' : (((o : Nat) : Int) % 4 != 0) = false := by rw [bne_eq_false_iff_eq]; omega
  obtain ⟨T, hT⟩ : ∃ T : Nat, (o : Int) + (n : Int) = (T : Int) := ⟨o + n, by omega⟩
  have HPo : Hid (Calls (Al.progOf Tryz.prog) 15 #[.int .i64 (T : Nat)] w fun e w' => e = .returned (.int .i64 (((T + 63) / 64 : Nat) : Int)) ∧ w = w') := pagesOf_any T w (by omega)
  have hTb : T ≤ 2108 := by omega
  obtain ⟨K, HK⟩ : ∃ K, Hid (K = (T + 63) / 64) := ⟨_, rfl⟩
  rw [← HK.out] at HPo
  have hl' : (((pages.length : Nat) : Int) != ((K : Nat) : Int)) = false := by
    rw [bne_eq_false_iff_eq]
    have : T = o + n := by omega
    rw [HK.out, this]
    omega
  have hlb : pages.length ≤ 33 := by omega
  have HA : Hid (Calls (Al.progOf Tryz.prog) 16 #[.slice (some ⟨g, off, none⟩) pages.length pc] w fun e w' => e = .returned (.bool true) ∧ w = w') := by
    have := are_some g off pc pages w hat (by omega)
    rw [ha] at this
    exact this
  have h2' : ¬ (2 : Int) < (pages.length : Int) := by omega
  have HIn : Hid (Calls (Al.progOf Tryz.prog) 18 #[.pointer (some ⟨mb, 0, none⟩), .slice (some ⟨g, off, none⟩) pages.length pc] w fun e w' => e = .returned (.bool false) ∧ Below w.heap.size w w') := by
    have := in_some mb hb l g off pc pages w hm hat (by omega) hok
    rw [hin] at this
    exact this
  have HDA : Hid (∀ w', Below w.heap.size w w' → BuildPost w w' (.returned (.tuple #[.int .i64 0, .int .i64 0, .iface 54 (.int .i64 1)])) mb hb l pages (o : Nat) (n : Nat)) := fun w' q => BuildPost.no 1 q
  clear h ho h4 hl HK hat ha h2 hm hok hin
  go_enter Al.func6, Tryz.ntmps6
  go_wp2_with fail
  refine HP.mono ?_
  rintro e w' ⟨rfl, rfl⟩
  go_wp2_with fail
  refine HM.out.mono ?_
  rintro e w' ⟨rfl, rfl⟩
  go_wp2_with fail
  refine HPo.out.mono ?_
  rintro e w' ⟨rfl, rfl⟩
  go_wp2_with fail
  refine HA.out.mono ?_
  rintro e w' ⟨rfl, rfl⟩
  go_wp2_with fail
  refine HIn.out.mono ?_
  rintro e w2 ⟨rfl, hW⟩
  have HD : Hid _ := HDA.out w2 hW
  clear HP HM HPo HA HIn HDA hW
  go_wp2
  go_ret3
  exact HD.out
set_option maxRecDepth 20000 in
set_option maxHeartbeats 3200000 in
theorem build_one (mb hb : Nat) (l : List Nat) (x : Int) (g off : Nat) (pc : Nat) (pages : List Int) (o n : Nat) (w : World) (h : 1 ≤ n ∧ n ≤ 2048) (ho : o ≤ 60) (h4 : o % 4 = 0) (hl : pages.length = (o + n + 63) / 64) (hat : ∀ i, i < pages.length → w.cell? ⟨g, off + i, none⟩ = some (.int .i64 (gI pages i))) (ha : areF pages = true) (hm : MW w mb hb l) (hok : ∀ i, i < pages.length → gI pages i ≤ 9223372036854775807) (hin : inF l.length pages = true) (Q : List Nat) (hQ : pages = Q.map Int.ofNat) (hQp : ∀ p ∈ Q, p % 64 = 0 ∧ p + 64 ≤ l.length) (h1 : pages.length = 1) :
    Calls (Al.progOf Tryz.prog) 6 #[.pointer (some ⟨mb, 0, none⟩), .int .i64 x, .slice (some ⟨g, off, none⟩) pages.length pc, .int .i64 (o : Nat), .int .i64 (n : Nat)] w fun e w' => BuildPost w w' e mb hb l pages (o : Nat) (n : Nat) := by
  have hQl : Q.length = pages.length := by rw [hQ, List.length_map]
  have hlp := hm.long
  have HP := present_any mb w
  have HM : Hid (Calls (Al.progOf Tryz.prog) 14 #[.int .i64 (n : Nat)] w fun e w' => e = .returned (.bool true) ∧ w = w') := by
    have := mayMove_any (n : Nat) w
    rw [decide_eq_true (by omega)] at this
    exact this
  have ho1 : ¬ (o : Int) < 0 := by omega
  have ho2 : ¬ 60 < (o : Int) := by omega
  have h4' : (((o : Nat) : Int) % 4 != 0) = false := by rw [bne_eq_false_iff_eq]; omega
  obtain ⟨T, hT⟩ : ∃ T : Nat, (o : Int) + (n : Int) = (T : Int) := ⟨o + n, by omega⟩
  have HPo : Hid (Calls (Al.progOf Tryz.prog) 15 #[.int .i64 (T : Nat)] w fun e w' => e = .returned (.int .i64 (((T + 63) / 64 : Nat) : Int)) ∧ w = w') := pagesOf_any T w (by omega)
  have hTb : T ≤ 2108 := by omega
  obtain ⟨K, HK⟩ : ∃ K, Hid (K = (T + 63) / 64) := ⟨_, rfl⟩
  rw [← HK.out] at HPo
  have hl' : (((pages.length : Nat) : Int) != ((K : Nat) : Int)) = false := by
    rw [bne_eq_false_iff_eq]
    have : T = o + n := by omega
    rw [HK.out, this]
    omega
  have hlb : pages.length ≤ 33 := by omega
  have HA : Hid (Calls (Al.progOf Tryz.prog) 16 #[.slice (some ⟨g, off, none⟩) pages.length pc] w fun e w' => e = .returned (.bool true) ∧ w = w') := by
    have := are_some g off pc pages w hat (by omega)
    rw [ha] at this
    exact this
  have HIn : Hid (Calls (Al.progOf Tryz.prog) 18 #[.pointer (some ⟨mb, 0, none⟩), .slice (some ⟨g, off, none⟩) pages.length pc] w fun e w' => e = .returned (.bool true) ∧ Below w.heap.size w w') := by
    have := in_some mb hb l g off pc pages w hm hat (by omega) hok
    rw [hin] at this
    exact this
  have c0 : ∀ w', Below w.heap.size w w' → w'.cell? ⟨g, off + 0, none⟩ = some (.int .i64 ((Q[0]?.getD 0 : Nat) : Int)) := fun w' hb' => by
    have h1 := hat 0 (by omega)
    rw [hQ, gI_map Q (by omega)] at h1
    exact (hb'.cell (p := ⟨g, off + 0, none⟩) (World.block_lt_of_cell? w _ h1)).trans h1
  have HC0 : Hid (∀ w', Below w.heap.size w w' → w'.cell? ⟨g, off + 0, none⟩ = some (.int .i64 ((Q[0]?.getD 0 : Nat) : Int))) := c0
  clear c0
  have hq0 : Q[0]?.getD 0 + 64 ≤ l.length := by
    rw [List.getElem?_eq_getElem (by omega)]
    exact (hQp _ (List.getElem_mem _)).2
  have HDO : Hid (∀ w', Below w.heap.size w w' → BuildPost w w' (.returned (.tuple #[.int .i64 ((Q[0]?.getD 0 + o : Nat) : Int), .int .i64 0, .nilIface])) mb hb l pages (o : Nat) (n : Nat)) := fun w' q => .inr ⟨_, _, l, rfl, ⟨Q, o, n, hQ, rfl, rfl, ⟨h.1, h.2, ho, h4⟩, by rw [hQl]; exact hl, hQp, rfl, (.inl ⟨by omega, rfl, rfl⟩)⟩, hm.below q, Keep.of_below q⟩
  have h2' : ¬ (2 : Int) < (pages.length : Int) := by omega
  have h1' : (((pages.length : Nat) : Int) == 1) = true := by rw [beq_iff_eq]; omega
  have k1 : (0 : Int) < (pages.length : Int) := by omega
  clear h h4 hl HK hat ha hm hok hin hQp hQ hQl h1 hlb
  generalize Q[0]?.getD 0 = q0 at *
  go_enter Al.func6, Tryz.ntmps6
  go_wp2_with fail
  refine HP.mono ?_
  rintro e w' ⟨rfl, rfl⟩
  go_wp2_with fail
  refine HM.out.mono ?_
  rintro e w' ⟨rfl, rfl⟩
  go_wp2_with fail
  refine HPo.out.mono ?_
  rintro e w' ⟨rfl, rfl⟩
  go_wp2_with fail
  refine HA.out.mono ?_
  rintro e w' ⟨rfl, rfl⟩
  go_wp2_with fail
  refine HIn.out.mono ?_
  rintro e w2 ⟨rfl, hW⟩
  have c0 := HC0.out w2 hW
  have HD := HDO.out w2 hW
  rw [Nat.add_zero] at c0
  clear HP HM HPo HA HIn HDO hW HC0
  go_wp2
  go_ret3
  rw [Int.natCast_add] at HD
  exact HD
set_option maxRecDepth 20000 in
set_option maxHeartbeats 3200000 in
theorem build_two (mb hb : Nat) (l : List Nat) (x : Int) (g off : Nat) (pc : Nat) (pages : List Int) (o n : Nat) (w : World) (h : 1 ≤ n ∧ n ≤ 2048) (ho : o ≤ 60) (h4 : o % 4 = 0) (hl : pages.length = (o + n + 63) / 64) (hat : ∀ i, i < pages.length → w.cell? ⟨g, off + i, none⟩ = some (.int .i64 (gI pages i))) (ha : areF pages = true) (hm : MW w mb hb l) (hok : ∀ i, i < pages.length → gI pages i ≤ 9223372036854775807) (hin : inF l.length pages = true) (Q : List Nat) (hQ : pages = Q.map Int.ofNat) (hQp : ∀ p ∈ Q, p % 64 = 0 ∧ p + 64 ≤ l.length) (h1 : pages.length = 2) :
    Calls (Al.progOf Tryz.prog) 6 #[.pointer (some ⟨mb, 0, none⟩), .int .i64 x, .slice (some ⟨g, off, none⟩) pages.length pc, .int .i64 (o : Nat), .int .i64 (n : Nat)] w fun e w' => BuildPost w w' e mb hb l pages (o : Nat) (n : Nat) := by
  have hQl : Q.length = pages.length := by rw [hQ, List.length_map]
  have hlp := hm.long
  have HP := present_any mb w
  have HM : Hid (Calls (Al.progOf Tryz.prog) 14 #[.int .i64 (n : Nat)] w fun e w' => e = .returned (.bool true) ∧ w = w') := by
    have := mayMove_any (n : Nat) w
    rw [decide_eq_true (by omega)] at this
    exact this
  have ho1 : ¬ (o : Int) < 0 := by omega
  have ho2 : ¬ 60 < (o : Int) := by omega
  have h4' : (((o : Nat) : Int) % 4 != 0) = false := by rw [bne_eq_false_iff_eq]; omega
  obtain ⟨T, hT⟩ : ∃ T : Nat, (o : Int) + (n : Int) = (T : Int) := ⟨o + n, by omega⟩
  have HPo : Hid (Calls (Al.progOf Tryz.prog) 15 #[.int .i64 (T : Nat)] w fun e w' => e = .returned (.int .i64 (((T + 63) / 64 : Nat) : Int)) ∧ w = w') := pagesOf_any T w (by omega)
  have hTb : T ≤ 2108 := by omega
  obtain ⟨K, HK⟩ : ∃ K, Hid (K = (T + 63) / 64) := ⟨_, rfl⟩
  rw [← HK.out] at HPo
  have hl' : (((pages.length : Nat) : Int) != ((K : Nat) : Int)) = false := by
    rw [bne_eq_false_iff_eq]
    have : T = o + n := by omega
    rw [HK.out, this]
    omega
  have hlb : pages.length ≤ 33 := by omega
  have HA : Hid (Calls (Al.progOf Tryz.prog) 16 #[.slice (some ⟨g, off, none⟩) pages.length pc] w fun e w' => e = .returned (.bool true) ∧ w = w') := by
    have := are_some g off pc pages w hat (by omega)
    rw [ha] at this
    exact this
  have HIn : Hid (Calls (Al.progOf Tryz.prog) 18 #[.pointer (some ⟨mb, 0, none⟩), .slice (some ⟨g, off, none⟩) pages.length pc] w fun e w' => e = .returned (.bool true) ∧ Below w.heap.size w w') := by
    have := in_some mb hb l g off pc pages w hm hat (by omega) hok
    rw [hin] at this
    exact this
  have c0 : ∀ w', Below w.heap.size w w' → w'.cell? ⟨g, off + 0, none⟩ = some (.int .i64 ((Q[0]?.getD 0 : Nat) : Int)) := fun w' hb' => by
    have h1 := hat 0 (by omega)
    rw [hQ, gI_map Q (by omega)] at h1
    exact (hb'.cell (p := ⟨g, off + 0, none⟩) (World.block_lt_of_cell? w _ h1)).trans h1
  have HC0 : Hid (∀ w', Below w.heap.size w w' → w'.cell? ⟨g, off + 0, none⟩ = some (.int .i64 ((Q[0]?.getD 0 : Nat) : Int))) := c0
  clear c0
  have c1 : ∀ w', Below w.heap.size w w' → w'.cell? ⟨g, off + 1, none⟩ = some (.int .i64 ((Q[1]?.getD 0 : Nat) : Int)) := fun w' hb' => by
    have h1 := hat 1 (by omega)
    rw [hQ, gI_map Q (by omega)] at h1
    exact (hb'.cell (p := ⟨g, off + 1, none⟩) (World.block_lt_of_cell? w _ h1)).trans h1
  have HC1 : Hid (∀ w', Below w.heap.size w w' → w'.cell? ⟨g, off + 1, none⟩ = some (.int .i64 ((Q[1]?.getD 0 : Nat) : Int))) := c1
  clear c1
  have hq0 : Q[0]?.getD 0 + 64 ≤ l.length := by
    rw [List.getElem?_eq_getElem (by omega)]
    exact (hQp _ (List.getElem_mem _)).2
  have HDO : Hid (∀ w', Below w.heap.size w w' → BuildPost w w' (.returned (.tuple #[.int .i64 ((Q[0]?.getD 0 + o : Nat) : Int), .int .i64 ((Q[1]?.getD 0 : Nat) : Int), .nilIface])) mb hb l pages (o : Nat) (n : Nat)) := fun w' q => .inr ⟨_, _, l, rfl, ⟨Q, o, n, hQ, rfl, rfl, ⟨h.1, h.2, ho, h4⟩, by rw [hQl]; exact hl, hQp, rfl, (.inr (.inl ⟨by omega, rfl, rfl⟩))⟩, hm.below q, Keep.of_below q⟩
  have h2' : ¬ (2 : Int) < (pages.length : Int) := by omega
  have h1' : (((pages.length : Nat) : Int) == 1) = false := by rw [beq_eq_false_iff_ne]; omega
  have k1 : (0 : Int) < (pages.length : Int) := by omega
  have k2 : (1 : Int) < (pages.length : Int) := by omega
  clear h h4 hl HK hat ha hm hok hin hQp hQ hQl h1 hlb
  generalize Q[0]?.getD 0 = q0 at *
  generalize Q[1]?.getD 0 = q1 at *
  go_enter Al.func6, Tryz.ntmps6
  go_wp2_with fail
  refine HP.mono ?_
  rintro e w' ⟨rfl, rfl⟩
  go_wp2_with fail
  refine HM.out.mono ?_
  rintro e w' ⟨rfl, rfl⟩
  go_wp2_with fail
  refine HPo.out.mono ?_
  rintro e w' ⟨rfl, rfl⟩
  go_wp2_with fail
  refine HA.out.mono ?_
  rintro e w' ⟨rfl, rfl⟩
  go_wp2_with fail
  refine HIn.out.mono ?_
  rintro e w2 ⟨rfl, hW⟩
  have c0 := HC0.out w2 hW
  have c1 := HC1.out w2 hW
  have HD : Hid (∀ m, BuildPost w (w2.drewN m) (.returned (.tuple #[.int .i64 ((q0 + o : Nat) : Int), .int .i64 (q1 : Nat), .nilIface])) mb hb l pages (o : Nat) (n : Nat)) := fun m => HDO.out _ (below_drewN hW m)
  rw [Nat.add_zero] at c0
  clear HP HM HPo HA HIn HDO hW HC0 HC1
  go_wp2
  go_quiet (fail)
  go_wp2
  go_ret3
  have HD2 := HD.out nq
  rw [Int.natCast_add] at HD2
  exact HD2
set_option maxRecDepth 20000 in
set_option maxHeartbeats 3200000 in
theorem build_list (mb hb : Nat) (l : List Nat) (x : Int) (g off : Nat) (pc : Nat) (pages : List Int) (o n : Nat) (w : World) (h : 1 ≤ n ∧ n ≤ 2048) (ho : o ≤ 60) (h4 : o % 4 = 0) (hl : pages.length = (o + n + 63) / 64) (hat : ∀ i, i < pages.length → w.cell? ⟨g, off + i, none⟩ = some (.int .i64 (gI pages i))) (ha : areF pages = true) (hm : MW w mb hb l) (hok : ∀ i, i < pages.length → gI pages i ≤ 9223372036854775807) (hin : inF l.length pages = true) (Q : List Nat) (hQ : pages = Q.map Int.ofNat) (hQp : ∀ p ∈ Q, p % 64 = 0 ∧ p + 64 ≤ l.length) (h2 : 2 < pages.length) (hx : pageA x) (hxb : x ≤ 9223372036854775807) (hpc : pages.length ≤ pc) :
    Calls (Al.progOf Tryz.prog) 6 #[.pointer (some ⟨mb, 0, none⟩), .int .i64 x, .slice (some ⟨g, off, none⟩) pages.length pc, .int .i64 (o : Nat), .int .i64 (n : Nat)] w fun e w' => BuildPost w w' e mb hb l pages (o : Nat) (n : Nat) := by
  have hQl : Q.length = pages.length := by rw [hQ, List.length_map]
  have hlp := hm.long
  have HP := present_any mb w
  have HM : Hid (Calls (Al.progOf Tryz.prog) 14 #[.int .i64 (n : Nat)] w fun e w' => e = .returned (.bool true) ∧ w = w') := by
    have := mayMove_any (n : Nat) w
    rw [decide_eq_true (by omega)] at this
    exact this
  have ho1 : ¬ (o : Int) < 0 := by omega
  have ho2 : ¬ 60 < (o : Int) := by omega
  have h4' : (((o : Nat) : Int) % 4 != 0) = false := by rw [bne_eq_false_iff_eq]; omega
  obtain ⟨T, hT⟩ : ∃ T : Nat, (o : Int) + (n : Int) = (T : Int) := ⟨o + n, by omega⟩
  have HPo : Hid (Calls (Al.progOf Tryz.prog) 15 #[.int .i64 (T : Nat)] w fun e w' => e = .returned (.int .i64 (((T + 63) / 64 : Nat) : Int)) ∧ w = w') := pagesOf_any T w (by omega)
  have hTb : T ≤ 2108 := by omega
  obtain ⟨K, HK⟩ : ∃ K, Hid (K = (T + 63) / 64) := ⟨_, rfl⟩
  rw [← HK.out] at HPo
  have hl' : (((pages.length : Nat) : Int) != ((K : Nat) : Int)) = false := by
    rw [bne_eq_false_iff_eq]
    have : T = o + n := by omega
    rw [HK.out, this]
    omega
  have hlb : pages.length ≤ 33 := by omega
  have HA : Hid (Calls (Al.progOf Tryz.prog) 16 #[.slice (some ⟨g, off, none⟩) pages.length pc] w fun e w' => e = .returned (.bool true) ∧ w = w') := by
    have := are_some g off pc pages w hat (by omega)
    rw [ha] at this
    exact this
  have HIp : Hid (Calls (Al.progOf Tryz.prog) 17 #[.int .i64 x] w fun e w' => e = .returned (.bool true) ∧ w = w') := by
    have := isPage_any x w
    rw [decide_eq_true hx] at this
    exact this
  have HIn : Hid (Calls (Al.progOf Tryz.prog) 18 #[.pointer (some ⟨mb, 0, none⟩), .slice (some ⟨g, off, none⟩) pages.length pc] w fun e w' => e = .returned (.bool true) ∧ Below w.heap.size w w') := by
    have := in_some mb hb l g off pc pages w hm hat (by omega) hok
    rw [hin] at this
    exact this
  have c0 : ∀ w', Below w.heap.size w w' → w'.cell? ⟨g, off + 0, none⟩ = some (.int .i64 ((Q[0]?.getD 0 : Nat) : Int)) := fun w' hb' => by
    have h1 := hat 0 (by omega)
    rw [hQ, gI_map Q (by omega)] at h1
    exact (hb'.cell (p := ⟨g, off + 0, none⟩) (World.block_lt_of_cell? w _ h1)).trans h1
  have HC0 : Hid (∀ w', Below w.heap.size w w' → w'.cell? ⟨g, off + 0, none⟩ = some (.int .i64 ((Q[0]?.getD 0 : Nat) : Int))) := c0
  clear c0
  have hq0 : Q[0]?.getD 0 + 64 ≤ l.length := by
    rw [List.getElem?_eq_getElem (by omega)]
    exact (hQp _ (List.getElem_mem _)).2
  have h2' : (2 : Int) < (pages.length : Int) := by omega
  have h1' : (((pages.length : Nat) : Int) == 1) = false := by rw [beq_eq_false_iff_ne]; omega
  have k1 : (0 : Int) < (pages.length : Int) := by omega
  have hs1 : ∀ wz, (Instr.slice 22 (.slice (some ⟨g, off, none⟩) pages.length pc) (some (.int .i64 1)) none none).run (Al.progOf Tryz.prog) wz = .ok (.slice (dropA (some ⟨g, off, none⟩) pc 1) (pages.length - 1) (pc - 1)) wz := fun wz => sliceI_from (some ⟨g, off, none⟩) pages.length pc 1 (by omega) hpc wz
  have hdl : (pages.drop 1).length = pages.length - 1 := List.length_drop
  have hnilp : dropA (some ⟨g, off, none⟩) pc 1 = none → pc - 1 = 0 := fun e => by
    unfold dropA at e
    split at e <;> cases e
  have HW : Hid (∀ w2, Below w.heap.size w w2 → Calls (Al.progOf Tryz.prog) 19 #[.pointer (some ⟨mb, 0, none⟩), .int .i64 x, .slice (dropA (some ⟨g, off, none⟩) pc 1) (pages.length - 1) (pc - 1)] w2 fun e w' => (e = .returned (.iface 54 (.int .i64 1)) ∧ BuildPost w w' (.returned (.tuple #[.int .i64 0, .int .i64 0, .iface 54 (.int .i64 1)])) mb hb l pages (o : Nat) (n : Nat)) ∨ (e = .returned .nilIface ∧ BuildPost w w' (.returned (.tuple #[.int .i64 ((Q[0]?.getD 0 + o : Nat) : Int), .int .i64 x, .nilIface])) mb hb l pages (o : Nat) (n : Nat))) := fun w2 hb2 => by
    have hIL : IL w2 (dropA (some ⟨g, off, none⟩) pc 1) (pages.drop 1) := (IL.below (w := w) (.inr ⟨g, off, rfl, hat⟩) hb2).drop 1 hpc
    obtain ⟨A, rfl⟩ := Int.eq_ofNat_of_zero_le hx.1
    have hbd : (1 : Nat) < Q.length := by omega
    have hlB := lstB_len (Q.drop 1) A
    rw [List.length_drop] at hlB
    by_cases hA : A ≤ 1000000
    · have hNB : lstW 1000 (A : Nat) (pages.drop 1) = (lstB A (Q.drop 1)).map Int.ofNat := by
        rw [hQ, ← List.map_drop]
        exact lstW_eq 1000 A (Q.drop 1) (by rw [List.length_drop]; omega) (by have := hx.2; omega) (by omega)
      by_cases hf : A + 8 * (lstB A (Q.drop 1)).length ≤ l.length
      · have hle : ∀ i, i < (lstB A (Q.drop 1)).length → (lstB A (Q.drop 1))[i]?.getD 0 ≤ 4611686018427387904 := fun i hi => by
          have := lstB_le 16384 (Q.drop 1) A (fun p hp => by have := (hQp p (List.mem_of_mem_drop hp)).2; omega) i hi
          omega
        have := writeList_yes mb hb l A (dropA (some ⟨g, off, none⟩) pc 1) (pc - 1) (pages.drop 1) (lstB A (Q.drop 1)) w2 (hm.below hb2) hIL (by rw [hdl]; omega) hnilp (by rw [hdl]; omega) hNB hle hf
        rw [hdl] at this
        refine this.mono ?_
        rintro e w' ⟨q1, q2, q3⟩
        refine .inr ⟨q1, .inr ⟨_, _, layN l A (lstB A (Q.drop 1)), rfl, ⟨Q, o, n, hQ, rfl, rfl, ⟨h.1, h.2, ho, h4⟩, by rw [hQl]; exact hl, hQp, rfl, (.inr (.inr ⟨by omega, A, rfl, by have := hx.2; omega, rfl, hf⟩))⟩, q2, (Keep.of_below hb2).trans q3⟩⟩
      · have := writeList_no mb hb l (A : Nat) (dropA (some ⟨g, off, none⟩) pc 1) (pc - 1) (pages.drop 1) w2 (hm.below hb2) hIL (by rw [hdl]; omega) hnilp (by rw [hdl]; omega) (by omega) (by
          rw [hNB, List.length_map]
          intro c
          unfold fits at c
          omega)
        rw [hdl] at this
        refine this.mono ?_
        rintro e w' ⟨q1, q2⟩
        exact .inl ⟨q1, BuildPost.no 1 (hb2.trans (q2.mono hb2.size))⟩
    · have := writeList_no mb hb l (A : Nat) (dropA (some ⟨g, off, none⟩) pc 1) (pc - 1) (pages.drop 1) w2 (hm.below hb2) hIL (by rw [hdl]; omega) hnilp (by rw [hdl]; omega) hxb (by
        intro c
        unfold fits at c
        omega)
      rw [hdl] at this
      refine this.mono ?_
      rintro e w' ⟨q1, q2⟩
      exact .inl ⟨q1, BuildPost.no 1 (hb2.trans (q2.mono hb2.size))⟩
  clear h h4 hl HK hat ha hm hok hin hQp hQ hQl hx hdl hnilp hpc h2
  generalize Q[0]?.getD 0 = q0 at *
  generalize dropA (some ⟨g, off, none⟩) pc 1 = da at *
  go_enter Al.func6, Tryz.ntmps6
  go_wp2_with fail
  refine HP.mono ?_
  rintro e w' ⟨rfl, rfl⟩
  go_wp2_with fail
  refine HM.out.mono ?_
  rintro e w' ⟨rfl, rfl⟩
  go_wp2_with fail
  refine HPo.out.mono ?_
  rintro e w' ⟨rfl, rfl⟩
  go_wp2_with fail
  refine HA.out.mono ?_
  rintro e w' ⟨rfl, rfl⟩
  go_wp2_with fail
  refine HIp.out.mono ?_
  rintro e w' ⟨rfl, rfl⟩
  go_wp2_with fail
  refine HIn.out.mono ?_
  rintro e w2 ⟨rfl, hW⟩
  have c0 := HC0.out w2 hW
  have HW2 := HW.out w2 hW
  rw [Nat.add_zero] at c0
  clear HP HM HPo HA HIn hW HC0 HIp HW
  go_wp2_with fail
  refine HW2.mono ?_
  rintro e w3 (⟨rfl, HD⟩ | ⟨rfl, HD⟩)
  · have HD' : Hid _ := HD
    clear HW2 HD
    go_wp2
    go_ret3
    exact HD'.out
  · have HD' : Hid _ := HD
    clear HW2 HD
    go_wp2
    go_ret3
    have HD2 := HD'.out
    rw [Int.natCast_add] at HD2
    exact HD2
theorem build_any (mb hb : Nat) (l : List Nat) (x : Int) (pa : Option Addr) (pc : Nat) (pages : List Int) (offset long : Int) (w : World) (hm : MW w mb hb l) (hI : IL w pa pages) (hpc : pages.length ≤ pc) (hok : ∀ i, i < pages.length → gI pages i ≤ 9223372036854775807) (hxb : x ≤ 9223372036854775807) :
    Calls (Al.progOf Tryz.prog) 6 #[.pointer (some ⟨mb, 0, none⟩), .int .i64 x, .slice pa pages.length pc, .int .i64 offset, .int .i64 long] w fun e w' => BuildPost w w' e mb hb l pages offset long := by
  by_cases h1 : 1 ≤ long ∧ long ≤ 2048
  · by_cases h2 : offset < 0
    · exact build_offN mb hb l x pa pc pages offset long w h1 h2
    by_cases h3 : 60 < offset
    · exact build_offB mb hb l x pa pc pages offset long w h1 h3
    obtain ⟨o, rfl⟩ := Int.eq_ofNat_of_zero_le (show 0 ≤ offset by omega)
    obtain ⟨n, rfl⟩ := Int.eq_ofNat_of_zero_le (show 0 ≤ long by omega)
    have hn : 1 ≤ n ∧ n ≤ 2048 := by omega
    have ho : o ≤ 60 := by omega
    by_cases h4 : o % 4 = 0
    · by_cases h5 : pages.length = (o + n + 63) / 64
      · obtain ⟨g, off, rfl, hat⟩ := hI.some_of (show 0 < pages.length by omega)
        cases h6 : areF pages with
        | false => exact build_page mb hb l x g off pc pages o n w hn ho h4 h5 hat h6
        | true =>
          by_cases h7 : 2 < pages.length
          · by_cases h8 : pageA x
            · cases h9 : inF l.length pages with
              | false => exact build_lieL mb hb l x g off pc pages o n w hn ho h4 h5 hat h6 hm hok h7 h8 h9
              | true =>
                obtain ⟨Q, hQ⟩ := nats_of (L := pages) (fun k hk => (areF_at h6 k hk).1)
                have hQp : ∀ p ∈ Q, p % 64 = 0 ∧ p + 64 ≤ l.length := fun p hp => by
                  obtain ⟨k, hk, e⟩ := mem_gI hp
                  have hk' : k < pages.length := by rw [hQ, List.length_map]; exact hk
                  have q1 := (areF_at h6 k hk').2
                  have q2 := (inF_at h9 k hk').2.2
                  rw [hQ, e] at q1 q2
                  omega
                exact build_list mb hb l x g off pc pages o n w hn ho h4 h5 hat h6 hm hok h9 Q hQ hQp h7 h8 hxb hpc
            · exact build_at mb hb l x g off pc pages o n w hn ho h4 h5 hat h6 h7 h8
          · cases h9 : inF l.length pages with
            | false => exact build_lieS mb hb l x g off pc pages o n w hn ho h4 h5 hat h6 hm hok h7 h9
            | true =>
              obtain ⟨Q, hQ⟩ := nats_of (L := pages) (fun k hk => (areF_at h6 k hk).1)
              have hQp : ∀ p ∈ Q, p % 64 = 0 ∧ p + 64 ≤ l.length := fun p hp => by
                obtain ⟨k, hk, e⟩ := mem_gI hp
                have hk' : k < pages.length := by rw [hQ, List.length_map]; exact hk
                have q1 := (areF_at h6 k hk').2
                have q2 := (inF_at h9 k hk').2.2
                rw [hQ, e] at q1 q2
                omega
              by_cases h10 : pages.length = 1
              · exact build_one mb hb l x g off pc pages o n w hn ho h4 h5 hat h6 hm hok h9 Q hQ hQp h10
              · exact build_two mb hb l x g off pc pages o n w hn ho h4 h5 hat h6 hm hok h9 Q hQ hQp (by omega)
      · exact build_many mb hb l x pa pc pages o n w hn ho h4 h5
    · exact build_four mb hb l x pa pc pages o n w hn ho h4
  · exact build_long mb hb l x pa pc pages offset long w h1
end Go.Proofs.YtpfknjpiknpiaaaGreatDoorQL

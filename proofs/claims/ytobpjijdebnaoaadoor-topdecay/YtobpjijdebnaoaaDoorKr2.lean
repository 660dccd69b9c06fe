/- Part of the proof. -/
import Derived.Test.YtobpjijdebnaoaaDoorKr1
import Derived.Test.YtobpjijdebnaoaaDoorProg
import Derived.Test.YtobpjijdebnaoaaDoorWgLink
import Derived.Conc.WgGenN3
namespace Go.Proofs.YtobpjijdebnaoaaDoor
open Go Go.Conc
open Go.ConcN (WgLive Has AtR0 RW)
open Go.ConcR (KK wgBlock WgAt stA smA rd wr Payload DC0)
/-- The places of one call of look. -/
structure Lk where
  b2 : Nat
  b6 : Nat
  b7 : Nat
  bc : Nat
  b8 : Nat
  pa : Option Addr
  len : Nat
  pc : Nat
  n : Nat
  m0 : Nat
  w0 : World
  Fz : Nat → Prop
  st : Nat → Nat
  kd : Nat → Nat
  lb : Nat → Nat
  sq : Nat → Nat
  cs : List Frame
  ha : Nat → Option Addr
  hl : Nat → Nat
  hc : Nat → Nat
def Lk.pages (y : Lk) : Value := .slice y.pa y.len y.pc
def Lk.sight (y : Lk) (i : Nat) : Value := .agg #[.int .i64 (y.st i : Nat), .int .i64 (y.lb i : Nat), .int .i64 (i : Nat), .int .i64 (y.sq i : Nat), .int .i64 (y.kd i : Nat)]
def ptr (b : Nat) : Value := .pointer (some ⟨b, 0, none⟩)
/-- A worker as it is started. -/
def kid (P : Program) (y : Lk) : Goroutine := { frame := { (default : Frame) with fn := P.funcs.size, defers := [{ target := .fn (.func 39) #[ptr y.b7, ptr y.b2, ptr y.b6, ptr y.b8], args := #[] }], mode := .panicking [goexitEntry] }, callers := [], status := .running, dying := none }
def kid1 (P : Program) (y : Lk) : Goroutine := go1 P (nxN P false 6 (kid P y)) (.value y.pages)
def kid2 (P : Program) (y : Lk) : Goroutine := go1 P (kid1 P y) (.value (.chan (some y.bc)))
/-- Who waits below 'work'. -/
def below (P : Program) (y : Lk) : List Frame := (kid2 P y).frame :: (kid2 P y).callers
def T35 (v0 v1 v2 : Value) (t : Nat → Value) : Array Value := #[v0, v1, v2, t 3, t 4, t 5, t 6, t 7, t 8, t 9, t 10, t 11, t 12, t 13, t 14, t 15, t 16, t 17, t 18, t 19, t 20, t 21, t 22, t 23, t 24, t 25, t 26, t 27, t 28, t 29, t 30, t 31, t 32, t 33, t 34]
theorem arr35 (T : Array Value) (h : T.size = 35) : ∃ v0 v1 v2 t, T = T35 v0 v1 v2 t := by
  obtain ⟨l⟩ := T
  rcases l with _ | ⟨a0, l⟩
  · simp at h
  rcases l with _ | ⟨a1, l⟩
  · simp at h
  rcases l with _ | ⟨a2, l⟩
  · simp at h
  rcases l with _ | ⟨a3, l⟩
  · simp at h
  rcases l with _ | ⟨a4, l⟩
  · simp at h
  rcases l with _ | ⟨a5, l⟩
  · simp at h
  rcases l with _ | ⟨a6, l⟩
  · simp at h
  rcases l with _ | ⟨a7, l⟩
  · simp at h
  rcases l with _ | ⟨a8, l⟩
  · simp at h
  rcases l with _ | ⟨a9, l⟩
  · simp at h
  rcases l with _ | ⟨a10, l⟩
  · simp at h
  rcases l with _ | ⟨a11, l⟩
  · simp at h
  rcases l with _ | ⟨a12, l⟩
  · simp at h
  rcases l with _ | ⟨a13, l⟩
  · simp at h
  rcases l with _ | ⟨a14, l⟩
  · simp at h
  rcases l with _ | ⟨a15, l⟩
  · simp at h
  rcases l with _ | ⟨a16, l⟩
  · simp at h
  rcases l with _ | ⟨a17, l⟩
  · simp at h
  rcases l with _ | ⟨a18, l⟩
  · simp at h
  rcases l with _ | ⟨a19, l⟩
  · simp at h
  rcases l with _ | ⟨a20, l⟩
  · simp at h
  rcases l with _ | ⟨a21, l⟩
  · simp at h
  rcases l with _ | ⟨a22, l⟩
  · simp at h
  rcases l with _ | ⟨a23, l⟩
  · simp at h
  rcases l with _ | ⟨a24, l⟩
  · simp at h
  rcases l with _ | ⟨a25, l⟩
  · simp at h
  rcases l with _ | ⟨a26, l⟩
  · simp at h
  rcases l with _ | ⟨a27, l⟩
  · simp at h
  rcases l with _ | ⟨a28, l⟩
  · simp at h
  rcases l with _ | ⟨a29, l⟩
  · simp at h
  rcases l with _ | ⟨a30, l⟩
  · simp at h
  rcases l with _ | ⟨a31, l⟩
  · simp at h
  rcases l with _ | ⟨a32, l⟩
  · simp at h
  rcases l with _ | ⟨a33, l⟩
  · simp at h
  rcases l with _ | ⟨a34, l⟩
  · simp at h
  rcases l with _ | ⟨_, l⟩
  · exact ⟨a0, a1, a2, fun i => (#[a0, a1, a2, a3, a4, a5, a6, a7, a8, a9, a10, a11, a12, a13, a14, a15, a16, a17, a18, a19, a20, a21, a22, a23, a24, a25, a26, a27, a28, a29, a30, a31, a32, a33, a34] : Array Value).getD i undef, rfl⟩
  · simp at h
/-- At the head of work's loop. -/
def wHead (P : Program) (y : Lk) (T : Array Value) : Goroutine := nxN P false 2 (atC P 41 0 T (below P y))
def wT (y : Lk) (t : Nat → Value) : Array Value := T35 y.pages (ptr y.b6) (.chan (some y.bc)) t
/-! ### silent stretches -/
theorem pur_kid (y : Lk) : Pur Tryd.prog false 6 (kid Tryd.prog y) := by
  iterate 6 (refine Pur.step (by kernel_rfl) (fun w => by kernel_rfl) ?_)
  exact Pur.nil
theorem ask_kid1 (y : Lk) : Asks Tryd.prog false (nxN Tryd.prog false 6 (kid Tryd.prog y)) [{ v := y.pages }] (.value y.pages) [{ k := 0, ad := ⟨y.b2, 0, none⟩, v := y.pages }] #[⟨.cell ⟨y.b2, 0, none⟩, false, false⟩] := ⟨by kernel_rfl, by kernel_rfl, fun w => by kernel_rfl, by kernel_rfl, by kernel_rfl, by kernel_rfl, by kernel_rfl⟩
theorem ask_kid2 (y : Lk) : Asks Tryd.prog false (kid1 Tryd.prog y) [{ v := .chan (some y.bc) }] (.value (.chan (some y.bc))) [{ k := 0, ad := ⟨y.b8, 0, none⟩, v := .chan (some y.bc) }] #[⟨.cell ⟨y.b8, 0, none⟩, false, false⟩] := ⟨by kernel_rfl, by kernel_rfl, fun w => by kernel_rfl, by kernel_rfl, by kernel_rfl, by kernel_rfl, by kernel_rfl⟩
theorem pur_kid2 (y : Lk) : Pur Tryd.prog false 3 (kid2 Tryd.prog y) := by
  iterate 3 (refine Pur.step (by kernel_rfl) (fun w => by kernel_rfl) ?_)
  exact Pur.nil
theorem kid2_head (y : Lk) : nxN Tryd.prog false 3 (kid2 Tryd.prog y) = wHead Tryd.prog y (wT y fun _ => undef) := by kernel_rfl
theorem pur_head (y : Lk) (t : Nat → Value) : Pur Tryd.prog false 15 (wHead Tryd.prog y (wT y t)) := by
  iterate 15 (refine Pur.step (by kernel_rfl) (fun w => by kernel_rfl) ?_)
  exact Pur.nil
def g1 (P : Program) (y : Lk) (t : Nat → Value) (c : Nat) : Goroutine := go1 P (nxN P false 15 (wHead P y (wT y t))) (.value (.int .i64 ((c + 1 : Nat) : Int)))
def g2 (P : Program) (y : Lk) (t : Nat → Value) (c : Nat) : Goroutine := go1 P (nxN P false 4 (g1 P y t c)) (.value (.int .i64 (c : Nat)))
def g3 (P : Program) (y : Lk) (t : Nat → Value) (c : Nat) (b : Bool) : Goroutine := go1 P (nxN P false 8 (g2 P y t c)) (.value (.bool b))
theorem ask_take (y : Lk) (t : Nat → Value) (c : Nat) : Asks Tryd.prog false (nxN Tryd.prog false 15 (wHead Tryd.prog y (wT y t))) [{ v := .int .i64 (c : Nat) }] (.value (.int .i64 (IntKind.i64.wrap ((c : Int) + 1))))
    [{ k := 5, m := .extern 80 }, { k := 0, ad := ⟨y.b6, 0, none⟩, v := .int .i64 (c : Nat), sy := true }, { k := 1, ad := ⟨y.b6, 0, none⟩, v := .int .i64 (IntKind.i64.wrap ((c : Int) + 1)), sy := true }]
    #[rd ⟨y.b6, 0, none⟩, wr ⟨y.b6, 0, none⟩] := ⟨by kernel_rfl, by kernel_rfl, fun w => by kernel_rfl, by kernel_rfl, by kernel_rfl, by kernel_rfl, by kernel_rfl⟩
theorem pur_g1 (y : Lk) (t : Nat → Value) (c : Nat) : Pur Tryd.prog false 4 (g1 Tryd.prog y t c) := by
  iterate 4 (refine Pur.step (by kernel_rfl) (fun w => by kernel_rfl) ?_)
  exact Pur.nil
theorem ask_sub (y : Lk) (t : Nat → Value) (c : Nat) : Asks Tryd.prog false (nxN Tryd.prog false 4 (g1 Tryd.prog y t c)) [] (.value (.int .i64 (IntKind.i64.wrap (((c + 1 : Nat) : Int) - 1)))) [] #[] := ⟨by kernel_rfl, by kernel_rfl, fun w => by kernel_rfl, by kernel_rfl, by kernel_rfl, by kernel_rfl, by kernel_rfl⟩
theorem pur_g2 (y : Lk) (t : Nat → Value) (c : Nat) : Pur Tryd.prog false 8 (g2 Tryd.prog y t c) := by
  iterate 8 (refine Pur.step (by kernel_rfl) (fun w => by kernel_rfl) ?_)
  exact Pur.nil
theorem ask_geq (y : Lk) (t : Nat → Value) (c : Nat) : Asks Tryd.prog false (nxN Tryd.prog false 8 (g2 Tryd.prog y t c)) [] (.value (.bool (decide ((y.len : Int) ≤ (c : Int))))) [] #[] := ⟨by kernel_rfl, by kernel_rfl, fun w => by kernel_rfl, by kernel_rfl, by kernel_rfl, by kernel_rfl, by kernel_rfl⟩
/-! ### no page is left -/
def gD (P : Program) (y : Lk) (t : Nat → Value) (c : Nat) : Goroutine := nxN P false 7 (g3 P y t c true)
def gC (P : Program) (y : Lk) (t : Nat → Value) (c : Nat) : Goroutine := nxN P false 14 (gD P y t c)
def gM (P : Program) (y : Lk) (t : Nat → Value) (c : Nat) : Goroutine := go1 P (gC P y t c) (.value (ptr y.b7))
def gK (P : Program) (y : Lk) (t : Nat → Value) (c : Nat) : Goroutine := nxN P false 3 (nx P false (gM P y t c))
def fD (P : Program) (y : Lk) (t : Nat → Value) (c : Nat) : Frame := (gD P y t c).callers.headD default
def fDs (P : Program) (y : Lk) (t : Nat → Value) (c : Nat) : List Frame := (gD P y t c).callers.tail
theorem pur_gD0 (y : Lk) (t : Nat → Value) (c : Nat) : Pur Tryd.prog false 7 (g3 Tryd.prog y t c true) := by
  iterate 7 (refine Pur.step (by kernel_rfl) (fun w => by kernel_rfl) ?_)
  exact Pur.nil
theorem gD_eq (y : Lk) (t : Nat → Value) (c : Nat) : gD Tryd.prog y t c = G ((baseD Tryd.link.done).at ⟨#[.pointer (some ⟨y.b7, 0, none⟩), undef, undef, undef], []⟩ [.code (Go.ConcR.Gen.body_done Tryd.link)]) (fD Tryd.prog y t c :: fDs Tryd.prog y t c) := by kernel_rfl
theorem fD_mode (y : Lk) (t : Nat → Value) (c : Nat) : (fD Tryd.prog y t c).mode = .returning := by kernel_rfl
theorem pur_fD (y : Lk) (t : Nat → Value) (c : Nat) : Pur Tryd.prog false 2 (G (fD Tryd.prog y t c) (fDs Tryd.prog y t c)) := by
  iterate 2 (refine Pur.step (by kernel_rfl) (fun w => by kernel_rfl) ?_)
  exact Pur.nil
theorem fin_fD (y : Lk) (t : Nat → Value) (c : Nat) : (nxN Tryd.prog false 2 (G (fD Tryd.prog y t c) (fDs Tryd.prog y t c))).status = .finished := by kernel_rfl
theorem pur_gD (y : Lk) (t : Nat → Value) (c : Nat) : Pur Tryd.prog false 14 (gD Tryd.prog y t c) := by
  iterate 14 (refine Pur.step (by kernel_rfl) (fun w => by kernel_rfl) ?_)
  exact Pur.nil
theorem ask_gC (y : Lk) (t : Nat → Value) (c : Nat) : Asks Tryd.prog false (gC Tryd.prog y t c) [{ sh := some (88, 2) }, { sh := some (88, 2) }] (.value (ptr y.b7)) [{ k := 2, ad := ⟨y.b7, 0, none⟩, sh := some (88, 2) }, { k := 2, ad := ⟨y.b7, 0, none⟩, sh := some (88, 2) }] #[] := ⟨by kernel_rfl, by kernel_rfl, fun w => by kernel_rfl, by kernel_rfl, by kernel_rfl, by kernel_rfl, by kernel_rfl⟩
theorem mark_gM (y : Lk) (t : Nat → Value) (c : Nat) (w : World) : stepG Tryd.prog false (gM Tryd.prog y t c) w = .go (nx Tryd.prog false (gM Tryd.prog y t c)) w #[ConcR.mk (.releaseMerge (stA y.b7))] := by kernel_rfl
theorem pur_gM (y : Lk) (t : Nat → Value) (c : Nat) : Pur Tryd.prog false 3 (nx Tryd.prog false (gM Tryd.prog y t c)) := by
  iterate 3 (refine Pur.step (by kernel_rfl) (fun w => by kernel_rfl) ?_)
  exact Pur.nil
theorem mark_gK (y : Lk) (t : Nat → Value) (c : Nat) (w : World) : stepG Tryd.prog false (gK Tryd.prog y t c) w = .go (nx Tryd.prog false (gK Tryd.prog y t c)) w #[ConcR.mk .disable] := by kernel_rfl
theorem run_gM (y : Lk) (t : Nat → Value) (c : Nat) : (gM Tryd.prog y t c).status = .running := by kernel_rfl
/-! ### a page -/
def gI (P : Program) (y : Lk) (t : Nat → Value) (c : Nat) : Goroutine := nxN P false 7 (g3 P y t c false)
def g4 (P : Program) (y : Lk) (t : Nat → Value) (c pb po : Nat) : Goroutine := go1 P (gI P y t c) (.value (.pointer (some ⟨pb, po + c, none⟩)))
def g5 (P : Program) (y : Lk) (t : Nat → Value) (c pb po : Nat) (v : Value) : Goroutine := go1 P (g4 P y t c pb po) (.value v)
def g6 (P : Program) (y : Lk) (t : Nat → Value) (c pb po : Nat) (v u : Value) : Goroutine := go1 P (g5 P y t c pb po v) (.value u)
def fv (k l s : Nat) (a : Option Addr) (d e : Nat) (st : Nat) : Value := .tuple #[.agg #[.int .i64 (k : Nat), .int .i64 (l : Nat), .int .i64 (s : Nat), .slice a d e], .int .i64 (st : Nat)]
def g7 (P : Program) (y : Lk) (t : Nat → Value) (c pb po : Nat) (v : Value) (k l s : Nat) (a : Option Addr) (d e st bx : Nat) : Goroutine := go1 P (nxN P false 3 (g6 P y t c pb po v (fv k l s a d e st))) (.value (ptr bx))
def g8 (P : Program) (y : Lk) (t : Nat → Value) (c pb po : Nat) (v : Value) (k l s : Nat) (a : Option Addr) (d e st bx : Nat) : Goroutine := nxN P false 6 (go1 P (g7 P y t c pb po v k l s a d e st bx) .skip)
def g9 (P : Program) (y : Lk) (t : Nat → Value) (c pb po : Nat) (v : Value) (k l s : Nat) (a : Option Addr) (d e st bx : Nat) : Goroutine := nxN P false 2 (go1 P (g8 P y t c pb po v k l s a d e st bx) (.value (.int .i64 (l : Nat))))
def g10 (P : Program) (y : Lk) (t : Nat → Value) (c pb po : Nat) (v : Value) (k l s : Nat) (a : Option Addr) (d e st bx : Nat) : Goroutine := nxN P false 1 (go1 P (g9 P y t c pb po v k l s a d e st bx) (.value (.int .i64 (s : Nat))))
def g11 (P : Program) (y : Lk) (t : Nat → Value) (c pb po : Nat) (v : Value) (k l s : Nat) (a : Option Addr) (d e st bx : Nat) : Goroutine := nxN P false 2 (go1 P (g10 P y t c pb po v k l s a d e st bx) (.value (.int .i64 (k : Nat))))
theorem pur_gI (y : Lk) (t : Nat → Value) (c : Nat) : Pur Tryd.prog false 7 (g3 Tryd.prog y t c false) := by
  iterate 7 (refine Pur.step (by kernel_rfl) (fun w => by kernel_rfl) ?_)
  exact Pur.nil
theorem sem_gI (y : Lk) (t : Nat → Value) (c : Nat) : semOf (gI Tryd.prog y t c) = (do pure (Next.value (← Instr.indexAt 42 y.pages (.int .i64 (c : Nat))))) := by kernel_rfl
theorem ask_gI (y : Lk) (t : Nat → Value) (c pb po : Nat) (hp : y.pa = some ⟨pb, po, none⟩) (hc : c < y.len) : Asks Tryd.prog false (gI Tryd.prog y t c) [] (.value (.pointer (some ⟨pb, po + c, none⟩))) [] #[] := by
  refine ⟨by kernel_rfl, by kernel_rfl, fun w => by kernel_rfl, by kernel_rfl, ?_, rfl, by kernel_rfl⟩
  rw [sem_gI]
  have e1 : ((c : Int) < (y.len : Int)) := by omega
  have e2 : (0 : Int) ≤ (c : Int) := by omega
  have hs : Tryd.prog.underlying 42 = some (.slice 22) := Tryd.underlying42
  simp only [Lk.pages, hp, Instr.indexAt, asIntOf, Go.underlying, Go.program, bind, Sem.bind, pure, askS, hs, e1, e2, and_self, if_true]
  have e3 : ∀ q : Addr, askS Tryd.prog (((Go.sizeOf 22).bind fun z => Sem.pure (Value.pointer (some (q.add (((c : Nat) : Int).toNat * z))))).bind fun v => Sem.pure (Next.value v)) [] = some (Next.value (.pointer (some (q.add (c * 1)))), []) := fun q => by kernel_rfl
  rw [e3, Nat.mul_one, show (⟨pb, po, none⟩ : Addr).add c = ⟨pb, po + c, none⟩ by unfold Addr.add; split <;> simp_all]
theorem ask_g4 (y : Lk) (t : Nat → Value) (c pb po : Nat) (a : Option Addr) (d e : Nat) : Asks Tryd.prog false (g4 Tryd.prog y t c pb po) [{ v := .slice a d e }] (.value (.slice a d e)) [{ k := 0, ad := ⟨pb, po + c, none⟩, v := .slice a d e }] #[⟨.cell ⟨pb, po + c, none⟩, false, false⟩] := ⟨by kernel_rfl, by kernel_rfl, fun w => by kernel_rfl, by kernel_rfl, by kernel_rfl, by kernel_rfl, by kernel_rfl⟩
theorem pur_g5 (y : Lk) (t : Nat → Value) (c pb po : Nat) (v : Value) : Pur Tryd.prog false 1 (g5 Tryd.prog y t c pb po v) := by
  iterate 1 (refine Pur.step (by kernel_rfl) (fun w => by kernel_rfl) ?_)
  exact Pur.nil
theorem g5_open (y : Lk) (t : Nat → Value) (c pb po : Nat) (v : Value) : nxN Tryd.prog false 1 (g5 Tryd.prog y t c pb po v) = G (Frame.enter Tryd.prog 9 #[v] .normal) ((g5 Tryd.prog y t c pb po v).frame :: (g5 Tryd.prog y t c pb po v).callers) := by kernel_rfl
theorem pur_g6 (y : Lk) (t : Nat → Value) (c pb po : Nat) (v : Value) (k l s : Nat) (a : Option Addr) (d e st : Nat) : Pur Tryd.prog false 3 (g6 Tryd.prog y t c pb po v (fv k l s a d e st)) := by
  iterate 3 (refine Pur.step (by kernel_rfl) (fun w => by kernel_rfl) ?_)
  exact Pur.nil
def frame0 : Obj := .cells #[.int .i64 0, .int .i64 0, .int .i64 0, .slice none 0 0] 24
theorem ask_g6 (y : Lk) (t : Nat → Value) (c pb po : Nat) (v : Value) (k l s : Nat) (a : Option Addr) (d e st : Nat) (n : Nat) : Asks Tryd.prog false (nxN Tryd.prog false 3 (g6 Tryd.prog y t c pb po v (fv k l s a d e st))) [{ n := n }] (.value (.pointer (some ⟨n, 0, none⟩))) [{ k := 4, ad := ⟨n, 0, none⟩, o := frame0 }] #[] := ⟨by kernel_rfl, by kernel_rfl, fun w => by kernel_rfl, by kernel_rfl, by kernel_rfl, by kernel_rfl, by kernel_rfl⟩
theorem ask_g7 (y : Lk) (t : Nat → Value) (c pb po : Nat) (v : Value) (k l s : Nat) (a : Option Addr) (d e st bx : Nat) : Asks Tryd.prog false (g7 Tryd.prog y t c pb po v k l s a d e st bx) [] .skip
    [{ k := 1, ad := ⟨bx, 0, none⟩, v := .int .i64 (k : Nat) }, { k := 1, ad := ⟨bx, 1, none⟩, v := .int .i64 (l : Nat) }, { k := 1, ad := ⟨bx, 2, none⟩, v := .int .i64 (s : Nat) }, { k := 1, ad := ⟨bx, 3, none⟩, v := .slice a d e }]
    #[⟨.cell ⟨bx, 0, none⟩, true, false⟩, ⟨.cell ⟨bx, 1, none⟩, true, false⟩, ⟨.cell ⟨bx, 2, none⟩, true, false⟩, ⟨.cell ⟨bx, 3, none⟩, true, false⟩] := ⟨by kernel_rfl, by kernel_rfl, fun w => by kernel_rfl, by kernel_rfl, by kernel_rfl, by kernel_rfl, by kernel_rfl⟩
theorem pur_g7 (y : Lk) (t : Nat → Value) (c pb po : Nat) (v : Value) (k l s : Nat) (a : Option Addr) (d e st bx : Nat) : Pur Tryd.prog false 6 (go1 Tryd.prog (g7 Tryd.prog y t c pb po v k l s a d e st bx) .skip) := by
  iterate 6 (refine Pur.step (by kernel_rfl) (fun w => by kernel_rfl) ?_)
  exact Pur.nil
theorem ask_g8 (y : Lk) (t : Nat → Value) (c pb po : Nat) (v : Value) (k l s : Nat) (a : Option Addr) (d e st bx : Nat) : Asks Tryd.prog false (g8 Tryd.prog y t c pb po v k l s a d e st bx) [{ v := .int .i64 (l : Nat) }] (.value (.int .i64 (l : Nat))) [{ k := 0, ad := ⟨bx, 1, none⟩, v := .int .i64 (l : Nat) }] #[⟨.cell ⟨bx, 1, none⟩, false, false⟩] := ⟨by kernel_rfl, by kernel_rfl, fun w => by kernel_rfl, by kernel_rfl, by kernel_rfl, by kernel_rfl, by kernel_rfl⟩
theorem pur_g8 (y : Lk) (t : Nat → Value) (c pb po : Nat) (v : Value) (k l s : Nat) (a : Option Addr) (d e st bx : Nat) : Pur Tryd.prog false 2 (go1 Tryd.prog (g8 Tryd.prog y t c pb po v k l s a d e st bx) (.value (.int .i64 (l : Nat)))) := by
  iterate 2 (refine Pur.step (by kernel_rfl) (fun w => by kernel_rfl) ?_)
  exact Pur.nil
theorem ask_g9 (y : Lk) (t : Nat → Value) (c pb po : Nat) (v : Value) (k l s : Nat) (a : Option Addr) (d e st bx : Nat) : Asks Tryd.prog false (g9 Tryd.prog y t c pb po v k l s a d e st bx) [{ v := .int .i64 (s : Nat) }] (.value (.int .i64 (s : Nat))) [{ k := 0, ad := ⟨bx, 2, none⟩, v := .int .i64 (s : Nat) }] #[⟨.cell ⟨bx, 2, none⟩, false, false⟩] := ⟨by kernel_rfl, by kernel_rfl, fun w => by kernel_rfl, by kernel_rfl, by kernel_rfl, by kernel_rfl, by kernel_rfl⟩
theorem pur_g9 (y : Lk) (t : Nat → Value) (c pb po : Nat) (v : Value) (k l s : Nat) (a : Option Addr) (d e st bx : Nat) : Pur Tryd.prog false 1 (go1 Tryd.prog (g9 Tryd.prog y t c pb po v k l s a d e st bx) (.value (.int .i64 (s : Nat)))) := by
  iterate 1 (refine Pur.step (by kernel_rfl) (fun w => by kernel_rfl) ?_)
  exact Pur.nil
theorem ask_g10 (y : Lk) (t : Nat → Value) (c pb po : Nat) (v : Value) (k l s : Nat) (a : Option Addr) (d e st bx : Nat) : Asks Tryd.prog false (g10 Tryd.prog y t c pb po v k l s a d e st bx) [{ v := .int .i64 (k : Nat) }] (.value (.int .i64 (k : Nat))) [{ k := 0, ad := ⟨bx, 0, none⟩, v := .int .i64 (k : Nat) }] #[⟨.cell ⟨bx, 0, none⟩, false, false⟩] := ⟨by kernel_rfl, by kernel_rfl, fun w => by kernel_rfl, by kernel_rfl, by kernel_rfl, by kernel_rfl, by kernel_rfl⟩
theorem pur_g10 (y : Lk) (t : Nat → Value) (c pb po : Nat) (v : Value) (k l s : Nat) (a : Option Addr) (d e st bx : Nat) : Pur Tryd.prog false 2 (go1 Tryd.prog (g10 Tryd.prog y t c pb po v k l s a d e st bx) (.value (.int .i64 (k : Nat)))) := by
  iterate 2 (refine Pur.step (by kernel_rfl) (fun w => by kernel_rfl) ?_)
  exact Pur.nil
/-- What a worker sees of page c. -/
def sightV (c k l s st : Nat) : Value := .agg #[.int .i64 (st : Nat), .int .i64 (l : Nat), .int .i64 (c : Nat), .int .i64 (s : Nat), .int .i64 (k : Nat)]
theorem send_g11 (y : Lk) (t : Nat → Value) (c pb po : Nat) (v : Value) (k l s : Nat) (a : Option Addr) (d e st bx : Nat) (w : World) :
    stepG Tryd.prog false (g11 Tryd.prog y t c pb po v k l s a d e st bx) w = .comm (g11 Tryd.prog y t c pb po v k l s a d e st bx) #[scase y.bc (sightV c k l s st) (.tuple #[])] true .send w #[] := by kernel_rfl
theorem pur_g12 (y : Lk) (t : Nat → Value) (c pb po : Nat) (v : Value) (k l s : Nat) (a : Option Addr) (d e st bx : Nat) : Pur Tryd.prog false 3 (Conc.served (g11 Tryd.prog y t c pb po v k l s a d e st bx) undef) := by
  iterate 3 (refine Pur.step (by kernel_rfl) (fun w => by kernel_rfl) ?_)
  exact Pur.nil
def g12 (P : Program) (y : Lk) (t : Nat → Value) (c pb po : Nat) (v : Value) (k l s : Nat) (a : Option Addr) (d e st bx : Nat) : Goroutine := Conc.served (g11 P y t c pb po v k l s a d e st bx) undef
theorem g12_head (y : Lk) (t : Nat → Value) (c pb po : Nat) (v : Value) (k l s : Nat) (a : Option Addr) (d e st bx : Nat) : nxN Tryd.prog false 3 (g12 Tryd.prog y t c pb po v k l s a d e st bx) = wHead Tryd.prog y (g12 Tryd.prog y t c pb po v k l s a d e st bx).frame.tmps := by kernel_rfl
theorem g12_size (y : Lk) (t : Nat → Value) (c pb po : Nat) (v : Value) (k l s : Nat) (a : Option Addr) (d e st bx : Nat) : (g12 Tryd.prog y t c pb po v k l s a d e st bx).frame.tmps.size = 35 := by kernel_rfl
theorem g12_0 (y : Lk) (t : Nat → Value) (c pb po : Nat) (v : Value) (k l s : Nat) (a : Option Addr) (d e st bx : Nat) : (g12 Tryd.prog y t c pb po v k l s a d e st bx).frame.tmps[0]? = some y.pages := by kernel_rfl
theorem g12_1 (y : Lk) (t : Nat → Value) (c pb po : Nat) (v : Value) (k l s : Nat) (a : Option Addr) (d e st bx : Nat) : (g12 Tryd.prog y t c pb po v k l s a d e st bx).frame.tmps[1]? = some (ptr y.b6) := by kernel_rfl
theorem g12_2 (y : Lk) (t : Nat → Value) (c pb po : Nat) (v : Value) (k l s : Nat) (a : Option Addr) (d e st bx : Nat) : (g12 Tryd.prog y t c pb po v k l s a d e st bx).frame.tmps[2]? = some (.chan (some y.bc)) := by kernel_rfl
theorem run_g11 (y : Lk) (t : Nat → Value) (c pb po : Nat) (v : Value) (k l s : Nat) (a : Option Addr) (d e st bx : Nat) : (g11 Tryd.prog y t c pb po v k l s a d e st bx).status = .running := by kernel_rfl
theorem run_head (y : Lk) (T : Array Value) : (wHead Tryd.prog y T).status = .running := by kernel_rfl
theorem run_take (y : Lk) (t : Nat → Value) : (nxN Tryd.prog false 15 (wHead Tryd.prog y (wT y t))).status = .running := by kernel_rfl
end Go.Proofs.YtobpjijdebnaoaaDoor
namespace Go.Proofs.YtobpjijdebnaoaaDoor
open Go Go.Conc
def tysOK (P : Program) (l : List TypeId) : Bool := l.all fun t => match P.info? t with
  | some i => (i.zero.map closed1).getD true
  | none => true
theorem zeros_of {P : Program} {fns : Fx} {l : List TypeId} (hl : ∀ t, fns.tys t = true → t ∈ l) (h : tysOK P l = true) : zeros P fns := by
  intro t i v ht hi hv
  unfold tysOK at h
  rw [List.all_eq_true] at h
  have := h t (hl t ht)
  rw [hi] at this
  simp only [hv] at this
  exact this
def progOK (P : Program) (fns : Fx) (l : List FuncId) : Bool := l.all fun f => okFn P fns f && match P.funcs[f]? with
  | some fn => match fn.body with
    | some c => okCode P fns (iaF P f) c
    | none => true
  | none => true
theorem okProg_of {P : Program} {fns : Fx} {l : List FuncId} (hl : ∀ f, fns.ok f = true → f ∈ l) (h : progOK P fns l = true) (hj : ∀ f, fns.ok f = true → fns.jf f = false → fns.rf[f]? = P.funcs[f]?) : okProg P fns := by
  unfold progOK at h
  rw [List.all_eq_true] at h
  refine ⟨fun f hf => ?_, fun f fn c hf h1 h2 => ?_, hj⟩
  · have := h f (hl f hf)
    rw [Bool.and_eq_true] at this
    exact this.1
  · have := h f (hl f hf)
    rw [Bool.and_eq_true, h1] at this
    simp only [h2] at this
    exact this.2
/-- The functions that frame.Open reaches; the types of what they make. -/
abbrev openL : List FuncId := [9, 23, 5, 22, 21, 14, 15, 13, 12, 37, 36, 32]
abbrev openT : List TypeId := [24, 5]
def openFx (P : Program) (lo : Nat → Nat) : Fx := ⟨fun f => openL.contains f, lo, fun t => openT.contains t, P.funcs, fun _ => false, false, fun _ => false, fun a => lo a == 0, fun a h => by simpa using h, (fun h => by cases h)⟩
theorem open_zeros (lo : Nat → Nat) : zeros Tryd.prog (openFx Tryd.prog lo) := zeros_of (l := openT) (fun t ht => by simpa [openFx] using ht) (by kernel_rfl)
theorem depth_prog : 0 < Tryd.prog.depth := of_decide_eq_true (by kernel_rfl)
theorem open_prog (lo : Nat → Nat) : okOne Tryd.prog (openFx Tryd.prog lo) := ⟨okProg_of (l := openL) (fun f hf => by simpa [openFx] using hf) (by kernel_rfl) (fun _ _ _ => rfl), rfl, fun _ => rfl⟩
end Go.Proofs.YtobpjijdebnaoaaDoor
namespace Go.Proofs.YtobpjijdebnaoaaDoor
open Go Go.Conc
open Go.ConcN (WgLive Has AtR0 RW DWs)
open Go.ConcR (KK wgBlock WgAt stA smA rd wr Payload DC0)
/-- What a worker knows. -/
structure Kw (y : Lk) (w : World) : Prop where
  fz : ∀ b, y.Fz b → w.heap[b]? = y.w0.heap[b]?
  size : y.w0.heap.size ≤ w.heap.size
  live : WgLive 88 y.b7 w
def Own (y : Lk) (O : Nat → Prop) : Prop := ∀ b, O b → y.w0.heap.size ≤ b
def anchT (P : Program) (y : Lk) (O : Nat → Prop) (g : Goroutine) (w : World) : Prop :=
  (∃ T : Array Value, g = wHead P y T ∧ T.size = 35 ∧ T[0]? = some y.pages ∧ T[1]? = some (ptr y.b6) ∧ T[2]? = some (.chan (some y.bc))) ∧ Kw y w ∧ Own y O
def Lk.cx (P : Program) (y : Lk) (AW Nx : (Nat → Prop) → Goroutine → World → Prop) : Cx :=
  { P := P, ty := 88, tN := 83, Wg := y.b7, Nx := y.b6, Ch := y.bc, C := y.b2, nC := 1, val := y.pages, len := y.len, n := y.n, m0 := y.m0, sight := y.sight, Fz := y.Fz, AnchT := anchT P y, AnchW := AW, Next := Nx }
/-- Page i as some ghost knows it, and what frame.Open tells it of it. -/
structure PgOk (P : Program) (y : Lk) (i : Nat) : Prop where
  gh : ∃ (lo : Nat → Nat) (E : Nat → Nat → Prop) (gh : World) (av : Value), (∀ a b, E a b → y.Fz b) ∧ WR P (openFx P lo) E (fun a => ∃ b, E a b) gh y.w0 ∧ VR (openFx P lo) E av (.slice (y.ha i) (y.hl i) (y.hc i)) ∧
    ∀ w : World, w.heap = gh.heap → Calls P 9 #[av] w (fun e _ => ∃ a d c, e = .returned (fv (y.kd i) (y.lb i) (y.sq i) a d c (y.st i)))
structure Lk.Ok (P : Program) (y : Lk) : Prop where
  b2 : y.w0.heap[y.b2]? = some (.cells #[y.pages] 42)
  b8 : y.w0.heap[y.b8]? = some (.cells #[.chan (some y.bc)] 89)
  f2 : y.Fz y.b2
  f8 : y.Fz y.b8
  fl : ∀ b, y.Fz b → b < y.w0.heap.size ∧ b ≠ y.b6 ∧ b ≠ y.b7 ∧ b ≠ y.bc
  low : y.b6 < y.w0.heap.size ∧ y.b7 < y.w0.heap.size ∧ y.bc < y.w0.heap.size
  glob : P.globals.size < y.w0.heap.size
  page : ∀ i, i < y.len → ∃ pb po, y.pa = some ⟨pb, po, none⟩ ∧ y.Fz pb ∧ y.w0.cell? ⟨pb, po + i, none⟩ = some (.slice (y.ha i) (y.hl i) (y.hc i))
  pg : ∀ i, i < y.len → PgOk P y i
  most : y.len ≤ 4096
theorem goes_on {P : Program} {main : Bool} {R : World → World → Prop} {D : World → World → Array Event → Prop} {S : Goroutine → World → Prop} (hR : ∀ w, R w w) {m : Nat} {g g' : Goroutine} {w : World} {es : Array Event} (hs : stepG P main g w = .go g' w es) (hno : ¬ S g w) (h : Goes P main R D S m g w) : D w w es ∧ ∃ m', Goes P main R D S m' g' w := by
  cases m with
  | zero => exact absurd (h w (hR w)) hno
  | succ m =>
    rcases h with h | ⟨_, h⟩
    · exact absurd (h w (hR w)) hno
    · have := h w (hR w)
      rw [hs, goes_go] at this
      exact ⟨this.1, m, this.2⟩
section
variable {y : Lk} {AW Nx : (Nat → Prop) → Goroutine → World → Prop} {O : Nat → Prop}
theorem kw_stb (P : Program) (O : Nat → Prop) : Stb y.Fz (y.cx P AW Nx).Ex (Kw y) O := fun _ _ r h => ⟨fun b hb => (r.fz b hb).trans (h.fz b hb), Nat.le_trans h.size r.size, r.ex h.live⟩
theorem Kw.cell {w : World} (h : Kw y w) {a : Addr} (hb : y.Fz a.block) : w.cell? a = y.w0.cell? a := by unfold World.cell?; rw [h.fz _ hb]
/-- What is made or written elsewhere. -/
theorem Kw.keep {P : Program} (ok : y.Ok P) {w w' : World} (h : Kw y w) (hk : ∀ b, b < y.w0.heap.size → w'.heap[b]? = w.heap[b]?) (hs : w.heap.size ≤ w'.heap.size) : Kw y w' := by
  refine ⟨fun b hb => (hk b (ok.fl b hb).1).trans (h.fz b hb), Nat.le_trans h.size hs, ?_⟩
  obtain ⟨st, sm, hw⟩ := h.live
  exact ⟨st, sm, (hk _ ok.low.2.1).trans hw⟩
theorem wrap_small {z : Int} (h0 : 0 ≤ z) (h1 : z < 9223372036854775808) : IntKind.i64.wrap z = z := by rw [IntKind.wrap_i64]; omega
/-! ### no page is left -/
theorem gM_rel [Payload] (ok : y.Ok Tryd.prog) (t : Nat → Value) (c : Nat) (w : World) (hw : Kw y w) : AtR0 Tryd.prog 88 y.b7 y.b2 1 0 1 y.pages (gM Tryd.prog y t c) w := by
  have hhas : Has y.b2 (1 - 1) y.pages w := by
    show w.cell? ⟨y.b2, 0, none⟩ = some y.pages
    rw [hw.cell ok.f2]
    simp [World.cell?, ok.b2]
  have hshape : w.shape? y.b7 = some (88, 2) := by
    obtain ⟨st, sm, h⟩ := hw.live
    have h' : w.heap[y.b7]? = some (wgBlock 88 st sm) := h
    simp [World.shape?, h', wgBlock]
  have hd := Go.ConcN.Gen.doneN (L := Tryd.link) Tryd.wgLib (Own := fun _ _ => False) (Rd := fun _ _ => False) (Wg := y.b7) (C := y.b2) (n := 1) (Low := 0) (k := 1) (val := y.pages) (fD_mode y t c) (quits_pur 2 (pur_fD y t c) (fin_fD y t c)) w ⟨hw.live, hhas⟩
  rw [← gD_eq] at hd
  have hR : ∀ w, RW Tryd.link.tWg y.b7 y.b2 1 0 (1 - 1) w w := fun w => ⟨fun _ _ _ _ => rfl, fun h => h, fun h => h, rfl⟩
  have hS : ∀ g w, AtR0 Tryd.prog Tryd.link.tWg y.b7 y.b2 1 0 1 y.pages g w → ∃ g' es, stepG Tryd.prog false g w = .go g' w es ∧ es ≠ #[] := fun g w h => by
    obtain ⟨_, _, g', h1, _⟩ := h
    exact ⟨g', _, h1, by simp⟩
  obtain ⟨m1, h1⟩ := goes_skip hR hS 14 (pur_gD y t c) hd
  -- the conversion
  have hst : stepG Tryd.prog false (gC Tryd.prog y t c) w = .go (gM Tryd.prog y t c) w #[] := (ask_gC y t c).step (show OkQ _ _ _ from ⟨hshape, hshape, rfl⟩)
  have hno1 : ¬ AtR0 Tryd.prog Tryd.link.tWg y.b7 y.b2 1 0 1 y.pages (gC Tryd.prog y t c) w := fun h => by
    obtain ⟨g2, es, e1, e2⟩ := hS _ w h
    exact e2 (GStep.go.inj (hst.symm.trans e1)).2.2.symm
  obtain ⟨_, m2, h2⟩ := goes_on hR hst hno1 h1
  -- where it says 'release' it has stopped: behind it would come 'disable'
  apply Classical.byContradiction
  intro hno
  obtain ⟨_, m3, h3⟩ := goes_on hR (mark_gM y t c w) hno h2
  obtain ⟨m4, h4⟩ := goes_skip hR hS 3 (pur_gM y t c) h3
  have hkno : ¬ AtR0 Tryd.prog Tryd.link.tWg y.b7 y.b2 1 0 1 y.pages (gK Tryd.prog y t c) w := fun h => by
    obtain ⟨_, _, g', h1, _⟩ := h
    have h6 := (mark_gK y t c w).symm.trans h1
    simp [ConcR.mk] at h6
  obtain ⟨hd, _⟩ := goes_on hR (mark_gK y t c w) hkno h4
  exact (hd.2 (ConcR.mk .disable) (by simp)).2.1 rfl
end
/-- The ghost's world: of the page's row only the page is known, and nobody may write it. -/
def ghostW (w : World) (ad : Addr) (c : Array Value) (el : TypeId) (n : Nat) : World := { w with heap := w.heap.setIfInBounds ad.block (.cells (c.extract 0 n) el (0, n)) }
def loAt (a : Option Addr) (b : Nat) : Nat := match a with
  | some ad => if b = ad.block then ad.off else 0
  | none => 0
theorem vr_fv {fns : Fx} {E : Nat → Nat → Prop} {k l s : Nat} {a : Option Addr} {d c st : Nat} {v' : Value} (h : VR fns E (fv k l s a d c st) v') : ∃ a', v' = fv k l s a' d c st := by
  obtain ⟨x', rfl, hx⟩ := vr_tuple.1 h
  obtain ⟨h1, h2⟩ := hx
  obtain ⟨l'⟩ := x'
  simp only [List.size_toArray, List.length_cons, List.length_nil] at h1
  rcases l' with _ | ⟨p, _ | ⟨q, _ | ⟨_, _⟩⟩⟩
  · simp at h1
  · simp at h1
  · have e0 := h2 0 (by simp) (by simp)
    have e1 := h2 1 (by simp) (by simp)
    simp only [List.getElem_toArray, List.getElem_cons_zero, List.getElem_cons_succ] at e0 e1
    rw [vr_int] at e1
    subst e1
    obtain ⟨z, rfl, hz⟩ := vr_agg.1 e0
    obtain ⟨z⟩ := z
    obtain ⟨g1, g2⟩ := hz
    simp only [List.size_toArray, List.length_cons, List.length_nil] at g1
    rcases z with _ | ⟨z0, _ | ⟨z1, _ | ⟨z2, _ | ⟨z3, _ | ⟨_, _⟩⟩⟩⟩⟩
    · simp at g1
    · simp at g1
    · simp at g1
    · simp at g1
    · have f0 := g2 0 (by simp) (by simp)
      have f1 := g2 1 (by simp) (by simp)
      have f2 := g2 2 (by simp) (by simp)
      have f3 := g2 3 (by simp) (by simp)
      simp only [List.getElem_toArray, List.getElem_cons_zero, List.getElem_cons_succ] at f0 f1 f2 f3
      rw [vr_int] at f0 f1 f2
      obtain ⟨b, rfl, _⟩ := vr_slice.1 f3
      subst f0 f1 f2
      exact ⟨b, rfl⟩
    · simp at g1
  · simp at h1
/-- A page that has bytes. -/
theorem pgOk_row {y : Lk} {i : Nat} {ad : Addr} {cc : Array Value} {el : TypeId} {fr : Nat × Nat} (ha : y.ha i = some ad) (hfz : y.Fz ad.block) (hgl : Tryd.prog.globals.size < y.w0.heap.size) (hc1 : y.w0.heap[ad.block]? = some (.cells cc el fr)) (hc2 : ad.off + y.hl i ≤ cc.size) (hc3 : ∀ j, j < y.hl i → ∃ z : Nat, cc[ad.off + j]? = some (.int .u8 (z : Int)))
    (opens : ∀ w : World, (∀ j, j < y.hl i → w.cell? ⟨ad.block, ad.off + j, none⟩ = y.w0.cell? ⟨ad.block, ad.off + j, none⟩) → Calls Tryd.prog 9 #[.slice (y.ha i) (y.hl i) (y.hc i)] w (fun e _ => ∃ a d c, e = .returned (fv (y.kd i) (y.lb i) (y.sq i) a d c (y.st i)))) : PgOk Tryd.prog y i := by
  have hlt : ad.block < y.w0.heap.size := (Array.getElem?_eq_some_iff.1 hc1).1
  have hg : (ghostW y.w0 ad cc el (ad.off + y.hl i)).heap[ad.block]? = some (.cells (cc.extract 0 (ad.off + y.hl i)) el (0, ad.off + y.hl i)) := by
    simp only [ghostW]
    exact Array.getElem?_setIfInBounds_self_of_lt hlt
  have hsz : (ghostW y.w0 ad cc el (ad.off + y.hl i)).heap.size = y.w0.heap.size := by simp [ghostW]
  refine ⟨loAt (y.ha i), fun a b => a = b ∧ a = ad.block, ghostW y.w0 ad cc el (ad.off + y.hl i), .slice (y.ha i) (y.hl i) (y.hc i), fun a b x => by rw [← x.1, x.2]; exact hfz, ⟨fun a hz => ?_, fun a hz => ?_, by rw [hsz]; exact hgl, hgl, fun a b x _ => x.1, fun a b a' b' x x' => ?_, fun a b x => ?_⟩, ?_, fun w hw => opens w fun j hj => ?_⟩
  · obtain ⟨b, _, rfl⟩ := hz
    rw [hsz]; exact hlt
  · show (loAt (y.ha i) a == 0) = true
    rw [beq_iff_eq, ha]
    unfold loAt
    simp only
    rw [if_neg fun e => hz ⟨a, rfl, e⟩]
  · rw [← x.1, ← x'.1]
    exact ⟨fun e => e, fun e _ => e⟩
  · obtain ⟨rfl, rfl⟩ := x
    refine .inl ⟨cc.extract 0 (ad.off + y.hl i), cc, el, (0, ad.off + y.hl i), fr, hg, hc1, ⟨by simp; omega, fun hz => (hz ⟨_, rfl, rfl⟩).elim, fun k h1 h2 hl => ?_⟩, fun hz => (hz ⟨_, rfl, rfl⟩).elim, fun _ k hk => ⟨Nat.zero_le _, by simp at hk; omega⟩⟩
    have hlo : ad.off ≤ k := by
      have : (openFx Tryd.prog (loAt (y.ha i))).lo ad.block = ad.off := by rw [ha]; simp [openFx, loAt]
      rw [← this]; exact hl
    have hk : k < ad.off + y.hl i := by simp at h1; omega
    obtain ⟨z, hz⟩ := hc3 (k - ad.off) (by omega)
    rw [show ad.off + (k - ad.off) = k by omega] at hz
    have e1 : cc[k] = .int .u8 (z : Int) := by
      rw [Array.getElem?_eq_getElem h2] at hz
      exact Option.some.inj hz
    simp only [Array.getElem_extract, Nat.zero_add, e1]
    exact vr_scalar rfl
  · refine vr_slice.2 ⟨_, rfl, .inl ?_⟩
    rw [ha]
    exact ⟨⟨rfl, rfl⟩, rfl, rfl, by simp [openFx, loAt]⟩
  · have : w.cell? ⟨ad.block, ad.off + j, none⟩ = (ghostW y.w0 ad cc el (ad.off + y.hl i)).cell? ⟨ad.block, ad.off + j, none⟩ := by unfold World.cell?; rw [hw]
    rw [this]
    simp only [World.cell?, hg, hc1]
    simp only [Option.isSome_none, Bool.false_eq_true, if_false]
    rw [Array.getElem?_extract]
    rw [if_pos (by omega), Nat.zero_add]
section
variable {y : Lk} {AW Nx : (Nat → Prop) → Goroutine → World → Prop} {O : Nat → Prop} {Stop : (Nat → Prop) → Goroutine → World → Prop}
/-- frame.Open of page i, in company. -/
theorem co_open (ok : y.Ok Tryd.prog) {i : Nat} (hi : i < y.len) {c : Frame} {cs : List Frame} (hO : Own y O) (w : World) (hw : Kw y w)
    (next : ∀ O1 a d e w1, Own y O1 → Kw y w1 → Co Tryd.prog false false y.Fz (y.cx Tryd.prog AW Nx).Ex Stop O1 (G (c.finish (fv (y.kd i) (y.lb i) (y.sq i) a d e (y.st i))) cs) w1) :
    Co Tryd.prog false false y.Fz (y.cx Tryd.prog AW Nx).Ex Stop O (G (Frame.enter Tryd.prog 9 #[.slice (y.ha i) (y.hl i) (y.hc i)] .normal) (c :: cs)) w := by
  obtain ⟨lo, E, gh, av, hEF, hwr0, hv, hcalls⟩ := (ok.pg i hi).gh
  let Z : Nat → Prop := fun a => ∃ b, E a b
  have hgl : Tryd.prog.globals.size < w.heap.size := Nat.lt_of_lt_of_le ok.glob hw.size
  have hgh1 : WR Tryd.prog (openFx Tryd.prog lo) E Z gh w := ⟨hwr0.zlow, hwr0.lonz, hwr0.gbig, hgl, hwr0.glob, hwr0.inj, fun a b x => by rw [hw.fz b (hEF a b x)]; exact hwr0.cells a b x⟩
  have hargs : AllR (openFx Tryd.prog lo) E #[av] #[.slice (y.ha i) (y.hl i) (y.hc i)] := allR_one hv
  have hfn : okFn Tryd.prog (openFx Tryd.prog lo) 9 = true := (open_prog _).1.1 _ (by simp [openFx])
  have hF := FR.enter (open_prog lo).1 hfn rfl (fun g hg => by cases hg) hargs
  have hGR : GR Tryd.prog (openFx Tryd.prog lo) E [] [trapF] (c :: cs) (G (Frame.enter Tryd.prog 9 #[av] .normal) [trapF]) (G (Frame.enter Tryd.prog 9 #[.slice (y.ha i) (y.hl i) (y.hc i)] .normal) (c :: cs)) := ⟨_, _, [], rfl, rfl, hF, trivial⟩
  have hends := ends_calls (Q := fun v _ => ∃ a d e, v = fv (y.kd i) (y.lb i) (y.sq i) a d e (y.st i)) (cl_of hGR hgh1) fun t d => (hcalls (wOn gh t d) rfl).mono fun e w' ⟨a, d, e', h⟩ => ⟨_, h, a, d, e', rfl⟩
  have hruns := hends.runs (open_zeros _) depth_prog (open_prog _) FinC.on
  have key := co_callG (open_zeros lo) depth_prog (open_prog lo) (main := false) (Fz := y.Fz) (Ex := (y.cx Tryd.prog AW Nx).Ex) (Stop := Stop) (c := c) (cs := cs) (Oi := O) (K := Kw y) (Hold := fun b => y.Fz b ∨ b = y.b7) (B0 := w.heap.size) (E0 := E) (Z := Z)
    (Q := fun v _ => ∃ a d e, v = fv (y.kd i) (y.lb i) (y.sq i) a d e (y.st i))
    (fun O w w₁ r h => kw_stb _ O w w₁ r h)
    (fun w w' h hk hs => by
      refine ⟨fun b hb => (hk b (.inl hb)).trans (h.fz b hb), Nat.le_trans h.size hs, ?_⟩
      obtain ⟨st, sm, h2⟩ := h.live
      exact ⟨st, sm, (hk _ (.inr rfl)).trans h2⟩)
    (fun E1 v v' gh1 w1 hq hv hwr hk hfr => by
      obtain ⟨a, d, e, rfl⟩ := hq
      obtain ⟨a', rfl⟩ := vr_fv hv
      refine next _ a' d e w1 (fun b hb => ?_) hk
      rcases hb with hb | ⟨hb, a, hx⟩
      · exact hO b hb
      · rcases hfr a b hx with h | h
        · exact (hb (hEF a b h)).elim
        · have := hw.size; omega)
    _ hruns.acc E _ w ⟨hGR, hgh1, hruns⟩
    (fun a b x _ => hEF a b x)
    (fun a b x hz => (hz ⟨b, x⟩).elim)
    (fun b hb => Nat.lt_of_lt_of_le (ok.fl b hb).1 hw.size)
    hw
    (fun b hb => by
      rcases hb with hb | rfl
      · exact ⟨Nat.lt_of_lt_of_le (ok.fl b hb).1 hw.size, .inl hb⟩
      · refine ⟨Nat.lt_of_lt_of_le ok.low.2.1 hw.size, .inr fun a x => ?_⟩
        exact (ok.fl _ (hEF a _ x)).2.2.1 rfl)
    (fun a b x => .inl x) (Nat.le_refl _)
  have hset : (fun b => O b ∨ (¬ y.Fz b ∧ ∃ a, E a b)) = O := by
    funext b
    refine propext ⟨fun h => h.elim id fun ⟨h1, a, h2⟩ => ?_, .inl⟩
    exact (h1 (hEF a b h2)).elim
  rw [hset] at key
  exact key
end
/-- And a variable of its own. -/
structure Kn (y : Lk) (bx : Nat) (o : Obj) (w : World) : Prop where
  kw : Kw y w
  own : w.heap[bx]? = some o
def frameO (k l s : Nat) (a : Option Addr) (d e : Nat) : Obj := .cells #[.int .i64 (k : Nat), .int .i64 (l : Nat), .int .i64 (s : Nat), .slice a d e] 24
section
variable {y : Lk} {AW Nx : (Nat → Prop) → Goroutine → World → Prop} {O : Nat → Prop}
theorem kn_stb (P : Program) {bx : Nat} {o : Obj} (hb : O bx) : Stb y.Fz (y.cx P AW Nx).Ex (Kn y bx o) O := fun w w₁ r h => ⟨kw_stb P O w w₁ r h.kw, (r.mine bx hb).trans h.own⟩
theorem rel_way [Payload] (ok : y.Ok Tryd.prog) (t : Nat → Value) (c : Nat) : CK Tryd.prog false false y.Fz (y.cx Tryd.prog AW Nx).Ex (y.cx Tryd.prog AW Nx).AtRel (Kw y) O (g3 Tryd.prog y t c true) := by
  have hK := kw_stb (y := y) (AW := AW) (Nx := Nx) Tryd.prog O
  refine ck_pur hK 7 (pur_gD0 y t c) (ck_pur hK 14 (pur_gD y t c) ?_)
  refine ck_one hK (ask_gC y t c).run (g' := gM Tryd.prog y t c) (fun w hw => ?_) (ck_stop hK (run_gM y t c) fun w hw => gM_rel ok t c w hw)
  have hshape : w.shape? y.b7 = some (88, 2) := by
    obtain ⟨st, sm, h⟩ := hw.live
    have h' : w.heap[y.b7]? = some (wgBlock 88 st sm) := h
    simp [World.shape?, h', wgBlock]
  exact (ask_gC y t c).step (show OkQ _ _ _ from ⟨hshape, hshape, rfl⟩)
theorem evC_read {Fz O : Nat → Prop} {a : Addr} (h : Fz a.block ∨ O a.block) : ∀ e ∈ #[(⟨.cell a, false, false⟩ : Event)], EvC Fz O e := fun e he => by
  have : e = ⟨.cell a, false, false⟩ := by simpa using he
  subst this
  exact .inl ⟨a.block, rfl, rfl, h.elim (fun h => .inr ⟨h, rfl⟩) .inl⟩
/-- Behind frame.Open. -/
theorem seen_way (ok : y.Ok Tryd.prog) (t : Nat → Value) {c pb po : Nat} (v : Value) (a : Option Addr) (d e : Nat) (hO : Own y O) : CK Tryd.prog false false y.Fz (y.cx Tryd.prog AW Nx).Ex ((y.cx Tryd.prog AW Nx).AtSend c) (Kw y) O (g6 Tryd.prog y t c pb po v (fv (y.kd c) (y.lb c) (y.sq c) a d e (y.st c))) := by
  have hK := kw_stb (y := y) (AW := AW) (Nx := Nx) Tryd.prog O
  refine ck_pur hK 3 (pur_g6 y t c pb po v _ _ _ a d e _) (ck_new hK (ask_g6 y t c pb po v _ _ _ a d e _) fun w hw => ?_)
  obtain ⟨bx, hbx⟩ : ∃ bx, bx = w.heap.size := ⟨_, rfl⟩
  rw [← hbx]
  have hbig : y.w0.heap.size ≤ bx := by rw [hbx]; exact hw.size
  have hO1 : Own y (fun b => O b ∨ b = bx) := fun b hb => hb.elim (hO b) fun h => h ▸ hbig
  have hin : (fun b => O b ∨ b = bx) bx := .inr rfl
  have hK1 : ∀ o, Stb y.Fz (y.cx Tryd.prog AW Nx).Ex (Kn y bx o) (fun b => O b ∨ b = bx) := fun o => kn_stb Tryd.prog hin
  refine ck_know (K' := Kn y bx frame0) ?_ fun w' h => ⟨hw.keep ok (fun b hb => h.2.2.1 b (by omega)) (by omega), h.2.2.2.2⟩
  refine ck_write (K' := Kn y bx (frameO (y.kd c) (y.lb c) (y.sq c) a d e)) (hK1 _) (ask_g7 y t c pb po v _ _ _ a d e _ bx) (fun w hw => ?_) (fun e he => ?_) ?_
  · -- four cells are written
    have h0 : w.heap[bx]? = some frame0 := hw.own
    unfold frame0 at h0
    have s0 := heap_setCell (w := w) (a := ⟨bx, 0, none⟩) (v := .int .i64 (y.kd c : Nat)) h0 rfl
    have g0 := s0 bx
    rw [if_pos rfl] at g0
    have s1 := heap_setCell (a := ⟨bx, 1, none⟩) (v := .int .i64 (y.lb c : Nat)) g0 rfl
    have g1 := s1 bx
    rw [if_pos rfl] at g1
    have s2 := heap_setCell (a := ⟨bx, 2, none⟩) (v := .int .i64 (y.sq c : Nat)) g1 rfl
    have g2 := s2 bx
    rw [if_pos rfl] at g2
    have s3 := heap_setCell (a := ⟨bx, 3, none⟩) (v := .slice a d e) g2 rfl
    have g3 := s3 bx
    rw [if_pos rfl] at g3
    have hoth : ∀ b, b ≠ bx → ((((w.setCell ⟨bx, 0, none⟩ (.int .i64 (y.kd c : Nat))).setCell ⟨bx, 1, none⟩ (.int .i64 (y.lb c : Nat))).setCell ⟨bx, 2, none⟩ (.int .i64 (y.sq c : Nat))).setCell ⟨bx, 3, none⟩ (.slice a d e)).heap[b]? = w.heap[b]? := fun b hb => by
      rw [s3, if_neg hb, s2, if_neg hb, s1, if_neg hb, s0, if_neg hb]
    have hsz : ((((w.setCell ⟨bx, 0, none⟩ (.int .i64 (y.kd c : Nat))).setCell ⟨bx, 1, none⟩ (.int .i64 (y.lb c : Nat))).setCell ⟨bx, 2, none⟩ (.int .i64 (y.sq c : Nat))).setCell ⟨bx, 3, none⟩ (.slice a d e)).heap.size = w.heap.size := by simp only [cell_size]
    refine ⟨_, show OkQ _ _ _ from ⟨by simp [World.cell?, h0], by simp [World.frozen?, h0], by simp [World.cell?, g0], by simp [World.frozen?, g0], by simp [World.cell?, g1], by simp [World.frozen?, g1], by simp [World.cell?, g2], by simp [World.frozen?, g2], rfl⟩, ⟨fun b _ hno => hoth b fun h => hno (.inr h), Nat.le_of_eq hsz.symm, rfl, rfl, rfl⟩, hsz, hw.kw.keep ok (fun b hb => hoth b (by omega)) (Nat.le_of_eq hsz.symm), ?_⟩
    rw [g3]
    rfl
  · have : e = ⟨.cell ⟨bx, 0, none⟩, true, false⟩ ∨ e = ⟨.cell ⟨bx, 1, none⟩, true, false⟩ ∨ e = ⟨.cell ⟨bx, 2, none⟩, true, false⟩ ∨ e = ⟨.cell ⟨bx, 3, none⟩, true, false⟩ := by simpa using he
    rcases this with rfl | rfl | rfl | rfl <;> exact .inl ⟨bx, rfl, rfl, .inl (.inr rfl)⟩
  have hcell : ∀ w, Kn y bx (frameO (y.kd c) (y.lb c) (y.sq c) a d e) w → w.cell? ⟨bx, 0, none⟩ = some (.int .i64 (y.kd c : Nat)) ∧ w.cell? ⟨bx, 1, none⟩ = some (.int .i64 (y.lb c : Nat)) ∧ w.cell? ⟨bx, 2, none⟩ = some (.int .i64 (y.sq c : Nat)) := fun w hw => by
    have h0 : w.heap[bx]? = some (frameO (y.kd c) (y.lb c) (y.sq c) a d e) := hw.own
    unfold frameO at h0
    exact ⟨by simp [World.cell?, h0], by simp [World.cell?, h0], by simp [World.cell?, h0]⟩
  refine ck_pur (hK1 _) 6 (pur_g7 y t c pb po v _ _ _ a d e _ bx) ?_
  refine ck_ask (hK1 _) (ask_g8 y t c pb po v _ _ _ a d e _ bx) (fun w hw => show OkQ _ _ _ from ⟨(hcell w hw).2.1, rfl⟩) (evC_read (.inr (.inr rfl))) ?_
  refine ck_pur (hK1 _) 2 (pur_g8 y t c pb po v _ _ _ a d e _ bx) ?_
  refine ck_ask (hK1 _) (ask_g9 y t c pb po v _ _ _ a d e _ bx) (fun w hw => show OkQ _ _ _ from ⟨(hcell w hw).2.2, rfl⟩) (evC_read (.inr (.inr rfl))) ?_
  refine ck_pur (hK1 _) 1 (pur_g9 y t c pb po v _ _ _ a d e _ bx) ?_
  refine ck_ask (hK1 _) (ask_g10 y t c pb po v _ _ _ a d e _ bx) (fun w hw => show OkQ _ _ _ from ⟨(hcell w hw).1, rfl⟩) (evC_read (.inr (.inr rfl))) ?_
  refine ck_pur (hK1 _) 2 (pur_g10 y t c pb po v _ _ _ a d e _ bx) ?_
  refine ck_stop (hK1 _) (run_g11 y t c pb po v _ _ _ a d e _ bx) fun w hw => ⟨_, _, send_g11 y t c pb po v _ _ _ a d e _ bx w, fun w' r => ?_⟩
  have hw' := hK1 _ w w' r hw
  have hK2 := kw_stb (y := y) (AW := AW) (Nx := Nx) Tryd.prog (fun b => O b ∨ b = bx)
  have hback : CK Tryd.prog false false y.Fz (y.cx Tryd.prog AW Nx).Ex (anchT Tryd.prog y) (Kw y) (fun b => O b ∨ b = bx) (g12 Tryd.prog y t c pb po v (y.kd c) (y.lb c) (y.sq c) a d e (y.st c) bx) := by
    refine ck_pur hK2 3 (pur_g12 y t c pb po v _ _ _ a d e _ bx) ?_
    rw [g12_head]
    exact ck_stop hK2 (run_head y _) fun w hw => ⟨⟨_, rfl, g12_size y t c pb po v _ _ _ a d e _ bx, g12_0 y t c pb po v _ _ _ a d e _ bx, g12_1 y t c pb po v _ _ _ a d e _ bx, g12_2 y t c pb po v _ _ _ a d e _ bx⟩, hw, hO1⟩
  exact hback w' hw'.kw
theorem send_way (ok : y.Ok Tryd.prog) (t : Nat → Value) {c : Nat} (hc : c < y.len) (hO : Own y O) : CK Tryd.prog false false y.Fz (y.cx Tryd.prog AW Nx).Ex ((y.cx Tryd.prog AW Nx).AtSend c) (Kw y) O (g3 Tryd.prog y t c false) := by
  have hK := kw_stb (y := y) (AW := AW) (Nx := Nx) Tryd.prog O
  obtain ⟨pb, po, hpa, hfz, hcell⟩ := ok.page c hc
  refine ck_pur hK 7 (pur_gI y t c) (ck_val hK (ask_gI y t c pb po hpa hc) ?_)
  refine ck_ask hK (ask_g4 y t c pb po (y.ha c) (y.hl c) (y.hc c)) (fun w hw => show OkQ _ _ _ from ⟨(hw.cell hfz).trans hcell, rfl⟩) (evC_read (.inl hfz)) ?_
  refine ck_pur hK 1 (pur_g5 y t c pb po _) ?_
  have e5 := g5_open y t c pb po (.slice (y.ha c) (y.hl c) (y.hc c))
  unfold g5 g4 gI at e5
  rw [e5]
  intro w hw
  refine co_open ok hc hO w hw fun O1 a d e w1 h1 h2 => ?_
  exact seen_way ok t (.slice (y.ha c) (y.hl c) (y.hc c)) a d e h1 w1 h2
theorem head_way [Payload] (ok : y.Ok Tryd.prog) (t : Nat → Value) (hO : Own y O) : CK Tryd.prog false false y.Fz (y.cx Tryd.prog AW Nx).Ex (y.cx Tryd.prog AW Nx).AtTake (Kw y) O (wHead Tryd.prog y (wT y t)) := by
  have hK := kw_stb (y := y) (AW := AW) (Nx := Nx) Tryd.prog O
  refine ck_pur hK 15 (pur_head y t) (ck_stop hK (run_take y t) fun w hw c hc hcell hfr => ?_)
  have e1 : IntKind.i64.wrap ((c : Int) + 1) = ((c + 1 : Nat) : Int) := by rw [wrap_small (by omega) (by omega)]; omega
  have hask := ask_take y t c
  rw [e1] at hask
  refine ⟨g1 Tryd.prog y t c, hask.step (show OkQ _ _ _ from ⟨hcell, by rw [show w.cell? ⟨y.b6, 0, none⟩ = _ from hcell]; rfl, hfr, rfl⟩), fun w' r => ?_⟩
  have hw' := hK w w' r hw
  have e2 : IntKind.i64.wrap (((c + 1 : Nat) : Int) - 1) = ((c : Nat) : Int) := by rw [wrap_small (by omega) (by omega)]; omega
  have hsub := ask_sub y t c
  rw [e2] at hsub
  have hgeq := ask_geq y t c
  refine ⟨fun hlt => ?_, fun hle => ?_⟩
  · have e3 : decide ((y.len : Int) ≤ (c : Int)) = false := decide_eq_false (by have : c < y.len := hlt; omega)
    rw [e3] at hgeq
    have h3 := send_way ok t hlt hO (AW := AW) (Nx := Nx)
    unfold g3 at h3
    have h2 := ck_pur hK 8 (pur_g2 y t c) (ck_val hK hgeq h3)
    unfold g2 at h2
    exact ck_pur hK 4 (pur_g1 y t c) (ck_val hK hsub h2) w' hw'
  · have e3 : decide ((y.len : Int) ≤ (c : Int)) = true := decide_eq_true (by have : y.len ≤ c := hle; omega)
    rw [e3] at hgeq
    have h3 := rel_way ok t c (AW := AW) (Nx := Nx) (O := O)
    unfold g3 at h3
    have h2 := ck_pur hK 8 (pur_g2 y t c) (ck_val hK hgeq h3)
    unfold g2 at h2
    exact ck_pur hK 4 (pur_g1 y t c) (ck_val hK hsub h2) w' hw'
/-- From where it was anchored. -/
theorem anch_way [Payload] (ok : y.Ok Tryd.prog) (g : Goroutine) (w : World) (h : anchT Tryd.prog y O g w) : (y.cx Tryd.prog AW Nx).CoW false (y.cx Tryd.prog AW Nx).AtTake O g w := by
  obtain ⟨⟨T, hg, hT, t0, t1, t2⟩, hw, hO⟩ := h
  obtain ⟨v0, v1, v2, t, hTe⟩ := arr35 T hT
  rw [hTe] at hg t0 t1 t2
  rw [hg]
  have e0 : v0 = y.pages := Option.some.inj t0
  have e1 : v1 = ptr y.b6 := Option.some.inj t1
  have e2 : v2 = .chan (some y.bc) := Option.some.inj t2
  rw [e0, e1, e2]
  exact head_way ok t hO w hw
/-- A worker that is started. -/
theorem kid_way [Payload] (ok : y.Ok Tryd.prog) (w : World) (hw : Kw y w) : (y.cx Tryd.prog AW Nx).CoW false (y.cx Tryd.prog AW Nx).AtTake (fun _ => False) (kid Tryd.prog y) w := by
  have hK := kw_stb (y := y) (AW := AW) (Nx := Nx) Tryd.prog (fun _ => False)
  refine (?_ : CK Tryd.prog false false y.Fz (y.cx Tryd.prog AW Nx).Ex (y.cx Tryd.prog AW Nx).AtTake (Kw y) (fun _ => False) (kid Tryd.prog y)) w hw
  refine ck_pur hK 6 (pur_kid y) ?_
  refine ck_ask hK (ask_kid1 y) (fun w hw => show OkQ _ _ _ from ⟨by rw [hw.cell (a := ⟨y.b2, 0, none⟩) ok.f2]; simp [World.cell?, ok.b2], rfl⟩) (evC_read (.inl ok.f2)) ?_
  refine ck_ask hK (ask_kid2 y) (fun w hw => show OkQ _ _ _ from ⟨by rw [hw.cell (a := ⟨y.b8, 0, none⟩) ok.f8]; simp [World.cell?, ok.b8], rfl⟩) (evC_read (.inl ok.f8)) ?_
  refine ck_pur hK 3 (pur_kid2 y) ?_
  have e2 := kid2_head y
  unfold kid2 kid1 at e2
  rw [e2]
  exact head_way ok _ fun _ h => h.elim
end
end Go.Proofs.YtobpjijdebnaoaaDoor

/- Part of the proof. -/
import Derived.Test.YthbndfpeffcigaaGreatDoorZ10
open Go.Proofs.Tryz (prog)
open Go.Proofs.ah.Al (PB)
set_option maxHeartbeats 2000000
set_option linter.unusedVariables false
namespace Go.Proofs.ah
open ak aj Go.RowKit
set_option maxRecDepth 20000 in
theorem Ld(pa:Option Addr)(pc:Nat)(n:Int)(w:World)(h0:¬n<1)(h8:¬n>8) :
 Calls (PB prog false) 108 #[.slice pa 0 pc,.int .i64 n] w λe w'=>qC w w' e []:=by
 have heS:∀ (x:Addr) (l c:Nat) (w:World),(binOp .eql 181 (.slice (some x) l c) (.slice none 0 0)).run (PB prog false) w=.ok (.bool false) w:=λ_ _ _ _=>rfl
 have heN:∀ (l c:Nat) (w:World),(binOp .eql 181 (.slice none l c) (.slice none 0 0)).run (PB prog false) w=.ok (.bool true) w:=λ_ _ _=>rfl
 obtain⟨z,hz⟩:=D9 0 (by omega)
 generalize z.cells=zc at hz
 have hz':∀ wx:World,(Instr.makeSlice 222 (.int .i64 0) (.int .i64 0)).run (PB prog false) wx=.ok (.slice (some ⟨wx.heap.size,0,none⟩) 0 0) (wx.alloc (.cells (madeCells zc (0*5)) 226)):=hz
 have HZ:Hid (∀ cs:Array Value,RS w (w.alloc (.cells (madeCells cs (0*5)) 226)) [] 0):=λcs=>⟨aC w _,_,heap_alloc_new w _,by simp[madeCells],λi hi=>absurd hi (Nat.not_lt_zero _)⟩
 clear hz
 cases pa with
 |none =>
  go_enter Al.func108,Al.ntmps108
  unfold Al.lg
  go_wp2
  go_loopw [11] (λj wr=>j=.int .i64 0/\Hid (WS w wr)) (λ_ _=>0)
  case atStart=>exact⟨rfl,rfl⟩
  case round =>
   obtain⟨rfl,hX⟩:=hrel
   have hwx:w=wr:=hX.out.symm
   subst hwx
   clear hX
   go_wp2
   go_loopw [26] (λj wr=>j=.int .i64 0/\Hid (RS w wr [] 0)) (λ_ _=>0)
   case atStart=>exact⟨rfl,HZ.out _⟩
   case round =>
    obtain⟨rfl,hX⟩:=hrel
    go_wp2
    go_ret2
    exact⟨rfl,hX.out⟩
 |some x =>
  go_enter Al.func108,Al.ntmps108
  unfold Al.lg
  go_wp2
  go_loopw [11] (λj wr=>j=.int .i64 0/\Hid (WS w wr)) (λ_ _=>0)
  case atStart=>exact⟨rfl,rfl⟩
  case round =>
   obtain⟨rfl,hX⟩:=hrel
   have hwx:w=wr:=hX.out.symm
   subst hwx
   clear hX
   go_wp2
   go_loopw [26] (λj wr=>j=.int .i64 0/\Hid (RS w wr [] 0)) (λ_ _=>0)
   case atStart=>exact⟨rfl,HZ.out _⟩
   case round =>
    obtain⟨rfl,hX⟩:=hrel
    go_wp2
    go_ret2
    exact⟨rfl,hX.out⟩
def SL(w:World)(pa:Option Addr)(L:List Pg):Prop:=L=[]\/∃ b off,pa=some ⟨b,off,none⟩/\mh w b off L
theorem zM(pa:Option Addr)(pc:Nat)(L:List Pg)(n:Int)(w:World)(h0:¬n<1)(h8:¬n>8)(hl:L.length<=4096)(hp:SL w pa L) :
 Calls (PB prog false) 108 #[.slice pa L.length pc,.int .i64 n] w λe w'=>qC w w' e L:=by
 by_cases h:L=[]
 .subst h
  exact Ld pa pc n w h0 h8
 .obtain⟨b,off,rfl,hq⟩:=hp.resolve_left h
  exact Gi b off pc L n w h0 h8 (List.length_pos_iff.2 h) hl hq

/- Part of the proof. -/
import Derived.Test.YtjlgehmebfkioaaGreatDoorZ05
open Go.Proofs.Tryz (prog)
open Go.Proofs.ah.Al (PB)
set_option maxHeartbeats 800000
set_option linter.unusedVariables false
namespace Go.Proofs.ah
open ay aj Go.RowKit Go.Sort
variable {S:List Nat} {s t:Nat} {F:Nat->Fd}
theorem EX(F:Nat->Fd)(c:List Nat):(Cj F c).Perm c:=List.mergeSort_perm _ _
theorem Hw(F:Nat->Fd)(c:List Nat):(Cj F c).Pairwise λi j=>¬Ci F j i:=by
 have:=List.pairwise_mergeSort (le:=λx y=>!(ltOf (SK F)) y x) (λa b d h1 h2=>by
  simp only[Bool.not_eq_true',qN] at *
  unfold Ci at *
  omega) (λa b=>by
  simp only[Bool.or_eq_true,Bool.not_eq_true',qN]
  unfold Ci
  omega) c
 unfold Cj
 refine this.imp λ{a b} h=>?_
 simpa only[Bool.not_eq_true',qN] using h
def sN(S:List Nat)(t:Nat):Nat:=S[t]?.getD 0
theorem pJ(F:Nat->Fd)(S:List Nat)(t:Nat)(h:t<S.length):gF (S.map F) t=F (sN S t):=by
 unfold gF sN
 rw[List.getElem?_map,List.getElem?_eq_getElem h]
 rfl
theorem sorted_at(h:S.Pairwise λi j=>¬Ci F j i)(hst:s<t)(ht:t<S.length):¬Ci F (sN S t) (sN S s):=by
 have:=List.pairwise_iff_getElem.1 h s t (by omega) ht hst
 unfold sN
 rw[List.getElem?_eq_getElem ht,List.getElem?_eq_getElem (show s<S.length by omega)]
 exact this
theorem Aw(h:S.Pairwise λi j=>¬Ci F j i)(hst:s<=t)(ht:t<S.length):(F (sN S s)).lb<=(F (sN S t)).lb:=by
 rcases Nat.lt_or_eq_of_le hst with e|rfl
 .have:=sorted_at h e ht
  unfold Ci at this
  omega
 .exact Nat.le_refl _
theorem xQ(h:S.Pairwise λi j=>¬Ci F j i)(hk:Au (S.map F) t=true)(hst:s<t)(ht:t<S.length):(F (sN S s)).lb<(F (sN S t)).lb:=by
 unfold Au at hk
 rw[pJ F S t ht,pJ F S (t-1) (by omega)] at hk
 have h1:=Aw h (s:=s) (t:=t-1) (by omega) (by omega)
 have h2:=Aw h (s:=t-1) (t:=t) (by omega) ht
 simp only[Bool.or_eq_true,beq_iff_eq,bne_iff_ne,ne_eq] at hk
 omega
structure Wj(F:Nat->Fd)(c:List Nat)(N:List Fd):Prop where
 rise:N.Pairwise λa b=>a.lb<b.lb
 best:∀ e∈N,∃ i∈c,e=F i/\∀ j∈c,(F j).lb=e.lb->¬Ci F j i
 all:∀ j∈c,∃ e∈N,e.lb=(F j).lb
theorem Xv(F:Nat->Fd)(c:List Nat):Wj F c (zx ((Cj F c).map F)):=by
 have hp:=EX F c
 have hs:=Hw F c
 generalize Cj F c=S at hp hs
 have hmem:∀ t,t∈Dz (S.map F) (S.map F).length↔t<S.length/\Au (S.map F) t=true:=λt=>by
  rw[mD,List.mem_filter,List.mem_range,List.length_map]
 refine⟨?_,λe he=>?_,λj hj=>?_⟩
 .unfold zx
  rw[List.pairwise_map]
  have hr:(Dz (S.map F) (S.map F).length).Pairwise (·<·):=by rw[mD];exact List.pairwise_lt_range.filter _
  refine hr.imp_of_mem λ{a b} ha hb hab=>?_
  obtain⟨a1,a2⟩:=(hmem a).1 ha
  obtain⟨b1,b2⟩:=(hmem b).1 hb
  rw[pJ F S a a1,pJ F S b b1]
  exact xQ hs b2 hab b1
 .unfold zx at he
  obtain⟨t,ht,rfl⟩:=List.mem_map.1 he
  obtain⟨t1,t2⟩:=(hmem t).1 ht
  have hin:sN S t∈S:=by unfold sN;rw[List.getElem?_eq_getElem t1];exact List.getElem_mem t1
  refine⟨sN S t,hp.mem_iff.1 hin,pJ F S t t1,λj hj he=>?_⟩
  rw[pJ F S t t1] at he
  obtain⟨u,hu,rfl⟩:=List.mem_iff_getElem.1 (hp.mem_iff.2 hj)
  have eu:sN S u=S[u]:=by unfold sN;rw[List.getElem?_eq_getElem hu];rfl
  rw[<-eu] at he ⊢
  rcases Nat.lt_trichotomy u t with x|x|x
  .have:=xQ hs t2 x t1
   omega
  .rw[x];unfold Ci;omega
  .exact sorted_at hs x hu
 .obtain⟨u,hu,rfl⟩:=List.mem_iff_getElem.1 (hp.mem_iff.2 hj)
  have eu:sN S u=S[u]:=by unfold sN;rw[List.getElem?_eq_getElem hu];rfl
  rw[<-eu]
  have key:∀ t,t<S.length->∃ e∈zx (S.map F),e.lb=(F (sN S t)).lb:=by
   intro t
   induction t with
   |zero =>
    intro ht
    exact⟨gF (S.map F) 0,List.mem_map.2 ⟨0,(hmem 0).2 ⟨ht,rfl⟩,rfl⟩,by rw[pJ F S 0 ht]⟩
   |succ t ih =>
    intro ht
    by_cases hk:Au (S.map F) (t+1)=true
    .exact⟨gF (S.map F) (t+1),List.mem_map.2 ⟨t+1,(hmem (t+1)).2 ⟨ht,hk⟩,rfl⟩,by rw[pJ F S (t+1) ht]⟩
    .obtain⟨e,h1,h2⟩:=ih (by omega)
     refine⟨e,h1,h2.trans ?_⟩
     rw[Cn,pJ F S (t+1) ht,pJ F S t (by omega)] at hk
     simp only[bne_iff_ne,ne_eq,Classical.not_not] at hk
     exact hk.symm
  exact key u hu
end Go.Proofs.ah
namespace Go.Proofs.ah
open ay aj Go.RowKit
theorem Ox(v:Value)(w:World):(Instr.typeAssert (.iface 31 v) 28 31 true).run (PB prog false) w=.ok (.tuple #[v,.bool true]) w:=by kernel_rfl
theorem Cr(w:World):(Instr.typeAssert .nilIface 28 31 true).run (PB prog false) w=.ok (.tuple #[.int .i64 0,.bool false]) w:=by kernel_rfl
theorem Ay(w:World):Calls (PB prog false) 34 #[.nilIface] w λe w'=>e=.returned (.int .i64 0)/\w'=w:=by
 have h1:=Cr
 go_enter Al.func34,Al.ntmps34
 unfold Al.Am
 go_wp2
 go_ret
 exact⟨rfl,rfl⟩
theorem uR(k:Int)(w:World):Calls (PB prog false) 34 #[.iface 31 (.int .i64 k)] w λe w'=>e=.returned (.int .i64 k)/\w'=w:=by
 have h1:=Ox (.int .i64 k)
 go_enter Al.func34,Al.ntmps34
 unfold Al.Am
 go_wp2
 go_ret
 exact⟨rfl,rfl⟩

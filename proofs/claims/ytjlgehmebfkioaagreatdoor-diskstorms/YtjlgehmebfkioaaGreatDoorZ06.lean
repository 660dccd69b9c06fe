/- Part of the proof. -/
import Derived.Test.YtjlgehmebfkioaaGreatDoorZ05
open Go.Proofs.Tryz renaming prog->aa
open Go.Proofs.ah.Al (PB)
set_option maxHeartbeats 800000
set_option linter.unusedVariables false
open Bool renaming not_eq_true'->jx,or_eq_true->fN
open Classical renaming not_not->dq
open Go renaming World->ae
open Go.Instr renaming typeAssert->cT
open List renaming getElem?_eq_getElem->ax,mem_map->lf,mem_iff_getElem->lr
namespace Go.Proofs.ah
open au aj Go.RowKit Go.Sort
variable {S:List Nat} {s t:Nat} {F:Nat->Fd}
theorem FH(F:Nat->Fd)(c:List Nat):(CV F c).Perm c:=List.mergeSort_perm _ _
theorem IL(F:Nat->Fd)(c:List Nat):(CV F c).Pairwise λi j=>¬CU F j i:=by
 have:=List.pairwise_mergeSort (le:=λx y=>!(ltOf (TM F)) y x) (λa b d h1 h2=>by
  simp only[jx,qV] at *
  unfold CU at *
  omega) (λa b=>by
  simp only[fN,jx,qV]
  unfold CU
  omega) c
 unfold CV
 refine this.imp λ{a b} h=>?_
 simpa only[jx,qV] using h
def sN(S:List Nat)(t:Nat):Nat:=S[t]?.getD 0
theorem pV(F:Nat->Fd)(S:List Nat)(t:Nat)(h:t<S.length):gF (S.map F) t=F (sN S t):=by
 unfold gF sN
 rw[List.getElem?_map,ax h]
 rfl
theorem sorted_at(h:S.Pairwise λi j=>¬CU F j i)(hst:s<t)(ht:t<S.length):¬CU F (sN S t) (sN S s):=by
 have:=List.pairwise_iff_getElem.1 h s t (by omega) ht hst
 unfold sN
 rw[ax ht,ax (show s<S.length by omega)]
 exact this
theorem AY(h:S.Pairwise λi j=>¬CU F j i)(hst:s<=t)(ht:t<S.length):(F (sN S s)).lb<=(F (sN S t)).lb:=by
 rcases Nat.lt_or_eq_of_le hst with e|rfl
 .have:=sorted_at h e ht
  unfold CU at this
  omega
 .exact Nat.le_refl _
theorem yj(h:S.Pairwise λi j=>¬CU F j i)(hk:AV (S.map F) t=true)(hst:s<t)(ht:t<S.length):(F (sN S s)).lb<(F (sN S t)).lb:=by
 unfold AV at hk
 rw[pV F S t ht,pV F S (t-1) (by omega)] at hk
 have h1:=AY h (s:=s) (t:=t-1) (by omega) (by omega)
 have h2:=AY h (s:=t-1) (t:=t) (by omega) ht
 simp only[fN,beq_iff_eq,bne_iff_ne,ne_eq] at hk
 omega
structure Xa(F:Nat->Fd)(c:List Nat)(N:List Fd):Prop where
 rise:N.Pairwise λa b=>a.lb<b.lb
 best:∀ e∈N,∃ i∈c,e=F i/\∀ j∈c,(F j).lb=e.lb->¬CU F j i
 all:∀ j∈c,∃ e∈N,e.lb=(F j).lb
theorem Yb(F:Nat->Fd)(c:List Nat):Xa F c (zT ((CV F c).map F)):=by
 have hp:=FH F c
 have hs:=IL F c
 generalize CV F c=S at hp hs
 have hmem:∀ t,t∈Ef (S.map F) (S.map F).length↔t<S.length/\AV (S.map F) t=true:=λt=>by
  rw[mK,List.mem_filter,List.mem_range,List.length_map]
 refine⟨?_,λe he=>?_,λj hj=>?_⟩
 .unfold zT
  rw[List.pairwise_map]
  have hr:(Ef (S.map F) (S.map F).length).Pairwise (·<·):=by rw[mK];exact List.pairwise_lt_range.filter _
  refine hr.imp_of_mem λ{a b} ha hb hab=>?_
  obtain⟨a1,a2⟩:=(hmem a).1 ha
  obtain⟨b1,b2⟩:=(hmem b).1 hb
  rw[pV F S a a1,pV F S b b1]
  exact yj hs b2 hab b1
 .unfold zT at he
  obtain⟨t,ht,rfl⟩:=lf.1 he
  obtain⟨t1,t2⟩:=(hmem t).1 ht
  have hin:sN S t∈S:=by unfold sN;rw[ax t1];exact List.getElem_mem t1
  refine⟨sN S t,hp.mem_iff.1 hin,pV F S t t1,λj hj he=>?_⟩
  rw[pV F S t t1] at he
  obtain⟨u,hu,rfl⟩:=lr.1 (hp.mem_iff.2 hj)
  have eu:sN S u=S[u]:=by unfold sN;rw[ax hu];rfl
  rw[<-eu] at he ⊢
  rcases Nat.lt_trichotomy u t with x|x|x
  .have:=yj hs t2 x t1
   omega
  .rw[x];unfold CU;omega
  .exact sorted_at hs x hu
 .obtain⟨u,hu,rfl⟩:=lr.1 (hp.mem_iff.2 hj)
  have eu:sN S u=S[u]:=by unfold sN;rw[ax hu];rfl
  rw[<-eu]
  have key:∀ t,t<S.length->∃ e∈zT (S.map F),e.lb=(F (sN S t)).lb:=by
   intro t
   induction t with
   |zero =>
    intro ht
    exact⟨gF (S.map F) 0,lf.2 ⟨0,(hmem 0).2 ⟨ht,rfl⟩,rfl⟩,by rw[pV F S 0 ht]⟩
   |succ t ih =>
    intro ht
    by_cases hk:AV (S.map F) (t+1)=true
    .exact⟨gF (S.map F) (t+1),lf.2 ⟨t+1,(hmem (t+1)).2 ⟨ht,hk⟩,rfl⟩,by rw[pV F S (t+1) ht]⟩
    .obtain⟨e,h1,h2⟩:=ih (by omega)
     refine⟨e,h1,h2.trans ?_⟩
     rw[CY,pV F S (t+1) ht,pV F S t (by omega)] at hk
     simp only[bne_iff_ne,ne_eq,dq] at hk
     exact hk.symm
  exact key u hu
end Go.Proofs.ah
namespace Go.Proofs.ah
open au aj Go.RowKit
theorem Pf(v:Value)(w:ae):(cT (.iface 31 v) 28 31 true).run (PB aa false) w=.ok (.tuple #[v,.bool true]) w:=by kernel_rfl
theorem C8(w:ae):(cT .nilIface 28 31 true).run (PB aa false) w=.ok (.tuple #[.int .i64 0,.bool false]) w:=by kernel_rfl
theorem AZ(w:ae):Calls (PB aa false) 34 #[.nilIface] w λe w'=>e=.returned (.int .i64 0)/\w'=w:=by
 have h1:=C8
 go_enter Al.func34,Al.ntmps34
 unfold Al.AL
 go_wp2
 go_ret
 exact⟨rfl,rfl⟩
theorem vk(k:Int)(w:ae):Calls (PB aa false) 34 #[.iface 31 (.int .i64 k)] w λe w'=>e=.returned (.int .i64 k)/\w'=w:=by
 have h1:=Pf (.int .i64 k)
 go_enter Al.func34,Al.ntmps34
 unfold Al.AL
 go_wp2
 go_ret
 exact⟨rfl,rfl⟩

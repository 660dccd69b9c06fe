/- Part of the proof. -/
import Derived.Test.YtjlgehmebfkioaaGreatDoorZ05
open Go.Proofs.Tryz renaming prog->aa
open Go.Proofs.ah.Al (PB)
set_option maxHeartbeats 800000
set_option linter.unusedVariables false
open Bool renaming not_eq_true'->j7,or_eq_true->fy
open Classical renaming not_not->dq
open Go renaming World->ae
open Go.Instr renaming typeAssert->cR
open List renaming getElem?_eq_getElem->az,mem_map->k_,mem_iff_getElem->ls
namespace Go.Proofs.ah
open au aj Go.RowKit Go.Sort
theorem Fa(F:Nat->Fd)(c:List Nat):(Cm F c).Perm c:=List.mergeSort_perm _ _
theorem Ic(F:Nat->Fd)(c:List Nat):(Cm F c).Pairwise λi j=>¬Ck F j i:=by
 have:=List.pairwise_mergeSort (le:=λx y=>!(ltOf (S_ F)) y x) (λa b d h1 h2=>by
  simp only[j7,qO] at *
  unfold Ck at *
  omega) (λa b=>by
  simp only[fy,j7,qO]
  unfold Ck
  omega) c
 unfold Cm
 refine this.imp λ{a b} h=>?_
 simpa only[j7,qO] using h
def sN(S:List Nat)(t:Nat):Nat:=S[t]?.getD 0
theorem pR(F:Nat->Fd)(S:List Nat)(t:Nat)(h:t<S.length):gF (S.map F) t=F (sN S t):=by
 unfold gF sN
 rw[List.getElem?_map,az h]
 rfl
theorem sorted_at{F:Nat->Fd}{S:List Nat}(h:S.Pairwise λi j=>¬Ck F j i){s t:Nat}(hst:s<t)(ht:t<S.length):¬Ck F (sN S t) (sN S s):=by
 have:=List.pairwise_iff_getElem.1 h s t (by omega) ht hst
 unfold sN
 rw[az ht,az (show s<S.length by omega)]
 exact this
theorem Av{F:Nat->Fd}{S:List Nat}(h:S.Pairwise λi j=>¬Ck F j i){s t:Nat}(hst:s<=t)(ht:t<S.length):(F (sN S s)).lb<=(F (sN S t)).lb:=by
 rcases Nat.lt_or_eq_of_le hst with e|rfl
 .have:=sorted_at h e ht
  unfold Ck at this
  omega
 .exact Nat.le_refl _
theorem xQ{F:Nat->Fd}{S:List Nat}(h:S.Pairwise λi j=>¬Ck F j i){s t:Nat}(hk:Ar (S.map F) t=true)(hst:s<t)(ht:t<S.length):(F (sN S s)).lb<(F (sN S t)).lb:=by
 unfold Ar at hk
 rw[pR F S t ht,pR F S (t-1) (by omega)] at hk
 have h1:=Av h (s:=s) (t:=t-1) (by omega) (by omega)
 have h2:=Av h (s:=t-1) (t:=t) (by omega) ht
 simp only[fy,beq_iff_eq,bne_iff_ne,ne_eq] at hk
 omega
structure Wx(F:Nat->Fd)(c:List Nat)(N:List Fd):Prop where
 rise:N.Pairwise λa b=>a.lb<b.lb
 best:∀ e∈N,∃ i∈c,e=F i/\∀ j∈c,(F j).lb=e.lb->¬Ck F j i
 all:∀ j∈c,∃ e∈N,e.lb=(F j).lb
theorem Xy(F:Nat->Fd)(c:List Nat):Wx F c (zI ((Cm F c).map F)):=by
 have hp:=Fa F c
 have hs:=Ic F c
 generalize Cm F c=S at hp hs
 have hmem:∀ t,t∈DZ (S.map F) (S.map F).length↔t<S.length/\Ar (S.map F) t=true:=λt=>by
  rw[mJ,List.mem_filter,List.mem_range,List.length_map]
 refine⟨?_,λe he=>?_,λj hj=>?_⟩
 .unfold zI
  rw[List.pairwise_map]
  have hr:(DZ (S.map F) (S.map F).length).Pairwise (·<·):=by rw[mJ];exact List.pairwise_lt_range.filter _
  refine hr.imp_of_mem λ{a b} ha hb hab=>?_
  obtain⟨a1,a2⟩:=(hmem a).1 ha
  obtain⟨b1,b2⟩:=(hmem b).1 hb
  rw[pR F S a a1,pR F S b b1]
  exact xQ hs b2 hab b1
 .unfold zI at he
  obtain⟨t,ht,rfl⟩:=k_.1 he
  obtain⟨t1,t2⟩:=(hmem t).1 ht
  have hin:sN S t∈S:=by unfold sN;rw[az t1];exact List.getElem_mem t1
  refine⟨sN S t,hp.mem_iff.1 hin,pR F S t t1,λj hj he=>?_⟩
  rw[pR F S t t1] at he
  obtain⟨u,hu,rfl⟩:=ls.1 (hp.mem_iff.2 hj)
  have eu:sN S u=S[u]:=by unfold sN;rw[az hu];rfl
  rw[<-eu] at he ⊢
  rcases Nat.lt_trichotomy u t with x|x|x
  .have:=xQ hs t2 x t1
   omega
  .rw[x];unfold Ck;omega
  .exact sorted_at hs x hu
 .obtain⟨u,hu,rfl⟩:=ls.1 (hp.mem_iff.2 hj)
  have eu:sN S u=S[u]:=by unfold sN;rw[az hu];rfl
  rw[<-eu]
  have key:∀ t,t<S.length->∃ e∈zI (S.map F),e.lb=(F (sN S t)).lb:=by
   intro t
   induction t with
   |zero =>
    intro ht
    exact⟨gF (S.map F) 0,k_.2 ⟨0,(hmem 0).2 ⟨ht,rfl⟩,rfl⟩,by rw[pR F S 0 ht]⟩
   |succ t ih =>
    intro ht
    by_cases hk:Ar (S.map F) (t+1)=true
    .exact⟨gF (S.map F) (t+1),k_.2 ⟨t+1,(hmem (t+1)).2 ⟨ht,hk⟩,rfl⟩,by rw[pR F S (t+1) ht]⟩
    .obtain⟨e,h1,h2⟩:=ih (by omega)
     refine⟨e,h1,h2.trans ?_⟩
     rw[Cr,pR F S (t+1) ht,pR F S t (by omega)] at hk
     simp only[bne_iff_ne,ne_eq,dq] at hk
     exact hk.symm
  exact key u hu
end Go.Proofs.ah
namespace Go.Proofs.ah
open au aj Go.RowKit
theorem OG(v:Value)(w:ae):(cR (.iface 31 v) 28 31 true).run (PB aa false) w=.ok (.tuple #[v,.bool true]) w:=by kernel_rfl
theorem Cu(w:ae):(cR .nilIface 28 31 true).run (PB aa false) w=.ok (.tuple #[.int .i64 0,.bool false]) w:=by kernel_rfl
theorem Aw(w:ae):Calls (PB aa false) 34 #[.nilIface] w λe w'=>e=.returned (.int .i64 0)/\w'=w:=by
 have h1:=Cu
 go_enter Al.func34,Al.ntmps34
 unfold Al.Ak
 go_wp2
 go_ret
 exact⟨rfl,rfl⟩
theorem uY(k:Int)(w:ae):Calls (PB aa false) 34 #[.iface 31 (.int .i64 k)] w λe w'=>e=.returned (.int .i64 k)/\w'=w:=by
 have h1:=OG (.int .i64 k)
 go_enter Al.func34,Al.ntmps34
 unfold Al.Ak
 go_wp2
 go_ret
 exact⟨rfl,rfl⟩

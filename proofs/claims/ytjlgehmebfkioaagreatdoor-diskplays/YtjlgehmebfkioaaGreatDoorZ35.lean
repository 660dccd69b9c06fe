/- Part of the proof. -/
import Derived.Test.YtjlgehmebfkioaaGreatDoorZ34
open Go.Proofs.Tryz renaming prog->aa
open Go.Proofs.ah.Al (PB)
open Go renaming World->ae,Addr->cr
open Go.World renaming cell?->cq
open Nat renaming zero_le->cS
open Option.some renaming inj->cd
namespace Go.Proofs.YtjlgehmebfkioaaGreatDoor
open Go Go.Conc au
open Go.ConcR (Payload)
section
variable {fns:Fx} {Z:Nat->Prop} {E:Nat->Nat->Prop} {gh w:ae}
theorem ZX(E:Nat->Nat->Prop)(e:Int):VR fns E (.tuple #[.slice none 0 0,.iface 31 (.int .i64 e)]) (.tuple #[.slice none 0 0,.iface 31 (.int .i64 e)]):=by
 refine bL.2 ⟨_,rfl,rfl,λi h _=>?_⟩
 simp only[List.size_toArray,List.length_cons,List.length_nil] at h
 match i,h with
 |0,_=>exact aJ.2 ⟨none,rfl,.inl trivial⟩
 |1,_=>exact bK.2 ⟨_,rfl,aG rfl⟩
theorem Nl(a:Option cr)(p:List Nat)(cap:Nat)(w:ae)(hA:aY p)(hL:aj.bM w a p)(hcap:p.length<=cap)(hm:p.length<=9223372036854775807) :
 Calls aa 59 #[.slice a p.length cap] w λe w'=>ah.Ao w w' e p:=by
 have h:=ah.xk (zb:=true) a p cap w hA hL hcap hm
 rw[ah.Al.SI] at h
 exact h
theorem Nn(hw:WR (PB aa false) fns E Z gh w){ha ha':Option cr}{p:List Nat}(Gn:p=[]\/OS fns E ha ha')(h:aj.bM gh ha p):aj.bM w ha' p/\∀ ad,ha'=some ad->p≠[]->ad.spot=none/\(∃ a,E a ad.block):=by
 rcases h with rfl|⟨b,off,rfl,h⟩
 .exact⟨.inl rfl,λ_ _ h=>(h rfl).elim⟩
 .by_cases hp0:p=[]
  .subst hp0;exact⟨.inl rfl,λ_ _ h=>(h rfl).elim⟩
  obtain⟨zL,rfl,D8⟩:=dS.1 (Gn.resolve_left hp0)
  have hsp:zL.spot=none:=D8.2.2.1.symm
  have hoff:zL.off=off:=D8.2.1.symm
  refine⟨.inr ⟨zL.block,zL.off,by cases zL;simp only at hsp;subst hsp;rfl,λi hi=>?_⟩,λad e _=>?_⟩
  .obtain⟨v',h1,h2⟩:=hw.cell (a:=⟨b,off+i,none⟩) (a':=⟨zL.block,zL.off+i,none⟩) ⟨D8.1,by rw[hoff],rfl,Nat.le_trans D8.2.2.2 (Nat.le_add_right _ _)⟩ (h i hi)
   rw[dF] at h2
   rw[h1,h2]
  .obtain rfl:=cd e
   exact⟨hsp,b,D8.1⟩
def Jl(w:ae)(pa:Option cr)(l pc n m0:Nat)(F:Nat->Prop)(p:Nat->List Nat)(hc:Nat->Nat)(ha:Nat->Option cr)(cs:List Frame):Lk :=
 { b2:=w.heap.size,b6:=w.heap.size+1,b7:=w.heap.size+2,bc:=w.heap.size+3,b8:=w.heap.size+4,pa:=pa,len:=l,pc:=pc,n:=n,m0:=m0,w0:=Nh w (.slice pa l pc) l,Fz:=λb=>F b\/b=w.heap.size\/b=w.heap.size+4,st:=λi=>stP (p i),kd:=λi=>zG (p i),lb:=λi=>zH (p i),sq:=λi=>BJ (p i),cs:=cs,ha:=ha,hl:=λi=>(p i).length,hc:=hc }
theorem VQ(w:ae)(pa:Option cr)(l pc n m0:Nat)(F:Nat->Prop)(p:Nat->List Nat)(hc:Nat->Nat)(ha:Nat->Option cr)(cs:List Frame):(Jl w pa l pc n m0 F p hc ha cs).At w:=⟨rfl,rfl,rfl,rfl,rfl,rfl⟩
def RG:Obj->Obj
 | .cells _ el _=>.cells #[] el (0,0)
 |o=>o
def emptied(gh:ae):ae:={ gh with heap:=gh.heap.map RG }
theorem Jm{y:Lk}{i:Nat}{av:Option cr}(hw:WR (PB aa false) fns E Z gh y.w0)(ND:∀ a b,E a b->y.Fz b)(Gn:SR fns E 0 (y.hc i) av (y.ha i))(hl:y.hl i=0)(opens:∀ w:ae,Calls aa 59 #[.slice av 0 (y.hc i)] w (λe _=>∃ a d c,e=.returned (fv (y.kd i) (y.lb i) (y.sq i) a d c (y.st i)))):YQ aa y i:=by
 have hsz:(emptied gh).heap.size=gh.heap.size:=by simp[emptied]
 have hget:∀ a:Nat,(emptied gh).heap[a]?=(gh.heap[a]?).map RG:=λa=>by simp[emptied]
 have hAR:∀ a b,AR fns E a b->AR (iO aa λ_=>0) (λa b=>E a b/\(fns.pn a\/∃ x,av=some x/\a=x.block)) a b:=λa b h=>⟨⟨h.1,.inl h.2.2.2.1⟩,h.2.1,h.2.2.1,.inr rfl,cS _⟩
 refine⟨λ_=>0,λa b=>E a b/\(fns.pn a\/∃ x,av=some x/\a=x.block),emptied gh,.slice av 0 (y.hc i),λa b x=>ND a b x.1,⟨λa hz=>?_,⟨λ_ _=>rfl,λh=>by cases h⟩,by rw[hsz];exact hw.kL,hw.mQ,λa b x=>hw.glob a b x.1,λa b a' b' x y=>?_,λa b x=>?_⟩,?_,λw _=>opens w⟩
 .obtain⟨b,hb⟩:=hz
  rw[hsz]
  exact(hw.lt hb.1).1
 .refine⟨(hw.inj _ _ _ _ x.1 y.1).1,λe _=>?_⟩
  rcases x.2 with h|⟨z,hz,rfl⟩
  .exact(hw.inj _ _ _ _ x.1 y.1).2 e h
  .rcases y.2 with h'|⟨z',hz',rfl⟩
   .exact((hw.inj _ _ _ _ y.1 x.1).2 e.symm h').symm
   .rw[hz] at hz'
    rw[cd hz']
 .rcases hw.cells a b x.1 with ⟨c,c',el,fr,fr',k1,k2,_,_,_⟩|⟨x1,x2,l,k1,k2,k3⟩
  .exact .inl ⟨#[],c',el,(0,0),fr',by rw[hget,k1];rfl,k2,⟨cS _,λhz=>(hz ⟨b,x⟩).elim,λi h=>by simp at h⟩,λhz=>(hz ⟨b,x⟩).elim,λ_ i h=>by simp at h⟩
  .exact .inr ⟨x1,x2,l,by rw[hget,k1];rfl,k2,hAR _ _ k3⟩
 .rw[hl]
  refine aJ.2 ⟨_,rfl,?_⟩
  rcases Gn with Gn|⟨e1,e2,e3⟩
  .refine .inl ?_
   cases av with
   |none=>rw[iL] at Gn;rw[Gn];trivial
   |some a=>obtain⟨b,e,h⟩:=dS.1 Gn;rw[e];exact⟨⟨h.1,.inr ⟨a,rfl,rfl⟩⟩,h.2.1,h.2.2.1,cS _⟩
  .exact .inr ⟨rfl,e2,e3⟩
structure RPg(fns:Fx)(E:Nat->Nat->Prop)(w:ae)(pa:Option cr)(i:Nat)(av x:Option cr)(p:List Nat)(c:Nat):Prop where
 cell:∃ b o,pa=some ⟨b,o,none⟩/\(∃ a,E a b)/\w.cell? ⟨b,o+i,none⟩=some (.slice x p.length c)
 os:SR fns E p.length c av x
 all:aY p
 lies:aj.bM w x p
 cap:p.length<=c
 most:p.length<=9223372036854775807
theorem VT{w:ae}{F:Nat->Prop}{pa:Option cr}{l pc n m0:Nat}{p:Nat->List Nat}{hc:Nat->Nat}{av ha:Nat->Option cr}{cs:List Frame}(hw:WR (PB aa false) fns E Z gh w)(ND:∀ a b,E a b->F b)(hF:∀ b,F b->b<w.heap.size)(hl:l<=4096)(hp:∀ i,i<l->RPg fns E w pa i (av i) (ha i) (p i) (hc i)):(Jl w pa l pc n m0 F p hc ha cs).Ok aa:=by
 have hg:aa.globals.size<w.heap.size:=hw.mQ
 have k0:=Ru w (.slice pa l pc) l
 have Xe:∀ x:cr,x.block<w.heap.size->(Nh w (.slice pa l pc) l).cell? x=w.cell? x:=λx hx=>by unfold cq;rw[k0.old _ hx]
 have ks:=k0.size
 refine⟨k0.h2,k0.h8,.inr (.inl rfl),.inr (.inr rfl),λb hb=>?_,⟨?_,?_,?_⟩,?_,λi hi=>?_,λi hi=>?_,hl⟩
 .show b<(Nh w (.slice pa l pc) l).heap.size/\b≠w.heap.size+1/\b≠w.heap.size+2/\b≠w.heap.size+3
  rcases hb with hb|hb|hb
  .have:=hF b hb;omega
  .omega
  .omega
 .show w.heap.size+1<(Nh w (.slice pa l pc) l).heap.size
  omega
 .show w.heap.size+2<(Nh w (.slice pa l pc) l).heap.size
  omega
 .show w.heap.size+3<(Nh w (.slice pa l pc) l).heap.size
  omega
 .show aa.globals.size<(Nh w (.slice pa l pc) l).heap.size
  omega
 .obtain⟨b,o,e,hb,hcell⟩:=(hp i hi).cell
  obtain⟨a,hb⟩:=hb
  exact⟨b,o,e,.inl (ND a b hb),(Xe _ (hF b (ND a b hb))).trans hcell⟩
 .have hpi:=hp i hi
  have hopen:∀ (z:Option cr) (wx:ae),aj.bM wx z (p i)->Calls aa 59 #[.slice z (p i).length (hc i)] wx (λe _=>∃ a d c,e=.returned (fv (zG (p i)) (zH (p i)) (BJ (p i)) a d c (stP (p i)))):=λz wx hz=>(Nl z (p i) (hc i) wx hpi.all hz hpi.cap hpi.most).mono λe w' ⟨a,d,c,h,_⟩=>⟨a,d,c,h⟩
  by_cases h0:p i=[]
  .have hwr:WR (PB aa false) fns E Z gh (Nh w (.slice pa l pc) l):=hw.ext (λ_ _ _=>rfl) (λa b x=>k0.old b (hw.lt x).2) (Nat.le_refl _) (by omega)
   refine Jm (y:=Jl w pa l pc n m0 F p hc ha cs) (av:=av i) hwr (λa b x=>.inl (ND a b x)) (by have:=hpi.os;rw[h0] at this;exact this) (by show (p i).length=0;rw[h0];rfl) (λwx=>?_)
   have:=hopen (av i) wx (.inl h0)
   rw[show (p i).length=0 by rw[h0];rfl] at this
   exact this
  .obtain⟨b,o,e,hby⟩:=hpi.lies.resolve_left h0
   have hpos:0<(p i).length:=List.length_pos_iff.2 h0
   have hEb:F b:=by
    have hos:=hpi.os.resolve_right (λx=>by omega)
    rw[e] at hos
    cases hav:av i with
    |none=>rw[hav] at hos;exact hos.elim
    |some a=>rw[hav] at hos;exact ND _ _ hos.1
   have hc0:=hby 0 hpos
   obtain⟨cc,el,fr,hcc⟩:∃ cc el fr,w.heap[b]?=some (.cells cc el fr):=by
    unfold cq at hc0
    cases hh:w.heap[b]? with
    |none=>simp[hh] at hc0
    |some ob =>
     cases ob with
     |cells cc el fr=>exact⟨cc,el,fr,rfl⟩
     |_=>simp[hh] at hc0
   have hcl:∀ j,j<(p i).length->cc[o+j]?=some (.int .u8 (((p i)[j]?.getD 0:Nat):Int)):=λj hj=>by
    have:=hby j hj
    simpa [cq,hcc] using this
   have hlast:=hcl ((p i).length-1) (by omega)
   have hsz:=(Array.getElem?_eq_some_iff.1 hlast).1
   refine QM (y:=Jl w pa l pc n m0 F p hc ha cs) (ad:=⟨b,o,none⟩) (cc:=cc) (el:=el) (fr:=fr) e (.inl hEb) (by show aa.globals.size<(Nh w (.slice pa l pc) l).heap.size;omega) ((k0.old b (hF b hEb)).trans hcc) (by show o+(p i).length<=cc.size;omega) (λj hj=>⟨_,hcl j hj⟩) (λwx hx=>?_)
   refine hopen (ha i) wx (.inr ⟨b,o,e,λj hj=>?_⟩)
   exact(hx j hj).trans ((Xe ⟨b,o+j,none⟩ (hF b hEb)).trans (hby j hj))
end

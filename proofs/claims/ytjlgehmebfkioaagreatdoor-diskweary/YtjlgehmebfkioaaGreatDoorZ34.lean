/- Part of the proof. -/
import Derived.Test.YtjlgehmebfkioaaGreatDoorZ33
open Go.Proofs.Tryz (prog)
open Go.Proofs.ah.Al (PB)
namespace Go.Proofs.YtjlgehmebfkioaaGreatDoor
open Go Go.Conc ay
open Go.ConcR (Payload)
section
variable {fns:Fx} {Z:Nat->Prop} {E:Nat->Nat->Prop} {gh w:World}
theorem ZO(E:Nat->Nat->Prop)(e:Int):VR fns E (.tuple #[.slice none 0 0,.iface 31 (.int .i64 e)]) (.tuple #[.slice none 0 0,.iface 31 (.int .i64 e)]):=by
 refine bK.2 ⟨_,rfl,rfl,λi h _=>?_⟩
 simp only[List.size_toArray,List.length_cons,List.length_nil] at h
 match i,h with
 |0,_=>exact aJ.2 ⟨none,rfl,.inl trivial⟩
 |1,_=>exact bE.2 ⟨_,rfl,aG rfl⟩
theorem Ni(a:Option Addr)(p:List Nat)(cap:Nat)(w:World)(hA:aW p)(hL:aj.bN w a p)(hcap:p.length<=cap)(hm:p.length<=9223372036854775807) :
 Calls prog 59 #[.slice a p.length cap] w λe w'=>ah.Ap w w' e p:=by
 have h:=ah.xk (zb:=true) a p cap w hA hL hcap hm
 rw[ah.Al.Sz] at h
 exact h
theorem Nj(hw:WR (PB prog false) fns E Z gh w){ha ha':Option Addr}{p:List Nat}(Gc:p=[]\/OS fns E ha ha')(h:aj.bN gh ha p):aj.bN w ha' p/\∀ ad,ha'=some ad->p≠[]->ad.spot=none/\(∃ a,E a ad.block):=by
 rcases h with rfl|⟨b,off,rfl,h⟩
 .exact⟨.inl rfl,λ_ _ h=>(h rfl).elim⟩
 .by_cases hp0:p=[]
  .subst hp0;exact⟨.inl rfl,λ_ _ h=>(h rfl).elim⟩
  obtain⟨zH,rfl,DN⟩:=dR.1 (Gc.resolve_left hp0)
  have hsp:zH.spot=none:=DN.2.2.1.symm
  have hoff:zH.off=off:=DN.2.1.symm
  refine⟨.inr ⟨zH.block,zH.off,by cases zH;simp only at hsp;subst hsp;rfl,λi hi=>?_⟩,λad e _=>?_⟩
  .obtain⟨v',h1,h2⟩:=hw.cell (a:=⟨b,off+i,none⟩) (a':=⟨zH.block,zH.off+i,none⟩) ⟨DN.1,by rw[hoff],rfl,Nat.le_trans DN.2.2.2 (Nat.le_add_right _ _)⟩ (h i hi)
   rw[dD] at h2
   rw[h1,h2]
  .obtain rfl:=Option.some.inj e
   exact⟨hsp,b,DN.1⟩
def Jd(w:World)(pa:Option Addr)(l pc n m0:Nat)(F:Nat->Prop)(p:Nat->List Nat)(hc:Nat->Nat)(ha:Nat->Option Addr)(cs:List Frame):Lk :=
 { b2:=w.heap.size,b6:=w.heap.size+1,b7:=w.heap.size+2,bc:=w.heap.size+3,b8:=w.heap.size+4,pa:=pa,len:=l,pc:=pc,n:=n,m0:=m0,w0:=Nc w (.slice pa l pc) l,Fz:=λb=>F b\/b=w.heap.size\/b=w.heap.size+4,st:=λi=>stP (p i),kd:=λi=>zu (p i),lb:=λi=>zw (p i),sq:=λi=>BG (p i),cs:=cs,ha:=ha,hl:=λi=>(p i).length,hc:=hc }
theorem VD(w:World)(pa:Option Addr)(l pc n m0:Nat)(F:Nat->Prop)(p:Nat->List Nat)(hc:Nat->Nat)(ha:Nat->Option Addr)(cs:List Frame):(Jd w pa l pc n m0 F p hc ha cs).At w:=⟨rfl,rfl,rfl,rfl,rfl,rfl⟩
def Rq:Obj->Obj
 | .cells _ el _=>.cells #[] el (0,0)
 |o=>o
def emptied(gh:World):World:={ gh with heap:=gh.heap.map Rq }
theorem Je{y:Lk}{i:Nat}{av:Option Addr}(hw:WR (PB prog false) fns E Z gh y.w0)(Nz:∀ a b,E a b->y.Fz b)(Gc:SR fns E 0 (y.hc i) av (y.ha i))(hl:y.hl i=0)(opens:∀ w:World,Calls prog 59 #[.slice av 0 (y.hc i)] w (λe _=>∃ a d c,e=.returned (fv (y.kd i) (y.lb i) (y.sq i) a d c (y.st i)))):YI prog y i:=by
 have hsz:(emptied gh).heap.size=gh.heap.size:=by simp[emptied]
 have hget:∀ a:Nat,(emptied gh).heap[a]?=(gh.heap[a]?).map Rq:=λa=>by simp[emptied]
 have hAR:∀ a b,AR fns E a b->AR (iL prog λ_=>0) (λa b=>E a b/\(fns.pn a\/∃ x,av=some x/\a=x.block)) a b:=λa b h=>⟨⟨h.1,.inl h.2.2.2.1⟩,h.2.1,h.2.2.1,.inr rfl,Nat.zero_le _⟩
 refine⟨λ_=>0,λa b=>E a b/\(fns.pn a\/∃ x,av=some x/\a=x.block),emptied gh,.slice av 0 (y.hc i),λa b x=>Nz a b x.1,⟨λa hz=>?_,⟨λ_ _=>rfl,λh=>by cases h⟩,by rw[hsz];exact hw.j5,hw.mG,λa b x=>hw.glob a b x.1,λa b a' b' x y=>?_,λa b x=>?_⟩,?_,λw _=>opens w⟩
 .obtain⟨b,hb⟩:=hz
  rw[hsz]
  exact(hw.lt hb.1).1
 .refine⟨(hw.inj _ _ _ _ x.1 y.1).1,λe _=>?_⟩
  rcases x.2 with h|⟨z,hz,rfl⟩
  .exact(hw.inj _ _ _ _ x.1 y.1).2 e h
  .rcases y.2 with h'|⟨z',hz',rfl⟩
   .exact((hw.inj _ _ _ _ y.1 x.1).2 e.symm h').symm
   .rw[hz] at hz'
    rw[Option.some.inj hz']
 .rcases hw.cells a b x.1 with ⟨c,c',el,fr,fr',k1,k2,_,_,_⟩|⟨x1,x2,l,k1,k2,k3⟩
  .exact .inl ⟨#[],c',el,(0,0),fr',by rw[hget,k1];rfl,k2,⟨Nat.zero_le _,λhz=>(hz ⟨b,x⟩).elim,λi h=>by simp at h⟩,λhz=>(hz ⟨b,x⟩).elim,λ_ i h=>by simp at h⟩
  .exact .inr ⟨x1,x2,l,by rw[hget,k1];rfl,k2,hAR _ _ k3⟩
 .rw[hl]
  refine aJ.2 ⟨_,rfl,?_⟩
  rcases Gc with Gc|⟨e1,e2,e3⟩
  .refine .inl ?_
   cases av with
   |none=>rw[iJ] at Gc;rw[Gc];trivial
   |some a=>obtain⟨b,e,h⟩:=dR.1 Gc;rw[e];exact⟨⟨h.1,.inr ⟨a,rfl,rfl⟩⟩,h.2.1,h.2.2.1,Nat.zero_le _⟩
  .exact .inr ⟨rfl,e2,e3⟩
structure RPg(fns:Fx)(E:Nat->Nat->Prop)(w:World)(pa:Option Addr)(i:Nat)(av x:Option Addr)(p:List Nat)(c:Nat):Prop where
 cell:∃ b o,pa=some ⟨b,o,none⟩/\(∃ a,E a b)/\w.cell? ⟨b,o+i,none⟩=some (.slice x p.length c)
 os:SR fns E p.length c av x
 all:aW p
 lies:aj.bN w x p
 cap:p.length<=c
 most:p.length<=9223372036854775807
theorem VE{w:World}{F:Nat->Prop}{pa:Option Addr}{l pc n m0:Nat}{p:Nat->List Nat}{hc:Nat->Nat}{av ha:Nat->Option Addr}{cs:List Frame}(hw:WR (PB prog false) fns E Z gh w)(Nz:∀ a b,E a b->F b)(hF:∀ b,F b->b<w.heap.size)(hl:l<=4096)(hp:∀ i,i<l->RPg fns E w pa i (av i) (ha i) (p i) (hc i)):(Jd w pa l pc n m0 F p hc ha cs).Ok prog:=by
 have hg:prog.globals.size<w.heap.size:=hw.mG
 have k0:=Rf w (.slice pa l pc) l
 have WW:∀ x:Addr,x.block<w.heap.size->(Nc w (.slice pa l pc) l).cell? x=w.cell? x:=λx hx=>by unfold World.cell?;rw[k0.old _ hx]
 have ks:=k0.size
 refine⟨k0.h2,k0.h8,.inr (.inl rfl),.inr (.inr rfl),λb hb=>?_,⟨?_,?_,?_⟩,?_,λi hi=>?_,λi hi=>?_,hl⟩
 .show b<(Nc w (.slice pa l pc) l).heap.size/\b≠w.heap.size+1/\b≠w.heap.size+2/\b≠w.heap.size+3
  rcases hb with hb|hb|hb
  .have:=hF b hb;omega
  .omega
  .omega
 .show w.heap.size+1<(Nc w (.slice pa l pc) l).heap.size
  omega
 .show w.heap.size+2<(Nc w (.slice pa l pc) l).heap.size
  omega
 .show w.heap.size+3<(Nc w (.slice pa l pc) l).heap.size
  omega
 .show prog.globals.size<(Nc w (.slice pa l pc) l).heap.size
  omega
 .obtain⟨b,o,e,hb,hcell⟩:=(hp i hi).cell
  obtain⟨a,hb⟩:=hb
  exact⟨b,o,e,.inl (Nz a b hb),(WW _ (hF b (Nz a b hb))).trans hcell⟩
 .have hpi:=hp i hi
  have hopen:∀ (z:Option Addr) (wx:World),aj.bN wx z (p i)->Calls prog 59 #[.slice z (p i).length (hc i)] wx (λe _=>∃ a d c,e=.returned (fv (zu (p i)) (zw (p i)) (BG (p i)) a d c (stP (p i)))):=λz wx hz=>(Ni z (p i) (hc i) wx hpi.all hz hpi.cap hpi.most).mono λe w' ⟨a,d,c,h,_⟩=>⟨a,d,c,h⟩
  by_cases h0:p i=[]
  .have hwr:WR (PB prog false) fns E Z gh (Nc w (.slice pa l pc) l):=hw.ext (λ_ _ _=>rfl) (λa b x=>k0.old b (hw.lt x).2) (Nat.le_refl _) (by omega)
   refine Je (y:=Jd w pa l pc n m0 F p hc ha cs) (av:=av i) hwr (λa b x=>.inl (Nz a b x)) (by have:=hpi.os;rw[h0] at this;exact this) (by show (p i).length=0;rw[h0];rfl) (λwx=>?_)
   have:=hopen (av i) wx (.inl h0)
   rw[show (p i).length=0 by rw[h0];rfl] at this
   exact this
  .obtain⟨b,o,e,hby⟩:=hpi.lies.resolve_left h0
   have hpos:0<(p i).length:=List.length_pos_iff.2 h0
   have hEb:F b:=by
    have hos:=hpi.os.resolve_right (λx=>by omega)
    rw[e] at hos
    cases hav:av i with
    |none=>rw[hav] at hos;exact hos.elim
    |some a=>rw[hav] at hos;exact Nz _ _ hos.1
   have hc0:=hby 0 hpos
   obtain⟨cc,el,fr,hcc⟩:∃ cc el fr,w.heap[b]?=some (.cells cc el fr):=by
    unfold World.cell? at hc0
    cases hh:w.heap[b]? with
    |none=>simp[hh] at hc0
    |some ob =>
     cases ob with
     |cells cc el fr=>exact⟨cc,el,fr,rfl⟩
     |_=>simp[hh] at hc0
   have hcl:∀ j,j<(p i).length->cc[o+j]?=some (.int .u8 (((p i)[j]?.getD 0:Nat):Int)):=λj hj=>by
    have:=hby j hj
    simpa [World.cell?,hcc] using this
   have hlast:=hcl ((p i).length-1) (by omega)
   have hsz:=(Array.getElem?_eq_some_iff.1 hlast).1
   refine Qz (y:=Jd w pa l pc n m0 F p hc ha cs) (ad:=⟨b,o,none⟩) (cc:=cc) (el:=el) (fr:=fr) e (.inl hEb) (by show prog.globals.size<(Nc w (.slice pa l pc) l).heap.size;omega) ((k0.old b (hF b hEb)).trans hcc) (by show o+(p i).length<=cc.size;omega) (λj hj=>⟨_,hcl j hj⟩) (λwx hx=>?_)
   refine hopen (ha i) wx (.inr ⟨b,o,e,λj hj=>?_⟩)
   exact(hx j hj).trans ((WW ⟨b,o+j,none⟩ (hF b hEb)).trans (hby j hj))
end
